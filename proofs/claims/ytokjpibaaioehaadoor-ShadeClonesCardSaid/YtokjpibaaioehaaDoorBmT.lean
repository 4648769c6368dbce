/- The library's table, as a row lists it. -/
import Derived.Test.YtokjpibaaioehaaDoorBmA
import Derived.Lib.LaidTab
namespace Go.Proofs.YtokjpibaaioehaaDoor.bm
open Go.RowKit
theorem gTab : Tryd.prog.globalNamed "math/bits.deBruijn64tab" = some 0 := by kernel_rfl
theorem gTabType : (Tryd.prog.globals[0]?).map (·.type) = some 86 := by kernel_rfl
theorem tab_cell (j : Nat) (hj : j < 64) : (Lib.deBruijn64tab.map fun n : Nat => (n : Int)).getD j 0 = (Lib.deBruijn64tab.getD j 0 : Nat) := by
  have h : j < Lib.deBruijn64tab.length := hj
  simp [List.getD_eq_getElem?_getD, h]
/-- Where the row's table is laid, the walks' table is. -/
theorem tab_of_laid {W : World} (h : laidMet Tryd.prog [("math/bits.deBruijn64tab", Rows.laid_math_bits_deBruijn64tab)] W) : Tab W := by
  have t := Lib.tabIs_of_head (k := .u8) (zs := Lib.deBruijn64tab.map fun n : Nat => (n : Int)) (rest := []) gTab gTabType Tryd.underlying86 Tryd.underlying5 (by kernel_rfl) (by kernel_rfl) h
  have c : ∀ j, j < 64 → W.cell? ⟨0, j, none⟩ = some (.int .u8 (Lib.deBruijn64tab.getD j 0 : Nat)) := fun j hj => by
    rw [← tab_cell j hj]
    exact t.cell gTab j (by rw [List.length_map]; exact hj)
  exact ⟨World.block_lt_of_cell? W _ (c 0 (by decide)), c⟩
end Go.Proofs.YtokjpibaaioehaaDoor.bm
