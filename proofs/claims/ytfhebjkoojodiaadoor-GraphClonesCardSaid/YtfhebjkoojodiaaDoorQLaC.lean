/- Texts that this claim stands on. -/
import Derived.Test.YtfhebjkoojodiaaDoorRows
import Derived.Lib.LaidTab
import Derived.Test.YtfhebjkoojodiaaDoorQCfB
import Derived.Test.YtfhebjkoojodiaaDoorQGenB
namespace Go.Proofs.YtfhebjkoojodiaaDoor.lac
open Go.ChangeShapes Go.WideShapes Go.ChangeAt Go.RowKit gen
set_option maxRecDepth 100000
theorem gTab : Tryd.prog.globalNamed "scutage/config.spans" = some 0 := by kernel_rfl
theorem gTabType : (Tryd.prog.globals[0]?).map (·.type) = some 90 := by kernel_rfl
theorem cells_span : Tryd.prog.cellsOf 89 = 2 := by kernel_rfl
theorem cells_cfg : Tryd.prog.cellsOf 23 = 10 := by kernel_rfl
theorem table {W : World} (h : laidMetH Tryd.prog [("scutage/config.spans", Rows.laid_scutage_config_spans)] W) : cf.Table W := by
  obtain ⟨_, hc⟩ := rows_of_laid (k := .i64) (rows := [[2, 64], [1, 8], [1, 64], [1, 16], [0, 1000], [0, 65535], [0, 64], [1, 16], [1, 256], [0, 64]]) (rest := []) gTab gTabType Tryd.underlying90 Tryd.underlying89 (by kernel_rfl) (intFields_at (by kernel_rfl)) cells_span h
  refine ⟨World.block_lt_of_cell? W _ (hc 0 (by decide) 0 (by decide)), fun i hi => ?_⟩
  have h0 := hc i hi 0 (by decide)
  have h1 := hc i hi 1 (by decide)
  have hk' : i = 0 ∨ i = 1 ∨ i = 2 ∨ i = 3 ∨ i = 4 ∨ i = 5 ∨ i = 6 ∨ i = 7 ∨ i = 8 ∨ i = 9 := by omega
  rcases hk' with rfl | rfl | rfl | rfl | rfl | rfl | rfl | rfl | rfl | rfl <;> exact ⟨h0, h1⟩
theorem ten_list {zs : List Int} (h : zs.length = 10) : ∃ a0 a1 a2 a3 a4 a5 a6 a7 a8 a9 : Int, zs = [a0, a1, a2, a3, a4, a5, a6, a7, a8, a9] := by
  match zs, h with
  | [a0, a1, a2, a3, a4, a5, a6, a7, a8, a9], _ => exact ⟨_, _, _, _, _, _, _, _, _, _, rfl⟩
theorem open_cfg {H : Type} {enc : TypeId × Value → H} {w : World} {base : Nat} {spare : Nat → Bool} {held : Bool} {r : Reach} {b0 : Nat} {v : Value} {d : DataW H} {p : List MemPlace}
    (hv : Value.okWide Tryd.prog w r b0 23 v) (h : DataW.Trod enc Tryd.prog w base spare held 23 v d p) :
    ∃ a0 a1 a2 a3 a4 a5 a6 a7 a8 a9 : Int, v = .agg #[.int .i64 a0, .int .i64 a1, .int .i64 a2, .int .i64 a3, .int .i64 a4, .int .i64 a5, .int .i64 a6, .int .i64 a7, .int .i64 a8, .int .i64 a9] := by
  obtain ⟨cs, rfl, hsz⟩ := okWide_struct Tryd.underlying23 hv
  obtain ⟨fuel, hf⟩ := h
  obtain ⟨zs, hz, hc, hx, hw⟩ := open_ints (k := .i64) Tryd.underlying23 (by kernel_rfl) (intFields_at (by kernel_rfl)) cells_cfg hf
  have e : cs = (zs.map (Value.int .i64)).toArray := by
    apply Array.ext'
    simpa [Value.cells] using hc
  subst e
  obtain ⟨a0, a1, a2, a3, a4, a5, a6, a7, a8, a9, rfl⟩ := ten_list hz
  exact ⟨_, _, _, _, _, _, _, _, _, _, rfl⟩
end Go.Proofs.YtfhebjkoojodiaaDoor.lac
