/- Texts that this claim stands on. -/
import Derived.Deep.Slices
import Derived.Deep.Fields
import Derived.OpenShut
import Derived.Test.YtfhebjkoojodiaaDoorQGenB
import Derived.Test.YtfhebjkoojodiaaDoorQGen
namespace Go.Proofs.YtfhebjkoojodiaaDoor.gen
open Go.Joins Go.ChangeShapes Go.WideShapes Go.RowKit Go.Deep
def Rws (w : World) (B : Nat) (A : Option Addr) (n nf : Nat) (f : Nat → Nat → Int) : Prop :=
  ∀ i, i < n → ∃ b off, A = some ⟨b, off, none⟩ ∧ b < B ∧ (∀ j, j < nf → w.cell? ⟨b, off + i * nf + j, none⟩ = some (.int .i64 (f i j))) ∧ ∀ j, j < nf → -9223372036854775808 ≤ f i j ∧ f i j ≤ 9223372036854775807
section
variable {H : Type} {enc : TypeId × Value → H} {P : Program} {w : World} {fuel : Nat}
theorem open_list {t e : TypeId} {A : Option Addr} {len cap : Nat} {x : DataW H × List MemPlace} (ht : P.underlying t = some (.slice e)) (he : P.underlying e = some (.int .i64)) (hC : P.cellsOf e = 1)
    (h : DataW.trod enc P w 0 (fun _ => true) true fuel t [.slice A len cap] = some x) :
    ∃ xs, Rd w w.heap.size A len cap xs ∧ (∀ i, -9223372036854775808 ≤ xs.getD i 0 ∧ xs.getD i 0 ≤ 9223372036854775807) ∧ len ≤ cap ∧ cap ≤ maxLen := by
  rcases Go.ChangeShapes.open_ints ht he hC h with ⟨hcs, rfl⟩ | ⟨y, l, c, zs, hcs, _, hl, hm, hz, rfl, hcell, hwz⟩
  · simp at hcs
    obtain ⟨rfl, rfl, rfl⟩ := hcs
    exact ⟨[], ⟨rfl, fun _ => ⟨rfl, rfl⟩, fun _ e => by cases e⟩, fun i => by simp, by omega, by unfold maxLen; omega⟩
  · simp at hcs
    obtain ⟨rfl, rfl, rfl⟩ := hcs
    simp at hz
    refine ⟨zs.take len, ⟨by rw [List.length_take]; omega, fun e => (by cases e), fun ad e i hi => ?_⟩, fun i => ?_, hl, hm⟩
    · injection e with e
      subst e
      have h := hcell i (by omega)
      refine ⟨by have := World.block_lt_of_cell? _ _ h; rwa [block_of_add] at this, ?_⟩
      rw [h]; simp [List.getD_eq_getElem?_getD, hi]
    · rw [List.getD_eq_getElem?_getD]
      cases e : (zs.take len)[i]? with
      | none => simp
      | some n => exact bounds_i64 (hwz n (List.mem_of_mem_take (List.mem_of_getElem? e)))
end
end Go.Proofs.YtfhebjkoojodiaaDoor.gen
