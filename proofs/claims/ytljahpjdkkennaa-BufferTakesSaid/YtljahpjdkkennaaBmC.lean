/- What Count, Next and Clear do to a set in memory. -/
import Derived.Test.YtljahpjdkkennaaBmB
import Derived.Lib.SliceRun
import Derived.ChangeKeysEq
import Derived.Deep.MidRow
namespace Go.Proofs.Ytljahpjdkkennaa.bm
open Go.ChangeShapes Go.WideShapes Go.ChangeAt Go.RowKit
set_option linter.unusedVariables false

/-! ### An array within a block -/
/-! ### Written over -/
def over (L : List Value) (o : Nat) : List Value → List Value
  | [] => L
  | v :: vs => over (L.set o v) (o + 1) vs
theorem over_heap {g : Nat} {t : TypeId} : ∀ (vs : List Value) (o : Nat) (w : World) (L : List Value), w.heap[g]? = some (.cells L.toArray t (0, 0)) →
    (w.setCells g o vs).heap[g]? = some (.cells (over L o vs).toArray t (0, 0)) ∧ w.grownBy (w.setCells g o vs) (some g)
  | [], _, w, L, h => ⟨h, grown_refl _ _⟩
  | v :: vs, o, w, L, h => by
    have h1 := heap_setCell_same w g o _ _ v h
    rw [show (L.toArray.setIfInBounds o v) = (L.set o v).toArray by simp] at h1
    obtain ⟨i1, i2⟩ := over_heap vs (o + 1) _ _ h1
    have g1 : w.grownBy (w.setCell ⟨g, o, none⟩ v) (some g) := ⟨rfl, rfl, rfl, by simp, fun i _ hi => heap_setCell_other w ⟨g, o, none⟩ i _ (fun e => hi (by simp [e]))⟩
    exact ⟨i1, g1.trans i2⟩
theorem over_end (z : Value) : ∀ (B A : List Value), over (A ++ B) A.length (List.replicate B.length z) = A ++ List.replicate B.length z
  | [], A => by simp [over]
  | v :: B, A => by
    have ih := over_end z B (A ++ [z])
    rw [List.length_cons, List.replicate_succ, over]
    rw [show (A ++ v :: B).set A.length z = A ++ [z] ++ B by simp]
    rw [show A.length + 1 = (A ++ [z]).length by simp, ih]
    simp

section
variable {w : World} {g n : Nat} {b : Bool} {ws : List Nat}
theorem vals_length (ws : List Nat) : (vals ws).length = ws.length := by simp [vals]
theorem zero_vals : vals zeros = List.replicate 32 (.int .u64 0) := by simp [vals, zeros]
end
end Go.Proofs.Ytljahpjdkkennaa.bm
