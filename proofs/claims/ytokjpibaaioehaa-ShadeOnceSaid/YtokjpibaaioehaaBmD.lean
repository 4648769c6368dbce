/- The next number of a set. -/
import Derived.Test.YtokjpibaaioehaaBmC
namespace Go.Proofs.Ytokjpibaaioehaa.bm
open Go.ChangeShapes Go.WideShapes Go.ChangeAt Go.RowKit
set_option linter.unusedVariables false
section
variable {w : World} {g n : Nat} {b : Bool} {ws : List Nat}
/-- No number from j on, as far as looked. -/
def Gone (ws : List Nat) (j k r : Nat) : Prop := j ≤ 64 * k + r ∧ r < 64 ∧ ∀ i, j ≤ i → i < 64 * k + r → bit ws i = false
theorem Gone.more {j k r : Nat} (h : Gone ws j k r) (h0 : high (ws.getD k 0) r = 0) : Gone ws j (k + 1) 0 := by
  obtain ⟨h1, h2, h3⟩ := h
  refine ⟨by omega, by omega, fun i hi hlt => ?_⟩
  by_cases hc : i < 64 * k + r
  · exact h3 i hi hc
  · have := high_zero _ r (i % 64) h2 h0 (by omega) (by omega)
    unfold bit
    rw [show i / 64 = k by omega]
    exact this
theorem Gone.none {n : Nat} {j r : Nat} {z : Int} (hf : Fine n ws) (h : Gone ws j 32 r) (hz : ∀ i : Nat, z ≤ i → j ≤ i) : nextOf (nums ws) z = -1 := by
  refine next_none hf (fun i hi => ?_)
  by_cases hc : i < 64 * 32 + r
  · exact h.2.2 i (hz i hi) hc
  · cases e : bit ws i with
    | false => rfl
    | true => have := hf.2.2.1 i e; have := hf.2.2.2; omega
theorem Gone.found {n : Nat} {j k r : Nat} {z : Int} (hf : Fine n ws) (h : Gone ws j k r) (hk : k < 32) (h0 : high (ws.getD k 0) r ≠ 0) (hz : z ≤ j) (hj : ∀ i : Nat, z ≤ i → j ≤ i) :
    Lib.ctz 64 (high (ws.getD k 0) r) < 64 ∧ nextOf (nums ws) z = ((64 * k + Lib.ctz 64 (high (ws.getD k 0) r) : Nat) : Int) := by
  obtain ⟨c1, c2, c3, c4⟩ := high_ctz _ r h.2.1 (hf.2.1 k) h0
  generalize Lib.ctz 64 (high (ws.getD k 0) r) = c at c1 c2 c3 c4
  have h1 := h.1
  refine ⟨c1, next_found hf ?_ (by omega) (fun i hi hlt => ?_)⟩
  · unfold bit
    rw [show (64 * k + c) / 64 = k by omega, show (64 * k + c) % 64 = c by omega]
    exact c2
  · by_cases hc : i < 64 * k + r
    · exact h.2.2 i (hj i hi) hc
    · unfold bit
      rw [show i / 64 = k by omega]
      exact c4 _ (by omega) (by omega)
theorem below_wrap {r p : Nat} (hp : 2 ^ r = p) (hr : r < 64) : IntKind.u64.wrap ((p : Int) - 1) = ((2 ^ r - 1 : Nat) : Int) := by
  subst hp
  have := Nat.pow_lt_pow_right (a := 2) (by omega) hr
  have := Nat.two_pow_pos r
  rw [IntKind.wrap_u64]
  generalize 2 ^ r = p at *
  omega
theorem look_high (h : SetAt w g b n ws) (k r : Nat) (hr : r < 64) : bits .andNot .u64 ((ws.getD k 0 : Nat) : Int) ((2 ^ r - 1 : Nat) : Int) = (high (ws.getD k 0) r : Nat) :=
  u64_andNot_nat _ _ (h.lt_word _) (pow_one_lt hr)
theorem Drew.same {w w' : World} (h : w' = w) : Drew w w' := ⟨0, h⟩
end
end Go.Proofs.Ytokjpibaaioehaa.bm
