/- The numbers alone, behind layer 1's functions: products, quotients and remainders in 64 bits. -/
import Derived.RowKit
namespace Go.Proofs.Ytagahkofjgbfhaa.calls
open Go Go.RowKit
/-- A number that 64 bits hold. -/
def fits (n : Int) : Bool := decide (-9223372036854775808 ≤ n) && decide (n ≤ 9223372036854775807)
theorem fits_iff {n : Int} : fits n = true ↔ (-9223372036854775808 ≤ n ∧ n ≤ 9223372036854775807) := by simp [fits]
theorem fits_no {n : Int} : fits n = false ↔ (n < -9223372036854775808 ∨ 9223372036854775807 < n) := by
  rw [← Bool.not_eq_true, fits_iff]; omega
theorem absm (p b : Int) (hb : b ≠ 0) : ((p.tmod b).natAbs : Int) < b.natAbs := by
  rw [Int.natAbs_tmod]; exact_mod_cast Nat.mod_lt _ (by omega)
theorem absd (p b : Int) : ((p.tdiv b).natAbs) = p.natAbs / b.natAbs := Int.natAbs_tdiv p b
theorem mul_no_math (a b : Int) (ha : -9223372036854775808 ≤ a ∧ a ≤ 9223372036854775807) (hb : -9223372036854775808 ≤ b ∧ b ≤ 9223372036854775807) (hb0 : b ≠ 0)
    (h : a * b < -9223372036854775808 ∨ 9223372036854775807 < a * b) : wrap64 ((wrap64 (a * b)).tdiv b) ≠ a ∨ (b = -1 ∧ a = -9223372036854775808) := by
  by_cases hq : wrap64 ((wrap64 (a * b)).tdiv b) = a
  · right
    obtain ⟨p, hp⟩ : ∃ p, p = wrap64 (a * b) := ⟨_, rfl⟩
    have hp' := hp
    unfold wrap64 at hp'
    obtain ⟨n, hn⟩ : ∃ n, n = a * b := ⟨_, rfl⟩
    rw [← hp] at hq
    rw [← hn] at hp' h
    have e := Int.mul_tdiv_add_tmod p b
    have m := absm p b hb0
    have d := absd p b
    obtain ⟨q, hqq⟩ : ∃ q, q = p.tdiv b := ⟨_, rfl⟩
    obtain ⟨r, hr⟩ : ∃ r, r = p.tmod b := ⟨_, rfl⟩
    rw [← hqq] at hq e d
    rw [← hr] at m e
    have dl : q.natAbs ≤ p.natAbs := by rw [d]; exact Nat.div_le_self _ _
    have hq2 := hq
    unfold wrap64 at hq2
    by_cases hqa : q = a
    · subst hqa
      have : b * q = n := by rw [hn, Int.mul_comm]
      rw [this] at e
      omega
    · have hq63 : q = 9223372036854775808 := by omega
      have hb1 : b.natAbs = 1 := by
        rcases Nat.lt_or_ge 1 b.natAbs with h1 | h1
        · have := Nat.div_le_div_left (a := p.natAbs) (show 2 ≤ b.natAbs by omega) (by omega)
          omega
        · omega
      have : b = 1 ∨ b = -1 := by omega
      rcases this with rfl | rfl
      · omega
      · omega
  · exact Or.inl hq
theorem down_math (a b : Int) (hb : 1 ≤ b) : (a.tmod b < 0 → a.tdiv b - 1 = a / b) ∧ (¬ a.tmod b < 0 → a.tdiv b = a / b) := by
  have e := Int.mul_tdiv_add_tmod a b
  have m : ((a.tmod b).natAbs : Int) < b.natAbs := absm a b (by omega)
  constructor
  · intro h
    symm
    rw [Int.ediv_eq_iff_of_pos (by omega)]
    rw [Int.sub_mul, Int.one_mul, Int.mul_comm _ b]
    omega
  · intro h
    symm
    rw [Int.ediv_eq_iff_of_pos (by omega)]
    rw [Int.mul_comm _ b]
    omega
theorem up_math (a b : Int) (hb : 1 ≤ b) : (0 < a.tmod b → a.tdiv b + 1 = -((-a) / b)) ∧ (¬ 0 < a.tmod b → a.tdiv b = -((-a) / b)) := by
  have h := down_math (-a) b hb
  rw [Int.neg_tdiv, Int.neg_tmod] at h
  obtain ⟨h1, h2⟩ := h
  constructor
  · intro x
    have := h1 (by omega)
    omega
  · intro x
    have := h2 (by omega)
    omega
/-- What is known of a quotient cut towards nought: it is no farther from nought than a, and far from the ends where something is left over. -/
theorem quo_facts (a b : Int) (hb : 1 ≤ b) (ha : -9223372036854775808 ≤ a ∧ a ≤ 9223372036854775807) :
    -9223372036854775808 ≤ a.tdiv b ∧ a.tdiv b ≤ 9223372036854775807 ∧ (a.tmod b < 0 → -9223372036854775808 ≤ a.tdiv b - 1) ∧ (0 < a.tmod b → a.tdiv b + 1 ≤ 9223372036854775807) ∧
    -9223372036854775808 ≤ a.tdiv b * b ∧ a.tdiv b * b ≤ 9223372036854775807 ∧ (a < a.tdiv b * b ↔ a.tmod b < 0) ∧ (a.tdiv b * b < a ↔ 0 < a.tmod b) := by
  have e := Int.mul_tdiv_add_tmod a b
  rw [Int.mul_comm] at e
  have d : (a.tdiv b).natAbs = a.natAbs / b.natAbs := absd a b
  have dl : (a.tdiv b).natAbs ≤ a.natAbs := by rw [d]; exact Nat.div_le_self _ _
  have dm : (a.tdiv b * b).natAbs ≤ a.natAbs := by rw [Int.natAbs_mul, d]; exact Nat.div_mul_le_self _ _
  have m : ((a.tmod b).natAbs : Int) < b.natAbs := absm a b (by omega)
  have hs : b = 1 ∨ (a.tdiv b).natAbs ≤ a.natAbs / 2 := by
    rcases Int.lt_or_le 1 b with h | h
    · right; rw [d]; exact Nat.div_le_div_left (by omega) (by omega)
    · left; omega
  have g1 : 0 ≤ a → 0 ≤ a.tdiv b := fun h => Int.tdiv_nonneg h (by omega)
  have g2 : a ≤ 0 → a.tdiv b ≤ 0 := fun h => by
    have := Int.tdiv_nonneg (a := -a) (b := b) (by omega) (by omega)
    rw [Int.neg_tdiv] at this; omega
  have g3 : a ≤ 0 → a.tdiv b * b ≤ 0 := fun h => Int.mul_nonpos_of_nonpos_of_nonneg (g2 h) (by omega)
  have g4 : 0 ≤ a → 0 ≤ a.tdiv b * b := fun h => Int.mul_nonneg (g1 h) (by omega)
  refine ⟨by omega, by omega, ?_, ?_, by omega, by omega, by omega, by omega⟩
  · intro h; rcases hs with rfl | hs
    · simp at m; omega
    · omega
  · intro h; rcases hs with rfl | hs
    · simp at m; omega
    · omega
theorem sign_math (a b : Int) (ha : a ≠ 0) (hb : b ≠ 0) : decide (a * b < 0) = (decide (a < 0) != decide (b < 0)) := by
  rcases Int.lt_or_gt_of_ne ha with h | h <;> rcases Int.lt_or_gt_of_ne hb with k | k
  · have := Int.mul_pos_of_neg_of_neg h k; simp [show ¬ a * b < 0 by omega, h, k]
  · have := Int.mul_neg_of_neg_of_pos h k; simp [this, h, show ¬ b < 0 by omega]
  · have := Int.mul_neg_of_pos_of_neg h k; simp [this, show ¬ a < 0 by omega, k]
  · have := Int.mul_pos h k; simp [show ¬ a * b < 0 by omega, show ¬ a < 0 by omega, show ¬ b < 0 by omega]
end Go.Proofs.Ytagahkofjgbfhaa.calls
