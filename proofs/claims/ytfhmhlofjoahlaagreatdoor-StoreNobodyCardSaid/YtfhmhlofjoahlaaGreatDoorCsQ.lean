/- Joined: CalcM, CalcD, CsZ. -/
import Derived.RowKit
import Derived.Test.YtfhmhlofjoahlaaGreatDoorRows
import Derived.Lib.Hide
import Derived.WalkKit
import Derived.ProofKit
import Derived.OpenShut
import Derived.Below
/- The numbers alone, behind layer 1's functions: products, quotients and remainders in 64 bits. -/
namespace Go.Proofs.YtfhmhlofjoahlaaGreatDoor.calls
open Go Go.RowKit
/-- A number that 64 bits hold. -/
def fits (n : Int) : Bool := decide (-9223372036854775808 ≤ n) && decide (n ≤ 9223372036854775807)
theorem fits_iff {n : Int} : fits n = true ↔ (-9223372036854775808 ≤ n ∧ n ≤ 9223372036854775807) := by simp [fits]
theorem fits_no {n : Int} : fits n = false ↔ (n < -9223372036854775808 ∨ 9223372036854775807 < n) := by
  rw [← Bool.not_eq_true, fits_iff]; omega
theorem absm (p b : Int) (hb : b ≠ 0) : ((p.tmod b).natAbs : Int) < b.natAbs := by
  rw [Int.natAbs_tmod]; exact_mod_cast Nat.mod_lt _ (by omega)
theorem absd (p b : Int) : ((p.tdiv b).natAbs) = p.natAbs / b.natAbs := Int.natAbs_tdiv p b
theorem mul_no_math (a b : Int) (ha : -9223372036854775808 ≤ a ∧ a ≤ 9223372036854775807) (hb : -9223372036854775808 ≤ b ∧ b ≤ 9223372036854775807) (hb0 : b ≠ 0)
    (h : a * b < -9223372036854775808 ∨ 9223372036854775807 < a * b) : wrap64 ((wrap64 (a * b)).tdiv b) ≠ a ∨ (b = -1 ∧ a = -9223372036854775808) := by
  by_cases hq : wrap64 ((wrap64 (a * b)).tdiv b) = a
  · right
    obtain ⟨p, hp⟩ : ∃ p, p = wrap64 (a * b) := ⟨_, rfl⟩
    have hp' := hp
    unfold wrap64 at hp'
    obtain ⟨n, hn⟩ : ∃ n, n = a * b := ⟨_, rfl⟩
    rw [← hp] at hq
    rw [← hn] at hp' h
    have e := Int.mul_tdiv_add_tmod p b
    have m := absm p b hb0
    have d := absd p b
    obtain ⟨q, hqq⟩ : ∃ q, q = p.tdiv b := ⟨_, rfl⟩
    obtain ⟨r, hr⟩ : ∃ r, r = p.tmod b := ⟨_, rfl⟩
    rw [← hqq] at hq e d
    rw [← hr] at m e
    have dl : q.natAbs ≤ p.natAbs := by rw [d]; exact Nat.div_le_self _ _
    have hq2 := hq
    unfold wrap64 at hq2
    by_cases hqa : q = a
    · subst hqa
      have : b * q = n := by rw [hn, Int.mul_comm]
      rw [this] at e
      omega
    · have hq63 : q = 9223372036854775808 := by omega
      have hb1 : b.natAbs = 1 := by
        rcases Nat.lt_or_ge 1 b.natAbs with h1 | h1
        · have := Nat.div_le_div_left (a := p.natAbs) (show 2 ≤ b.natAbs by omega) (by omega)
          omega
        · omega
      have : b = 1 ∨ b = -1 := by omega
      rcases this with rfl | rfl
      · omega
      · omega
  · exact Or.inl hq
theorem down_math (a b : Int) (hb : 1 ≤ b) : (a.tmod b < 0 → a.tdiv b - 1 = a / b) ∧ (¬ a.tmod b < 0 → a.tdiv b = a / b) := by
  have e := Int.mul_tdiv_add_tmod a b
  have m : ((a.tmod b).natAbs : Int) < b.natAbs := absm a b (by omega)
  constructor
  · intro h
    symm
    rw [Int.ediv_eq_iff_of_pos (by omega)]
    rw [Int.sub_mul, Int.one_mul, Int.mul_comm _ b]
    omega
  · intro h
    symm
    rw [Int.ediv_eq_iff_of_pos (by omega)]
    rw [Int.mul_comm _ b]
    omega
theorem up_math (a b : Int) (hb : 1 ≤ b) : (0 < a.tmod b → a.tdiv b + 1 = -((-a) / b)) ∧ (¬ 0 < a.tmod b → a.tdiv b = -((-a) / b)) := by
  have h := down_math (-a) b hb
  rw [Int.neg_tdiv, Int.neg_tmod] at h
  obtain ⟨h1, h2⟩ := h
  constructor
  · intro x
    have := h1 (by omega)
    omega
  · intro x
    have := h2 (by omega)
    omega
/-- What is known of a quotient cut towards nought: it is no farther from nought than a, and far from the ends where something is left over. -/
theorem quo_facts (a b : Int) (hb : 1 ≤ b) (ha : -9223372036854775808 ≤ a ∧ a ≤ 9223372036854775807) :
    -9223372036854775808 ≤ a.tdiv b ∧ a.tdiv b ≤ 9223372036854775807 ∧ (a.tmod b < 0 → -9223372036854775808 ≤ a.tdiv b - 1) ∧ (0 < a.tmod b → a.tdiv b + 1 ≤ 9223372036854775807) ∧
    -9223372036854775808 ≤ a.tdiv b * b ∧ a.tdiv b * b ≤ 9223372036854775807 ∧ (a < a.tdiv b * b ↔ a.tmod b < 0) ∧ (a.tdiv b * b < a ↔ 0 < a.tmod b) := by
  have e := Int.mul_tdiv_add_tmod a b
  rw [Int.mul_comm] at e
  have d : (a.tdiv b).natAbs = a.natAbs / b.natAbs := absd a b
  have dl : (a.tdiv b).natAbs ≤ a.natAbs := by rw [d]; exact Nat.div_le_self _ _
  have dm : (a.tdiv b * b).natAbs ≤ a.natAbs := by rw [Int.natAbs_mul, d]; exact Nat.div_mul_le_self _ _
  have m : ((a.tmod b).natAbs : Int) < b.natAbs := absm a b (by omega)
  have hs : b = 1 ∨ (a.tdiv b).natAbs ≤ a.natAbs / 2 := by
    rcases Int.lt_or_le 1 b with h | h
    · right; rw [d]; exact Nat.div_le_div_left (by omega) (by omega)
    · left; omega
  have g1 : 0 ≤ a → 0 ≤ a.tdiv b := fun h => Int.tdiv_nonneg h (by omega)
  have g2 : a ≤ 0 → a.tdiv b ≤ 0 := fun h => by
    have := Int.tdiv_nonneg (a := -a) (b := b) (by omega) (by omega)
    rw [Int.neg_tdiv] at this; omega
  have g3 : a ≤ 0 → a.tdiv b * b ≤ 0 := fun h => Int.mul_nonpos_of_nonpos_of_nonneg (g2 h) (by omega)
  have g4 : 0 ≤ a → 0 ≤ a.tdiv b * b := fun h => Int.mul_nonneg (g1 h) (by omega)
  refine ⟨by omega, by omega, ?_, ?_, by omega, by omega, by omega, by omega⟩
  · intro h; rcases hs with rfl | hs
    · simp at m; omega
    · omega
  · intro h; rcases hs with rfl | hs
    · simp at m; omega
    · omega
theorem sign_math (a b : Int) (ha : a ≠ 0) (hb : b ≠ 0) : decide (a * b < 0) = (decide (a < 0) != decide (b < 0)) := by
  rcases Int.lt_or_gt_of_ne ha with h | h <;> rcases Int.lt_or_gt_of_ne hb with k | k
  · have := Int.mul_pos_of_neg_of_neg h k; simp [show ¬ a * b < 0 by omega, h, k]
  · have := Int.mul_neg_of_neg_of_pos h k; simp [this, h, show ¬ b < 0 by omega]
  · have := Int.mul_neg_of_pos_of_neg h k; simp [this, show ¬ a < 0 by omega, k]
  · have := Int.mul_pos h k; simp [show ¬ a * b < 0 by omega, show ¬ a < 0 by omega, show ¬ b < 0 by omega]
end Go.Proofs.YtfhmhlofjoahlaaGreatDoor.calls

/- What the quotient rounded down of layer 1 answers when it is called. -/
namespace Go.Proofs.YtfhmhlofjoahlaaGreatDoor.calls
open Go.ChangeShapes Go.WideShapes Go.ChangeAt Go.RowKit
set_option linter.unusedVariables false

/-- What a quotient that was rounded is told as. -/
def dn (a b : Int) : Int := if 1 ≤ b then a / b else 0
def up (a b : Int) : Int := if 1 ≤ b then -((-a) / b) else 0
def ok (b : Int) : Bool := decide (1 ≤ b)
theorem dn_yes {a b : Int} (h : 1 ≤ b) : dn a b = a / b := by simp [dn, h]
theorem up_yes {a b : Int} (h : 1 ≤ b) : up a b = -((-a) / b) := by simp [up, h]
theorem ok_yes {b : Int} (h : 1 ≤ b) : ok b = true := by simp [ok, h]
theorem dn_no {a b : Int} (h : b < 1) : dn a b = 0 := by simp [dn]; omega
theorem up_no {a b : Int} (h : b < 1) : up a b = 0 := by simp [up]; omega
theorem ok_no {b : Int} (h : b < 1) : ok b = false := by simp [ok]; omega
abbrev Quo (n : Int) (b : Int) (w : World) (e : Ending) (w' : World) : Prop := e = .returned (.tuple #[.int .i64 n, .bool (ok b)]) ∧ w = w'
theorem ret2 {a b : Int} {x : Bool} (h : a = b) : Ending.returned (.tuple #[.int .i64 a, .bool x]) = .returned (.tuple #[.int .i64 b, .bool x]) := by rw [h]

theorem down_any (a b : Int) (w : World) (a1 : fits a = true) (b1 : fits b = true) : Calls Tryz.prog 77 #[.int .i64 a, .int .i64 b] w (Quo (dn a b) b w) := by
  unfold Quo
  by_cases h : b < 1
  · rw [dn_no h, ok_no h]
    clear a1 b1
    go_enter Tryz.func77, Tryz.ntmps77
    go_wp2
    go_ret2
    exact ⟨rfl, rfl⟩
  · rw [dn_yes (by omega), ok_yes (by omega)]
    have hb : (b == 0) = false := by simp; omega
    have hb0 : ¬ b = 0 := by omega
    have hb1 : decide (b < 1) = false := by simp; omega
    have f := quo_facts a b (by omega) (fits_iff.mp a1)
    have m := down_math a b (by omega)
    have ha := fits_iff.mp a1
    obtain ⟨f1, f2, f3, f4, f5, f6, f7, f8⟩ := f
    by_cases k : a.tmod b < 0
    · have f3 := f3 k
      have H := Lib.hid (m.1 k)
      have k' : decide (a.tmod b < 0) = true := by simp; omega
      clear a1 b1 h f4 f5 f6 f7 f8 m 
      go_enter Tryz.func77, Tryz.ntmps77
      go_wp2
      go_ret2
      exact ⟨ret2 H.out, rfl⟩
    · have H := Lib.hid (m.2 k)
      have k' : decide (a.tmod b < 0) = false := by simp; omega
      clear a1 b1 h f3 f4 f5 f6 f7 f8 m 
      go_enter Tryz.func77, Tryz.ntmps77
      go_wp2
      go_ret2
      exact ⟨ret2 H.out, rfl⟩
end Go.Proofs.YtfhmhlofjoahlaaGreatDoor.calls

/- What a small class's words and cells are, of layer 6 (class) and of its plain answers, when they are called. -/
namespace Go.Proofs.YtfhmhlofjoahlaaGreatDoor.cls
open Go.ChangeShapes Go.WideShapes Go.ChangeAt Go.RowKit calls
set_option linter.unusedVariables false

/-- The words of a small class's cell. -/
def sz (k : Int) : Int := if k = 1 then 2 else if k = 2 then 4 else if k = 3 then 8 else if k = 4 then 16 else 0
/-- The cells of a small class that a page has. -/
def cl (k : Int) : Int := if k = 1 then 16 else if k = 2 then 8 else if k = 3 then 4 else if k = 4 then 2 else 0
theorem sz_no {k : Int} (h : k < 1 ∨ 4 < k) : sz k = 0 := by unfold sz; simp (disch := omega) only [if_neg]
theorem sz_wide (k : Int) : 0 ≤ sz k ∧ sz k ≤ 16 := by
  unfold sz; repeat' split
  all_goals omega
theorem ret1 {a b : Int} (h : a = b) : Ending.returned (.int .i64 a) = .returned (.int .i64 b) := by rw [h]

theorem size_any (k : Int) (w : World) (h : fits k = true) :
    Calls Tryz.prog 47 #[.int .i64 k] w fun e w' => e = .returned (.int .i64 (sz k)) ∧ w = w' := by
  obtain ⟨f1, f2⟩ := fits_iff.mp h
  clear h
  by_cases h1 : k < 1
  · rw [sz_no (.inl h1)]
    go_enter Tryz.func47, Tryz.ntmps47
    go_wp2
    go_ret
    exact ⟨rfl, rfl⟩
  by_cases h2 : 4 < k
  · rw [sz_no (.inr h2)]
    go_enter Tryz.func47, Tryz.ntmps47
    go_wp2
    go_ret
    exact ⟨rfl, rfl⟩
  have : k = 1 ∨ k = 2 ∨ k = 3 ∨ k = 4 := by omega
  rcases this with rfl | rfl | rfl | rfl
  all_goals
    clear h1 h2 f1 f2
    go_enter Tryz.func47, Tryz.ntmps47
    go_wp2
    go_ret
    exact ⟨ret1 rfl, rfl⟩

theorem cells_any (k : Int) (w : World) (h : fits k = true) :
    Calls Tryz.prog 48 #[.int .i64 k] w fun e w' => e = .returned (.int .i64 (cl k)) ∧ w = w' := by
  have e : dn 32 (sz k) = cl k := by
    unfold sz cl; repeat' split
    all_goals simp [dn]
  rw [← e]
  have W := sz_wide k
  clear e
  have H := Lib.hid h
  clear h
  go_enter Tryz.func48, Tryz.ntmps48
  go_wp2_with (first
    | (go_at_call 47; (with_reducible refine (size_any _ _ H.out).mono ?_); rintro e w' ⟨rfl, rfl⟩)
    | (go_at_call 77; (with_reducible refine (down_any _ _ _ (by simp [fits]) (by simp [fits]; omega)).mono ?_); rintro e w' ⟨rfl, rfl⟩))
  go_ret
  exact ⟨rfl, rfl⟩

theorem fits_wf {n : Int} (h : (Lit.int .i64 n).wf = true) : fits n = true := fits_iff.mpr (bounds_i64 h)
theorem cl_wide (k : Int) : 0 ≤ cl k ∧ cl k ≤ 16 := by
  unfold cl; repeat' split
  all_goals omega
theorem cl_no {k : Int} (h : k < 1 ∨ 4 < k) : cl k = 0 := by unfold cl; simp (disch := omega) only [if_neg]
end Go.Proofs.YtfhmhlofjoahlaaGreatDoor.cls
