/- Values and their words: what may be, and what layer 3's small functions do when they are called. -/
import Derived.Test.YtpghghmmoihimaaRows
import Derived.WalkKit
import Derived.ProofKit
import Derived.OpenShut
import Derived.Outline
import Derived.Lib.Hide
import Derived.IntWalk
namespace Go.Proofs.Ytpghghmmoihimaa.wd
open Go.ChangeShapes Go.WideShapes Go.ChangeAt Go.RowKit
set_option linter.unusedVariables false

/-- The error of a value of kind k with the number n. -/
def chk (k n : Int) : Int :=
  if k < 0 ∨ 2 < k then 12 else
  if (k = 0 ∧ n ≠ 0) ∨ (k = 1 ∧ (n < -1099511627776 ∨ 1099511627776 ≤ n)) ∨ (k = 2 ∧ (n < 0 ∨ 2048 ≤ n)) then 4 else 0
/-- The two cells of a value that lies at the head of block B. -/
abbrev Two (w : World) (B : Nat) (k n : Int) : Prop := w.cell? ⟨B, 0, none⟩ = some (.int .i64 k) ∧ w.cell? ⟨B, 1, none⟩ = some (.int .i64 n) ∧ w.frozen? ⟨B, 0, none⟩ = false ∧ w.frozen? ⟨B, 1, none⟩ = false
theorem Two.below {W w' : World} {B : Nat} {k n : Int} (hb : Below W.heap.size W w') (h : Two W B k n) : Two w' B k n := by
  obtain ⟨h0, h1, f0, f1⟩ := h
  have hz := World.block_lt_of_cell? W _ h0
  exact ⟨(hb.cell (p := ⟨B, 0, none⟩) hz).trans h0, (hb.cell (p := ⟨B, 1, none⟩) hz).trans h1, (hb.frozen (p := ⟨B, 0, none⟩) hz).trans f0, (hb.frozen (p := ⟨B, 1, none⟩) hz).trans f1⟩
theorem Two.new (w : World) (t : TypeId) (k n : Int) {B : Nat} (h : w.heap.size = B) : Two (w.alloc (.cells #[.int .i64 k, .int .i64 n] t)) B k n := by
  subst h
  unfold Two
  refine ⟨?_, ?_, ?_, ?_⟩ <;> simp [go_sem]

theorem within_any (n a b : Int) (w : World) : Calls Try.prog 26 #[.int .i64 n, .int .i64 a, .int .i64 b] w fun e w' => e = .returned (.bool (decide (a ≤ n) && decide (n < b))) ∧ w = w' := by
  by_cases h : a ≤ n <;> by_cases h2 : n < b
  all_goals
    go_enter Try.func26, Try.ntmps26
    go_wp2
    go_ret
    exact ⟨by simp [h, h2], rfl⟩

theorem ret_int {a b : Int} (h : a = b) : Ending.returned (.int .i64 a) = .returned (.int .i64 b) := by rw [h]

theorem Check_any (k n : Int) (w : World) : Calls Try.prog 22 #[.agg #[.int .i64 k, .int .i64 n]] w fun e w' => e = .returned (.int .i64 (chk k n)) ∧ Below w.heap.size w w' := by
  go_enter Try.func22, Try.ntmps22
  go_wp2_with (go_at_call 26; (with_reducible refine (within_any _ _ _ _).mono ?_); rintro e w' ⟨rfl, rfl⟩)
  all_goals
    go_ret
    refine ⟨ret_int ?_, (Below.refl _ _).alloc (Nat.le_refl _) _⟩
    try simp only [Bool.not_eq_true', Bool.not_eq_false', beq_iff_eq, beq_eq_false_iff_ne, decide_eq_true_eq, decide_eq_false_iff_not] at *
    unfold chk
    repeat' split
    all_goals omega

theorem rCheck_any (k n : Int) (w : World) : Calls Try.prog 24 #[.agg #[.int .i64 k, .int .i64 n]] w fun e w' => e = .returned (.int .i64 (chk k n)) ∧ Below w.heap.size w w' := by
  go_enter Try.func24, Try.ntmps24
  go_wp2
  all_goals
    go_ret
    refine ⟨ret_int ?_, (Below.refl _ _).alloc (Nat.le_refl _) _⟩

    try simp only [Bool.not_eq_true', Bool.not_eq_false', beq_iff_eq, beq_eq_false_iff_ne, decide_eq_true_eq, decide_eq_false_iff_not] at *
    unfold chk
    repeat' split
    all_goals omega
end Go.Proofs.Ytpghghmmoihimaa.wd
