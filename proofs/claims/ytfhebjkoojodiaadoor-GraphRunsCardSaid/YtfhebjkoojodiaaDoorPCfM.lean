/- Texts that this claim stands on. -/
import Derived.RowKit
import Derived.Test.YtfhebjkoojodiaaDoorRows
import Derived.WalkKit
import Derived.ProofKit
import Derived.OpenShut
import Derived.Outline
import Derived.Lib.Hide
import Derived.IntWalk
import Derived.Deep.QuietTactic
import Derived.BigQuiet
namespace Go.Proofs.YtfhebjkoojodiaaDoor.cf
open Go Go.RowKit
def lo (i : Nat) : Int := [2, 1, 1, 1, 0, 0, 0, 1, 1, 0].getD i 0
def hi (i : Nat) : Int := [64, 8, 64, 16, 1000, 65535, 64, 16, 256, 64].getD i 0
def bad (l : List Int) (i : Nat) : Bool := decide (l.getD i 0 < lo i) || decide (hi i < l.getD i 0)
def short (l : List Int) : Bool := decide (l.getD 2 0 * (1000 - l.getD 4 0) < 1000 * l.getD 3 0)
def wr (l : List Int) : Nat → Nat → Int
  | 0, _ => if short l = true then 11 else 0
  | n + 1, i => if bad l i = true then (i : Int) + 1 else wr l n (i + 1)
def wrongN (l : List Int) : Int := wr l 10 0
theorem wr_bad {l : List Int} {n i : Nat} (h : bad l i = true) : wr l (n + 1) i = (i : Int) + 1 := by simp [wr, h]
theorem wr_good {l : List Int} {n i : Nat} (h : bad l i = false) : wr l (n + 1) i = wr l n (i + 1) := by simp [wr, h]
theorem bad_lt {l : List Int} {i : Nat} (h : l.getD i 0 < lo i) : bad l i = true := by simp only [bad, Bool.or_eq_true, decide_eq_true_eq]; exact .inl h
theorem bad_gt {l : List Int} {i : Nat} (h : hi i < l.getD i 0) : bad l i = true := by simp only [bad, Bool.or_eq_true, decide_eq_true_eq]; exact .inr h
theorem bad_no {l : List Int} {i : Nat} (h : ¬ l.getD i 0 < lo i) (k : ¬ hi i < l.getD i 0) : bad l i = false := by simp only [bad, Bool.or_eq_false_iff, decide_eq_false_iff_not]; exact ⟨h, k⟩
theorem bad_iff {l : List Int} {i : Nat} : bad l i = false ↔ lo i ≤ l.getD i 0 ∧ l.getD i 0 ≤ hi i := by simp [bad]
theorem fine {a0 a1 a2 a3 a4 a5 a6 a7 a8 a9 : Int} (h : ∀ j, j < 10 → bad [a0, a1, a2, a3, a4, a5, a6, a7, a8, a9] j = false) :
    (2 ≤ a0 ∧ a0 ≤ 64) ∧ (1 ≤ a1 ∧ a1 ≤ 8) ∧ (1 ≤ a2 ∧ a2 ≤ 64) ∧ (1 ≤ a3 ∧ a3 ≤ 16) ∧ (0 ≤ a4 ∧ a4 ≤ 1000) ∧ (0 ≤ a5 ∧ a5 ≤ 65535) ∧ (0 ≤ a6 ∧ a6 ≤ 64) ∧ (1 ≤ a7 ∧ a7 ≤ 16) ∧ (1 ≤ a8 ∧ a8 ≤ 256) ∧ (0 ≤ a9 ∧ a9 ≤ 64) :=
  ⟨bad_iff.1 (h 0 (by omega)), bad_iff.1 (h 1 (by omega)), bad_iff.1 (h 2 (by omega)), bad_iff.1 (h 3 (by omega)), bad_iff.1 (h 4 (by omega)), bad_iff.1 (h 5 (by omega)), bad_iff.1 (h 6 (by omega)), bad_iff.1 (h 7 (by omega)), bad_iff.1 (h 8 (by omega)), bad_iff.1 (h 9 (by omega))⟩
theorem prod_bd {a t : Int} (ha : 1 ≤ a ∧ a ≤ 64) (ht : 0 ≤ t ∧ t ≤ 1000) : 0 ≤ a * (1000 - t) ∧ a * (1000 - t) ≤ 64000 := by
  constructor
  · exact Int.mul_nonneg (by omega) (by omega)
  · have : a * (1000 - t) ≤ 64 * 1000 := Int.mul_le_mul (by omega) (by omega) (by omega) (by omega)
    omega
theorem wrong_zero {l : List Int} (h : wrongN l = 0) : (∀ j, j < 10 → bad l j = false) ∧ short l = false := by
  unfold wrongN at h
  have step : ∀ n i, wr l n i = 0 → (∀ j, i ≤ j → j < i + n → bad l j = false) ∧ short l = false := by
    intro n
    induction n with
    | zero =>
      intro i h
      refine ⟨fun j _ _ => by omega, ?_⟩
      cases hs : short l
      · rfl
      · simp [wr, hs] at h
    | succ n ih =>
      intro i h
      cases hb : bad l i
      · rw [wr_good hb] at h
        obtain ⟨h1, h2⟩ := ih (i + 1) h
        refine ⟨fun j hj hk => ?_, h2⟩
        by_cases e : j = i
        · rw [e, hb]
        · exact h1 j (by omega) (by omega)
      · rw [wr_bad hb] at h
        omega
  obtain ⟨h1, h2⟩ := step 10 0 h
  exact ⟨fun j hj => h1 j (by omega) (by omega), h2⟩
theorem wrong_of {l : List Int} (h : ∀ j, j < 10 → bad l j = false) : wrongN l = if short l = true then 11 else 0 := by
  unfold wrongN
  rw [wr_good (h 0 (by omega)), wr_good (h 1 (by omega)), wr_good (h 2 (by omega)), wr_good (h 3 (by omega)), wr_good (h 4 (by omega)), wr_good (h 5 (by omega)), wr_good (h 6 (by omega)), wr_good (h 7 (by omega)), wr_good (h 8 (by omega)), wr_good (h 9 (by omega))]
  rfl
theorem wrong_at {l : List Int} : ∀ {k : Nat}, k ≤ 10 → (∀ j, j < k → bad l j = false) → wrongN l = wr l (10 - k) k := by
  intro k hk h
  induction k with
  | zero => rfl
  | succ k ih =>
    rw [ih (by omega) (fun j hj => h j (by omega)), show 10 - k = (10 - (k + 1)) + 1 by omega, wr_good (h k (by omega))]
theorem wrong_first {l : List Int} {k : Nat} (hk : k < 10) (h : ∀ j, j < k → bad l j = false) (hb : bad l k = true) : wrongN l = (k : Int) + 1 := by
  rw [wrong_at (by omega) h, show 10 - k = (10 - k - 1) + 1 by omega, wr_bad hb]
theorem more {l : List Int} {k : Nat} (h : ∀ j, j < k → bad l j = false) (hb : bad l k = false) : ∀ j, j < k + 1 → bad l j = false := by
  intro j hj
  by_cases e : j = k
  · rw [e, hb]
  · exact h j (by omega)
end Go.Proofs.YtfhebjkoojodiaaDoor.cf
namespace Go.Proofs.YtfhebjkoojodiaaDoor.cf
open Go.ChangeShapes Go.WideShapes Go.ChangeAt Go.RowKit
set_option linter.unusedVariables false
set_option maxRecDepth 100000
theorem bcell {W w1 : World} (hb : Below W.heap.size W w1) : (∀ b o, b < W.heap.size → w1.cell? ⟨b, o, none⟩ = W.cell? ⟨b, o, none⟩) ∧ (∀ b o, b < W.heap.size → w1.frozen? ⟨b, o, none⟩ = W.frozen? ⟨b, o, none⟩) :=
  ⟨fun b o h => hb.cell (p := ⟨b, o, none⟩) h, fun b o h => hb.frozen (p := ⟨b, o, none⟩) h⟩
section
variable (a0 a1 a2 a3 a4 a5 a6 a7 a8 a9 : Int) (w : World)
set_option maxHeartbeats 400000
theorem fields_any : Calls Tryd.prog 35 #[.agg #[.int .i64 a0, .int .i64 a1, .int .i64 a2, .int .i64 a3, .int .i64 a4, .int .i64 a5, .int .i64 a6, .int .i64 a7, .int .i64 a8, .int .i64 a9]] w
    fun e w' => e = .returned (.agg #[.int .i64 a0, .int .i64 a1, .int .i64 a2, .int .i64 a3, .int .i64 a4, .int .i64 a5, .int .i64 a6, .int .i64 a7, .int .i64 a8, .int .i64 a9]) ∧ Below w.heap.size w w' := by
  go_enter Tryd.func35, Tryd.ntmps35
  go_wp2
  exact bodyPost_ret (v := .agg #[.int .i64 a0, .int .i64 a1, .int .i64 a2, .int .i64 a3, .int .i64 a4, .int .i64 a5, .int .i64 a6, .int .i64 a7, .int .i64 a8, .int .i64 a9]) (by simp [results, Tryd.results35, go_sem]) rfl ⟨rfl, (((Below.refl _ _).alloc (Nat.le_refl _) _).alloc (by simp) _)⟩
theorem left_any (h2 : 1 ≤ a2 ∧ a2 ≤ 64) (h4 : 0 ≤ a4 ∧ a4 ≤ 1000) : Calls Tryd.prog 36 #[.agg #[.int .i64 a0, .int .i64 a1, .int .i64 a2, .int .i64 a3, .int .i64 a4, .int .i64 a5, .int .i64 a6, .int .i64 a7, .int .i64 a8, .int .i64 a9]] w
    fun e w' => e = .returned (.int .i64 (a2 * (1000 - a4))) ∧ Below w.heap.size w w' := by
  obtain ⟨p0, p1⟩ := prod_bd h2 h4
  have f : IntKind.i64.wrap (a2 * (1000 - a4)) = a2 * (1000 - a4) := IntWalk.i64_in _ (by omega)
  obtain ⟨h20, h21⟩ := h2
  obtain ⟨h40, h41⟩ := h4
  go_enter Tryd.func36, Tryd.ntmps36
  go_wp2
  go_ret
  exact ⟨rfl, (Below.refl _ _).alloc (Nat.le_refl _) _⟩
theorem usual_any : Calls Tryd.prog 20 #[] w
    fun e w' => e = .returned (.agg #[.int .i64 16, .int .i64 4, .int .i64 20, .int .i64 4, .int .i64 700, .int .i64 100, .int .i64 4, .int .i64 4, .int .i64 16, .int .i64 4]) ∧ Below w.heap.size w w' := by
  go_enter Tryd.func20, Tryd.ntmps20
  go_wp2
  exact bodyPost_ret (v := .agg #[.int .i64 16, .int .i64 4, .int .i64 20, .int .i64 4, .int .i64 700, .int .i64 100, .int .i64 4, .int .i64 4, .int .i64 16, .int .i64 4]) (by simp [results, Tryd.results20, go_sem]) rfl ⟨rfl, ((Below.refl _ _).alloc (Nat.le_refl _) _)⟩
end
end Go.Proofs.YtfhebjkoojodiaaDoor.cf
