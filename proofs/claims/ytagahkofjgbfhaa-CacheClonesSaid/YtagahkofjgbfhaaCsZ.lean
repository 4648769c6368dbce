/- What a small class's words and cells are, of layer 6 (class) and of its plain answers, when they are called. -/
import Derived.Test.YtagahkofjgbfhaaCalcD
import Derived.Below
namespace Go.Proofs.Ytagahkofjgbfhaa.cls
open Go.ChangeShapes Go.WideShapes Go.ChangeAt Go.RowKit calls
set_option linter.unusedVariables false

/-- The words of a small class's cell. -/
def sz (k : Int) : Int := if k = 1 then 2 else if k = 2 then 4 else if k = 3 then 8 else if k = 4 then 16 else 0
/-- The cells of a small class that a page has. -/
def cl (k : Int) : Int := if k = 1 then 16 else if k = 2 then 8 else if k = 3 then 4 else if k = 4 then 2 else 0
theorem sz_no {k : Int} (h : k < 1 ∨ 4 < k) : sz k = 0 := by unfold sz; simp (disch := omega) only [if_neg]
theorem sz_wide (k : Int) : 0 ≤ sz k ∧ sz k ≤ 16 := by
  unfold sz; repeat' split
  all_goals omega
theorem ret1 {a b : Int} (h : a = b) : Ending.returned (.int .i64 a) = .returned (.int .i64 b) := by rw [h]

theorem size_any (k : Int) (w : World) (h : fits k = true) :
    Calls Try.prog 50 #[.int .i64 k] w fun e w' => e = .returned (.int .i64 (sz k)) ∧ w = w' := by
  obtain ⟨f1, f2⟩ := fits_iff.mp h
  clear h
  by_cases h1 : k < 1
  · rw [sz_no (.inl h1)]
    go_enter Try.func50, Try.ntmps50
    go_wp2
    go_ret
    exact ⟨rfl, rfl⟩
  by_cases h2 : 4 < k
  · rw [sz_no (.inr h2)]
    go_enter Try.func50, Try.ntmps50
    go_wp2
    go_ret
    exact ⟨rfl, rfl⟩
  have : k = 1 ∨ k = 2 ∨ k = 3 ∨ k = 4 := by omega
  rcases this with rfl | rfl | rfl | rfl
  all_goals
    clear h1 h2 f1 f2
    go_enter Try.func50, Try.ntmps50
    go_wp2
    go_ret
    exact ⟨ret1 rfl, rfl⟩

theorem cells_any (k : Int) (w : World) (h : fits k = true) :
    Calls Try.prog 34 #[.int .i64 k] w fun e w' => e = .returned (.int .i64 (cl k)) ∧ w = w' := by
  have e : dn 32 (sz k) = cl k := by
    unfold sz cl; repeat' split
    all_goals simp [dn]
  rw [← e]
  have W := sz_wide k
  clear e
  have H := Lib.hid h
  clear h
  go_enter Try.func34, Try.ntmps34
  go_wp2_with (first
    | (go_at_call 50; (with_reducible refine (size_any _ _ H.out).mono ?_); rintro e w' ⟨rfl, rfl⟩)
    | (go_at_call 49; (with_reducible refine (down_any _ _ _ (by simp [fits]) (by simp [fits]; omega)).mono ?_); rintro e w' ⟨rfl, rfl⟩))
  go_ret
  exact ⟨rfl, rfl⟩

theorem rSize_any (k : Int) (w : World) (h : fits k = true) :
    Calls Try.prog 29 #[.int .i64 k] w fun e w' => e = .returned (.int .i64 (sz k)) ∧ Below w.heap.size w w' := by
  obtain ⟨f1, f2⟩ := fits_iff.mp h
  clear h
  by_cases h1 : k < 1
  · rw [sz_no (.inl h1)]
    go_enter Try.func29, Try.ntmps29
    go_wp2
    go_ret
    exact ⟨rfl, (Below.refl _ _).alloc (Nat.le_refl _) _⟩
  by_cases h2 : 4 < k
  · rw [sz_no (.inr h2)]
    go_enter Try.func29, Try.ntmps29
    go_wp2
    go_ret
    exact ⟨rfl, (Below.refl _ _).alloc (Nat.le_refl _) _⟩
  have : k = 1 ∨ k = 2 ∨ k = 3 ∨ k = 4 := by omega
  rcases this with rfl | rfl | rfl | rfl
  all_goals
    clear h1 h2 f1 f2
    go_enter Try.func29, Try.ntmps29
    go_wp2
    go_ret
    exact ⟨ret1 rfl, (Below.refl _ _).alloc (Nat.le_refl _) _⟩

theorem fits_wf {n : Int} (h : (Lit.int .i64 n).wf = true) : fits n = true := fits_iff.mpr (bounds_i64 h)
theorem cl_wide (k : Int) : 0 ≤ cl k ∧ cl k ≤ 16 := by
  unfold cl; repeat' split
  all_goals omega
theorem cl_no {k : Int} (h : k < 1 ∨ 4 < k) : cl k = 0 := by unfold cl; simp (disch := omega) only [if_neg]
end Go.Proofs.Ytagahkofjgbfhaa.cls
