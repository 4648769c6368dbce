/- What each function of layer 6 (class), and each of its plain answers, does when it is called. -/
import Derived.Test.YtgaffhlfnhfjpaaCalcQ
namespace Go.Proofs.Ytgaffhlfnhfjpaa.cls
open Go.ChangeShapes Go.WideShapes Go.ChangeAt Go.RowKit calls
set_option linter.unusedVariables false

/-- The words of a small class's cell. -/
def sz (k : Int) : Int := if k = 1 then 2 else if k = 2 then 4 else if k = 3 then 8 else if k = 4 then 16 else 0
/-- The cells of a small class that a page has. -/
def cl (k : Int) : Int := if k = 1 then 16 else if k = 2 then 8 else if k = 3 then 4 else if k = 4 then 2 else 0
/-- The class of an object with n fields. -/
def ofn (n : Int) : Int := if n < 0 ∨ 127 < n then 0 else if n < 2 then 1 else if n < 4 then 2 else if n < 8 then 3 else if n < 16 then 4 else 5
/-- The pages of a large one. -/
def pg (n : Int) : Int := if n < 16 ∨ 127 < n then 0 else (n + 32) / 32
/-- What it does not need of what it takes. -/
def ws (n : Int) : Int := if n < 0 ∨ 127 < n then 0 else sz (ofn n) + pg n * 32 - (1 + n)

theorem sz_no {k : Int} (h : k < 1 ∨ 4 < k) : sz k = 0 := by unfold sz; simp (disch := omega) only [if_neg]
theorem sz_of {k n : Int} (h0 : 0 ≤ n) (h1 : n ≤ 127) (k1 : 1 ≤ k) (k2 : k ≤ 4) (lo : sz (k - 1) ≤ n) (hi : n < sz k) : ofn n = k := by
  have : k = 1 ∨ k = 2 ∨ k = 3 ∨ k = 4 := by omega
  rcases this with rfl | rfl | rfl | rfl <;> simp [sz] at lo hi <;> unfold ofn <;> simp (disch := omega) only [if_neg, if_pos]
theorem sz_large {n : Int} (h0 : 0 ≤ n) (h1 : n ≤ 127) (lo : 16 ≤ n) : ofn n = 5 := by
  unfold ofn; simp (disch := omega) only [if_neg]
theorem of_no {n : Int} (h : n < 0 ∨ 127 < n) : ofn n = 0 := by unfold ofn; rw [if_pos h]
theorem sz_wide (k : Int) : 0 ≤ sz k ∧ sz k ≤ 16 := by
  unfold sz; repeat' split
  all_goals omega
theorem ofn_wide (n : Int) : 0 ≤ ofn n ∧ ofn n ≤ 5 := by
  unfold ofn; repeat' split
  all_goals omega
theorem ofn_eq (n : Int) : (ofn n = 0 ↔ (n < 0 ∨ 127 < n)) ∧ (ofn n = 5 ↔ (16 ≤ n ∧ n ≤ 127)) := by
  unfold ofn; repeat' split
  all_goals omega
theorem ret1 {a b : Int} (h : a = b) : Ending.returned (.int .i64 a) = .returned (.int .i64 b) := by rw [h]

theorem words_any (n : Int) (w : World) (h0 : 0 ≤ n) (h1 : n ≤ 127) :
    Calls Try.prog 16 #[.int .i64 n] w fun e w' => e = .returned (.int .i64 (1 + n)) ∧ w = w' := by
  go_enter Try.func16, Try.ntmps16
  go_wp2
  go_ret
  exact ⟨rfl, rfl⟩

theorem size_any (k : Int) (w : World) (h : fits k = true) :
    Calls Try.prog 9 #[.int .i64 k] w fun e w' => e = .returned (.int .i64 (sz k)) ∧ w = w' := by
  obtain ⟨f1, f2⟩ := fits_iff.mp h
  clear h
  by_cases h1 : k < 1
  · rw [sz_no (.inl h1)]
    go_enter Try.func9, Try.ntmps9
    go_wp2
    go_ret
    exact ⟨rfl, rfl⟩
  by_cases h2 : 4 < k
  · rw [sz_no (.inr h2)]
    go_enter Try.func9, Try.ntmps9
    go_wp2
    go_ret
    exact ⟨rfl, rfl⟩
  have : k = 1 ∨ k = 2 ∨ k = 3 ∨ k = 4 := by omega
  rcases this with rfl | rfl | rfl | rfl
  all_goals
    clear h1 h2 f1 f2
    go_enter Try.func9, Try.ntmps9
    go_wp2
    go_ret
    exact ⟨ret1 rfl, rfl⟩

theorem of_any (n : Int) (w : World) :
    Calls Try.prog 7 #[.int .i64 n] w fun e w' => e = .returned (.int .i64 (ofn n)) ∧ w = w' := by
  by_cases h1 : n < 0
  · rw [of_no (.inl h1)]
    go_enter Try.func7, Try.ntmps7
    go_wp2
    go_ret
    exact ⟨rfl, rfl⟩
  by_cases h2 : 127 < n
  · rw [of_no (.inr h2)]
    go_enter Try.func7, Try.ntmps7
    go_wp2
    go_ret
    exact ⟨rfl, rfl⟩
  have h0 : 0 ≤ n := by omega
  have h3 : n ≤ 127 := by omega
  go_enter Try.func7, Try.ntmps7
  go_wp2
  go_loop [3] (fun i => ∃ k : Int, 1 ≤ k ∧ k ≤ 5 ∧ i = .int .i64 k ∧ sz (k - 1) ≤ n) (fun i => 5 - (intOf i).toNat)
  case atStart => exact ⟨1, by omega, by omega, rfl, by simp [sz]; omega⟩
  case round =>
    obtain ⟨k, k1, k2, rfl, lo⟩ := hrel
    have L := Lib.hid lo
    clear lo
    by_cases k4 : k ≤ 4
    · have W := sz_wide k
      by_cases g : n < sz k
      · have G := Lib.hid g
        have d : decide (1 + n ≤ sz k) = true := by simp; omega
        clear g
        go_wp2_with (first
          | (go_at_call 16; (with_reducible refine (words_any _ _ h0 h3).mono ?_); rintro e w' ⟨rfl, rfl⟩)
          | (go_at_call 9; (with_reducible refine (size_any _ _ (by simp [fits]; omega)).mono ?_); rintro e w' ⟨rfl, rfl⟩))
        go_ret
        exact ⟨ret1 (sz_of h0 h3 k1 k4 L.out G.out).symm, rfl⟩
      · have G := Lib.hid g
        have d : decide (1 + n ≤ sz k) = false := by simp; omega
        clear g
        go_wp2_with (first
          | (go_at_call 16; (with_reducible refine (words_any _ _ h0 h3).mono ?_); rintro e w' ⟨rfl, rfl⟩)
          | (go_at_call 9; (with_reducible refine (size_any _ _ (by simp [fits]; omega)).mono ?_); rintro e w' ⟨rfl, rfl⟩))
        go_round
        case rel => exact ⟨k + 1, by omega, by omega, rfl, by rw [show k + 1 - 1 = k by omega]; have := G.out; omega⟩
        case measure => simp [intOf]; omega
    · obtain rfl : k = 5 := by omega
      go_wp2
      go_ret
      exact ⟨ret1 (sz_large h0 h3 (by have := L.out; simpa [sz] using this)).symm, rfl⟩

theorem cells_any (k : Int) (w : World) (h : fits k = true) :
    Calls Try.prog 11 #[.int .i64 k] w fun e w' => e = .returned (.int .i64 (cl k)) ∧ w = w' := by
  have e : dn 32 (sz k) = cl k := by
    unfold sz cl; repeat' split
    all_goals simp [dn]
  rw [← e]
  have W := sz_wide k
  clear e
  have H := Lib.hid h
  clear h
  go_enter Try.func11, Try.ntmps11
  go_wp2_with (first
    | (go_at_call 9; (with_reducible refine (size_any _ _ H.out).mono ?_); rintro e w' ⟨rfl, rfl⟩)
    | (go_at_call 17; (with_reducible refine (down_any _ _ _ (by simp [fits]) (by simp [fits]; omega)).mono ?_); rintro e w' ⟨rfl, rfl⟩))
  go_ret
  exact ⟨rfl, rfl⟩

theorem pages_any (n : Int) (w : World) :
    Calls Try.prog 13 #[.int .i64 n] w fun e w' => e = .returned (.int .i64 (pg n)) ∧ w = w' := by
  have Q := ofn_eq n
  have W := ofn_wide n
  by_cases h : 16 ≤ n ∧ n ≤ 127
  · have d : (ofn n != 5) = false := by simp; omega
    have e : up (1 + n) 32 = pg n := by unfold pg; rw [if_neg (by omega), up_yes (by omega)]; omega
    have E := Lib.hid e
    clear e W Q
    go_enter Try.func13, Try.ntmps13
    go_wp2_with (first
      | (go_at_call 7; (with_reducible refine (of_any _ _).mono ?_); rintro e w' ⟨rfl, rfl⟩)
      | (go_at_call 16; (with_reducible refine (words_any _ _ (by omega) (by omega)).mono ?_); rintro e w' ⟨rfl, rfl⟩)
      | (go_at_call 18; (with_reducible refine (up_any _ _ _ (by simp [fits]; omega) (by simp [fits])).mono ?_); rintro e w' ⟨rfl, rfl⟩))
    go_ret
    exact ⟨ret1 E.out, rfl⟩
  · have d : (ofn n != 5) = true := by simp; omega
    have e : pg n = 0 := by unfold pg; rw [if_pos (by omega)]
    rw [e]
    clear e W Q h
    go_enter Try.func13, Try.ntmps13
    go_wp2_with (first
      | (go_at_call 7; (with_reducible refine (of_any _ _).mono ?_); rintro e w' ⟨rfl, rfl⟩))
    go_ret
    exact ⟨rfl, rfl⟩
theorem pg_wide (n : Int) : 0 ≤ pg n ∧ pg n ≤ 4 := by unfold pg; split <;> omega

theorem waste_any (n : Int) (w : World) :
    Calls Try.prog 15 #[.int .i64 n] w fun e w' => e = .returned (.int .i64 (ws n)) ∧ w = w' := by
  have Q := ofn_eq n
  have W := ofn_wide n
  by_cases h : n < 0 ∨ 127 < n
  · have d : (ofn n == 0) = true := by simp; omega
    have e : ws n = 0 := by unfold ws; rw [if_pos h]
    rw [e]
    clear e W Q h
    go_enter Try.func15, Try.ntmps15
    go_wp2_with (first
      | (go_at_call 7; (with_reducible refine (of_any _ _).mono ?_); rintro e w' ⟨rfl, rfl⟩))
    go_ret
    exact ⟨rfl, rfl⟩
  · have d : (ofn n == 0) = false := by simp; omega
    have e : ws n = sz (ofn n) + pg n * 32 - (1 + n) := by unfold ws; rw [if_neg h]
    rw [e]
    have P := pg_wide n
    have S := sz_wide (ofn n)
    have h0 : 0 ≤ n := by omega
    have h3 : n ≤ 127 := by omega
    clear e Q h
    go_enter Try.func15, Try.ntmps15
    go_wp2_with (first
      | (go_at_call 7; (with_reducible refine (of_any _ _).mono ?_); rintro e w' ⟨rfl, rfl⟩)
      | (go_at_call 9; (with_reducible refine (size_any _ _ (by simp [fits]; omega)).mono ?_); rintro e w' ⟨rfl, rfl⟩)
      | (go_at_call 13; (with_reducible refine (pages_any _ _).mono ?_); rintro e w' ⟨rfl, rfl⟩)
      | (go_at_call 16; (with_reducible refine (words_any _ _ h0 h3).mono ?_); rintro e w' ⟨rfl, rfl⟩))
    go_ret
    exact ⟨rfl, rfl⟩
end Go.Proofs.Ytgaffhlfnhfjpaa.cls
