/- The walks of layer 7's three laws. -/
import Derived.Test.YtednmidmkjfkeaaGeA
namespace Go.Proofs.Ytednmidmkjfkeaa.geos
open Go.ChangeShapes Go.WideShapes Go.ChangeAt Go.RowKit calls cls
set_option linter.unusedVariables false

theorem alive_any (w : World) : Calls Try.prog 6 #[] w fun e w' => e = .returned (.bool true) ∧ w = w' := by
  go_enter Try.func6, Try.ntmps6
  go_wp2_with (first
    | (go_at_call 11; (with_reducible refine (at_any _ _ _ _ (by simp [fits]) (by simp [fits])).mono ?_); rintro e w' ⟨rfl, rfl⟩; rw [show ata 1 3 2 = 48 by rfl, show atk 1 3 2 = true by rfl])
    | (go_at_call 13; (with_reducible refine (cell_any _ _ _ (by simp [fits])).mono ?_); rintro e w' ⟨rfl, rfl⟩; rw [show cei 3 48 = 2 by rfl, show cek 3 48 = true by rfl])
    | (go_at_call 7; (with_reducible refine (ends_any _ _ _ (by simp [fits]) (by simp [fits])).mono ?_); rintro e w' ⟨rfl, rfl⟩; rw [show enf 1 2 = 32 by rfl, show enl 1 2 = 95 by rfl, show enk 1 2 = true by rfl])
    | (go_at_call 14; (with_reducible refine (base_any _ _ _ (by simp [fits])).mono ?_); rintro e w' ⟨rfl, rfl⟩; rw [show bsOf 3 50 = 48 by rfl])
    | (go_at_call 8; (with_reducible refine (page_any _ _).mono ?_); rintro e w' ⟨rfl, rfl⟩; rw [show pgOf 48 = 1 by rfl])
    | (go_at_call 9; (with_reducible refine (off_any _ _).mono ?_); rintro e w' ⟨rfl, rfl⟩; rw [show ofOf 50 = 18 by rfl]))
  go_ret
  exact ⟨rfl, rfl⟩

theorem ends_cases (p n : Int) : (enk p n = true ∧ enf p n = p * 32 ∧ enl p n = p * 32 + n * 32 - 1 ∧ 0 ≤ p ∧ 1 ≤ n ∧ p + n ≤ 64)
    ∨ (enk p n = false ∧ enf p n = 0 ∧ enl p n = 0 ∧ (p < 0 ∨ 63 < p ∨ (0 ≤ p ∧ p ≤ 63 ∧ n < 1) ∨ (0 ≤ p ∧ p ≤ 63 ∧ 1 ≤ n ∧ 64 - p < n))) := by
  by_cases h : 0 ≤ p ∧ 1 ≤ n ∧ p + n ≤ 64
  · have k := enk_iff.mpr h
    unfold enf enl
    rw [k, if_pos rfl, if_pos rfl]
    exact .inl ⟨rfl, rfl, rfl, h⟩
  · have k := enk_no h
    unfold enf enl
    rw [k, if_neg (by simp), if_neg (by simp)]
    exact .inr ⟨rfl, rfl, rfl, by omega⟩
theorem page_cases (a : Int) : (pgOf a = a / 32 ∧ ofOf a = a % 32 ∧ 0 ≤ a ∧ a ≤ 2047 ∧ decide (a < 2048) = true ∧ (a % 32 == a - 32 * (a / 32)) = true) ∨ (pgOf a = -1 ∧ ofOf a = -1 ∧ a < 0) ∨ (pgOf a = -1 ∧ ofOf a = -1 ∧ 0 ≤ a ∧ 2047 < a ∧ decide (a < 2048) = false) := by
  by_cases h : a < 0
  · exact .inr (.inl ⟨pgOf_no (.inl h), ofOf_no (.inl h), h⟩)
  by_cases h2 : 2047 < a
  · exact .inr (.inr ⟨pgOf_no (.inr h2), ofOf_no (.inr h2), by omega, h2, by simp; omega⟩)
  exact .inl ⟨pgOf_yes (by omega) (by omega), ofOf_yes (by omega) (by omega), by omega, by omega, by simp; omega, by simp; omega⟩

section
variable (a p n k i j : Int) (w : World)
theorem pages_in_yes (wp : fits p = true) (wn : fits n = true) (e1 : pgOf a = a / 32) (e2 : ofOf a = a % 32) (h0 : 0 ≤ a) (h1 : a ≤ 2047) (d1 : decide (a < 2048) = true) (d2 : (a % 32 == a - 32 * (a / 32)) = true)
    (q1 : enk p n = true) (q2 : enf p n = p * 32) (q3 : enl p n = p * 32 + n * 32 - 1) (h3 : 0 ≤ p) (h4 : 1 ≤ n) (h5 : p + n ≤ 64) : Calls Try.prog 3 #[.int .i64 a, .int .i64 p, .int .i64 n] w fun e w' => e = .returned (.bool true) ∧ w = w' := by
  have P := Lib.hid wp
  have N := Lib.hid wn
  obtain ⟨p1, p2⟩ := fits_iff.mp wp
  obtain ⟨n1, n2⟩ := fits_iff.mp wn
  clear wp wn
  have l1 : (p * 32 == 32 * p) = true := by simp; omega
  have l2 : (p * 32 + n * 32 - 1 == 32 * (p + n) - 1) = true := by simp; omega
  go_enter Try.func3, Try.ntmps3
  go_wp2_with (first
    | (go_at_call 6; (with_reducible refine (alive_any _).mono ?_); rintro e w' ⟨rfl, rfl⟩)
    | (go_at_call 7; (with_reducible refine (ends_any _ _ _ P.out N.out).mono ?_); rintro e w' ⟨rfl, rfl⟩; rw [q1, q2, q3])
    | (go_at_call 8; (with_reducible refine (page_any _ _).mono ?_); rintro e w' ⟨rfl, rfl⟩; rw [e1])
    | (go_at_call 9; (with_reducible refine (off_any _ _).mono ?_); rintro e w' ⟨rfl, rfl⟩; rw [e2]))
  go_ret
  exact ⟨by simp [*], rfl⟩
theorem pages_in_no (wp : fits p = true) (wn : fits n = true) (e1 : pgOf a = a / 32) (e2 : ofOf a = a % 32) (h0 : 0 ≤ a) (h1 : a ≤ 2047) (d1 : decide (a < 2048) = true) (d2 : (a % 32 == a - 32 * (a / 32)) = true)
    (q1 : enk p n = false) (q2 : enf p n = 0) (q3 : enl p n = 0) (h : p < 0 ∨ 63 < p ∨ (0 ≤ p ∧ p ≤ 63 ∧ n < 1) ∨ (0 ≤ p ∧ p ≤ 63 ∧ 1 ≤ n ∧ 64 - p < n)) : Calls Try.prog 3 #[.int .i64 a, .int .i64 p, .int .i64 n] w fun e w' => e = .returned (.bool true) ∧ w = w' := by
  have P := Lib.hid wp
  have N := Lib.hid wn
  obtain ⟨p1, p2⟩ := fits_iff.mp wp
  obtain ⟨n1, n2⟩ := fits_iff.mp wn
  clear wp wn
  rcases h with h3 | h3 | ⟨h3, h4, h5⟩ | ⟨h3, h4, h5, h6⟩
  all_goals
    go_enter Try.func3, Try.ntmps3
    go_wp2_with (first
      | (go_at_call 6; (with_reducible refine (alive_any _).mono ?_); rintro e w' ⟨rfl, rfl⟩)
      | (go_at_call 7; (with_reducible refine (ends_any _ _ _ P.out N.out).mono ?_); rintro e w' ⟨rfl, rfl⟩; rw [q1, q2, q3])
      | (go_at_call 8; (with_reducible refine (page_any _ _).mono ?_); rintro e w' ⟨rfl, rfl⟩; rw [e1])
      | (go_at_call 9; (with_reducible refine (off_any _ _).mono ?_); rintro e w' ⟨rfl, rfl⟩; rw [e2]))
    go_ret
    exact ⟨by simp [*], rfl⟩
theorem pages_low_yes (wp : fits p = true) (wn : fits n = true) (e1 : pgOf a = -1) (e2 : ofOf a = -1) (h0 : a < 0)
    (q1 : enk p n = true) (q2 : enf p n = p * 32) (q3 : enl p n = p * 32 + n * 32 - 1) (h3 : 0 ≤ p) (h4 : 1 ≤ n) (h5 : p + n ≤ 64) : Calls Try.prog 3 #[.int .i64 a, .int .i64 p, .int .i64 n] w fun e w' => e = .returned (.bool true) ∧ w = w' := by
  have P := Lib.hid wp
  have N := Lib.hid wn
  obtain ⟨p1, p2⟩ := fits_iff.mp wp
  obtain ⟨n1, n2⟩ := fits_iff.mp wn
  clear wp wn
  have l1 : (p * 32 == 32 * p) = true := by simp; omega
  have l2 : (p * 32 + n * 32 - 1 == 32 * (p + n) - 1) = true := by simp; omega
  go_enter Try.func3, Try.ntmps3
  go_wp2_with (first
    | (go_at_call 6; (with_reducible refine (alive_any _).mono ?_); rintro e w' ⟨rfl, rfl⟩)
    | (go_at_call 7; (with_reducible refine (ends_any _ _ _ P.out N.out).mono ?_); rintro e w' ⟨rfl, rfl⟩; rw [q1, q2, q3])
    | (go_at_call 8; (with_reducible refine (page_any _ _).mono ?_); rintro e w' ⟨rfl, rfl⟩; rw [e1])
    | (go_at_call 9; (with_reducible refine (off_any _ _).mono ?_); rintro e w' ⟨rfl, rfl⟩; rw [e2]))
  go_ret
  exact ⟨by simp [*], rfl⟩
theorem pages_low_no (wp : fits p = true) (wn : fits n = true) (e1 : pgOf a = -1) (e2 : ofOf a = -1) (h0 : a < 0)
    (q1 : enk p n = false) (q2 : enf p n = 0) (q3 : enl p n = 0) (h : p < 0 ∨ 63 < p ∨ (0 ≤ p ∧ p ≤ 63 ∧ n < 1) ∨ (0 ≤ p ∧ p ≤ 63 ∧ 1 ≤ n ∧ 64 - p < n)) : Calls Try.prog 3 #[.int .i64 a, .int .i64 p, .int .i64 n] w fun e w' => e = .returned (.bool true) ∧ w = w' := by
  have P := Lib.hid wp
  have N := Lib.hid wn
  obtain ⟨p1, p2⟩ := fits_iff.mp wp
  obtain ⟨n1, n2⟩ := fits_iff.mp wn
  clear wp wn
  rcases h with h3 | h3 | ⟨h3, h4, h5⟩ | ⟨h3, h4, h5, h6⟩
  all_goals
    go_enter Try.func3, Try.ntmps3
    go_wp2_with (first
      | (go_at_call 6; (with_reducible refine (alive_any _).mono ?_); rintro e w' ⟨rfl, rfl⟩)
      | (go_at_call 7; (with_reducible refine (ends_any _ _ _ P.out N.out).mono ?_); rintro e w' ⟨rfl, rfl⟩; rw [q1, q2, q3])
      | (go_at_call 8; (with_reducible refine (page_any _ _).mono ?_); rintro e w' ⟨rfl, rfl⟩; rw [e1])
      | (go_at_call 9; (with_reducible refine (off_any _ _).mono ?_); rintro e w' ⟨rfl, rfl⟩; rw [e2]))
    go_ret
    exact ⟨by simp [*], rfl⟩
theorem pages_high_yes (wp : fits p = true) (wn : fits n = true) (e1 : pgOf a = -1) (e2 : ofOf a = -1) (h0 : 0 ≤ a) (h1 : 2047 < a) (d1 : decide (a < 2048) = false)
    (q1 : enk p n = true) (q2 : enf p n = p * 32) (q3 : enl p n = p * 32 + n * 32 - 1) (h3 : 0 ≤ p) (h4 : 1 ≤ n) (h5 : p + n ≤ 64) : Calls Try.prog 3 #[.int .i64 a, .int .i64 p, .int .i64 n] w fun e w' => e = .returned (.bool true) ∧ w = w' := by
  have P := Lib.hid wp
  have N := Lib.hid wn
  obtain ⟨p1, p2⟩ := fits_iff.mp wp
  obtain ⟨n1, n2⟩ := fits_iff.mp wn
  clear wp wn
  have l1 : (p * 32 == 32 * p) = true := by simp; omega
  have l2 : (p * 32 + n * 32 - 1 == 32 * (p + n) - 1) = true := by simp; omega
  go_enter Try.func3, Try.ntmps3
  go_wp2_with (first
    | (go_at_call 6; (with_reducible refine (alive_any _).mono ?_); rintro e w' ⟨rfl, rfl⟩)
    | (go_at_call 7; (with_reducible refine (ends_any _ _ _ P.out N.out).mono ?_); rintro e w' ⟨rfl, rfl⟩; rw [q1, q2, q3])
    | (go_at_call 8; (with_reducible refine (page_any _ _).mono ?_); rintro e w' ⟨rfl, rfl⟩; rw [e1])
    | (go_at_call 9; (with_reducible refine (off_any _ _).mono ?_); rintro e w' ⟨rfl, rfl⟩; rw [e2]))
  go_ret
  exact ⟨by simp [*], rfl⟩
theorem pages_high_no (wp : fits p = true) (wn : fits n = true) (e1 : pgOf a = -1) (e2 : ofOf a = -1) (h0 : 0 ≤ a) (h1 : 2047 < a) (d1 : decide (a < 2048) = false)
    (q1 : enk p n = false) (q2 : enf p n = 0) (q3 : enl p n = 0) (h : p < 0 ∨ 63 < p ∨ (0 ≤ p ∧ p ≤ 63 ∧ n < 1) ∨ (0 ≤ p ∧ p ≤ 63 ∧ 1 ≤ n ∧ 64 - p < n)) : Calls Try.prog 3 #[.int .i64 a, .int .i64 p, .int .i64 n] w fun e w' => e = .returned (.bool true) ∧ w = w' := by
  have P := Lib.hid wp
  have N := Lib.hid wn
  obtain ⟨p1, p2⟩ := fits_iff.mp wp
  obtain ⟨n1, n2⟩ := fits_iff.mp wn
  clear wp wn
  rcases h with h3 | h3 | ⟨h3, h4, h5⟩ | ⟨h3, h4, h5, h6⟩
  all_goals
    go_enter Try.func3, Try.ntmps3
    go_wp2_with (first
      | (go_at_call 6; (with_reducible refine (alive_any _).mono ?_); rintro e w' ⟨rfl, rfl⟩)
      | (go_at_call 7; (with_reducible refine (ends_any _ _ _ P.out N.out).mono ?_); rintro e w' ⟨rfl, rfl⟩; rw [q1, q2, q3])
      | (go_at_call 8; (with_reducible refine (page_any _ _).mono ?_); rintro e w' ⟨rfl, rfl⟩; rw [e1])
      | (go_at_call 9; (with_reducible refine (off_any _ _).mono ?_); rintro e w' ⟨rfl, rfl⟩; rw [e2]))
    go_ret
    exact ⟨by simp [*], rfl⟩
theorem pages_walk (wp : fits p = true) (wn : fits n = true) : Calls Try.prog 3 #[.int .i64 a, .int .i64 p, .int .i64 n] w fun e w' => e = .returned (.bool true) ∧ w = w' := by
  rcases page_cases a with ⟨e1, e2, h0, h1, d1, d2⟩ | ⟨e1, e2, h0⟩ | ⟨e1, e2, h0, h1, d1⟩ <;>
  rcases ends_cases p n with ⟨q1, q2, q3, h3, h4, h5⟩ | ⟨q1, q2, q3, h⟩
  · exact pages_in_yes a p n w wp wn e1 e2 h0 h1 d1 d2 q1 q2 q3 h3 h4 h5
  · exact pages_in_no a p n w wp wn e1 e2 h0 h1 d1 d2 q1 q2 q3 h
  · exact pages_low_yes a p n w wp wn e1 e2 h0 q1 q2 q3 h3 h4 h5
  · exact pages_low_no a p n w wp wn e1 e2 h0 q1 q2 q3 h
  · exact pages_high_yes a p n w wp wn e1 e2 h0 h1 d1 q1 q2 q3 h3 h4 h5
  · exact pages_high_no a p n w wp wn e1 e2 h0 h1 d1 q1 q2 q3 h
theorem pages_below (wp : fits p = true) (wn : fits n = true) : Calls Try.prog 3 #[.int .i64 a, .int .i64 p, .int .i64 n] w fun e w' => e = .returned (.bool true) ∧ Below w.heap.size w w' :=
  (pages_walk a p n w wp wn).mono fun e w' ⟨h, hw⟩ => ⟨h, hw ▸ Below.refl _ _⟩
end
end Go.Proofs.Ytednmidmkjfkeaa.geos
