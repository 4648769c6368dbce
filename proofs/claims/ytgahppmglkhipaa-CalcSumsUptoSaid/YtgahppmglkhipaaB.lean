/- What products and quotients of layer 1, and their plain answers, do when they are called. -/
import Derived.Test.YtgahppmglkhipaaA
import Derived.Lib.Hide
namespace Go.Proofs.Ytgahppmglkhipaa.calls
open Go.ChangeShapes Go.WideShapes Go.ChangeAt Go.RowKit
set_option linter.unusedVariables false

theorem fits0 : fits 0 = true := by simp [fits]
theorem mul_zero (a b : Int) (w : World) (h : a = 0 ∨ b = 0) : Calls Try.prog 12 #[.int .i64 a, .int .i64 b] w (Told (a * b) w) := by
  have e : a * b = 0 := by rcases h with rfl | rfl <;> simp
  unfold Told; rw [e, val_yes fits0, fits0]
  by_cases ha : a = 0
  · subst ha
    go_enter Try.func12, Try.ntmps12
    go_wp2
    go_ret2
    exact ⟨rfl, rfl⟩
  · obtain rfl : b = 0 := by omega
    have ha' : (a == 0) = false := by simpa using ha
    clear ha h e
    go_enter Try.func12, Try.ntmps12
    go_wp2
    go_ret2
    exact ⟨rfl, rfl⟩
theorem rmul_zero (a b : Int) (w : World) (h : a = 0 ∨ b = 0) : Calls Try.prog 13 #[.int .i64 a, .int .i64 b] w (Told (a * b) w) := by
  have e : a * b = 0 := by rcases h with rfl | rfl <;> simp
  unfold Told; rw [e, val_yes fits0, fits0]
  by_cases ha : a = 0
  · subst ha
    go_enter Try.func13, Try.ntmps13
    go_wp2
    go_ret2
    exact ⟨rfl, rfl⟩
  · obtain rfl : b = 0 := by omega
    have ha' : (a == 0) = false := by simpa using ha
    clear ha h e
    go_enter Try.func13, Try.ntmps13
    go_wp2
    go_ret2
    exact ⟨rfl, rfl⟩
/-- What the test on a product's quotient, and on its sign, come to. -/
theorem mul_yes (a b : Int) (w : World) (ha : a ≠ 0) (hb : b ≠ 0) (a1 : fits a = true) (h : fits (a * b) = true) :
    Calls Try.prog 12 #[.int .i64 a, .int .i64 b] w fun e w' => e = .returned (.tuple #[.int .i64 (a * b), .bool true]) ∧ w = w' := by
  obtain ⟨h1, h2⟩ := fits_iff.mp h
  obtain ⟨h3, h4⟩ := fits_iff.mp a1
  have s := sign_math a b ha hb
  have ha' : (a == 0) = false := by simpa using ha
  have hb' : (b == 0) = false := by simpa using hb
  rcases Int.lt_or_gt_of_ne ha with k | k <;> rcases Int.lt_or_gt_of_ne hb with l | l
  all_goals
    first
    | have p1 : decide (a < 0) = true := by simp; omega
    | have p1 : decide (a < 0) = false := by simp; omega
    first
    | have p2 : decide (b < 0) = true := by simp; omega
    | have p2 : decide (b < 0) = false := by simp; omega
    rw [p1, p2] at s
    simp only [bne_self_eq_false, Bool.true_bne, Bool.false_bne, Bool.not_false] at s
    clear ha h a1
    go_enter Try.func12, Try.ntmps12
    go_wp2
    go_ret2
    exact ⟨rfl, rfl⟩
theorem mul_no (a b : Int) (w : World) (ha : a ≠ 0) (hb : b ≠ 0) (a1 : fits a = true) (b1 : fits b = true) (h : fits (a * b) = false) :
    Calls Try.prog 12 #[.int .i64 a, .int .i64 b] w fun e w' => e = .returned (.tuple #[.int .i64 0, .bool false]) ∧ w = w' := by
  rcases mul_no_math a b (fits_iff.mp a1) (fits_iff.mp b1) hb (fits_no.mp h) with k | ⟨rfl, rfl⟩
  · have ha' : (a == 0) = false := by simpa using ha
    have hb' : (b == 0) = false := by simpa using hb
    clear ha h a1 b1
    go_enter Try.func12, Try.ntmps12
    go_wp2
    go_ret2
    exact ⟨rfl, rfl⟩
  · clear ha h a1 b1 hb
    have e1 : wrap64 9223372036854775808 = -9223372036854775808 := by simp [wrap64]
    go_enter Try.func12, Try.ntmps12
    go_wp2
    go_ret2
    exact ⟨rfl, rfl⟩
theorem mul_any (a b : Int) (w : World) (a1 : fits a = true) (b1 : fits b = true) : Calls Try.prog 12 #[.int .i64 a, .int .i64 b] w (Told (a * b) w) := by
  by_cases hz : a = 0 ∨ b = 0
  · exact mul_zero a b w hz
  cases h : fits (a * b)
  · unfold Told; rw [val_no h, h]; exact mul_no a b w (by omega) (by omega) a1 b1 h
  · unfold Told; rw [val_yes h, h]; exact mul_yes a b w (by omega) (by omega) a1 h
theorem rmul_any (a b : Int) (w : World) (a1 : fits a = true) (b1 : fits b = true) : Calls Try.prog 13 #[.int .i64 a, .int .i64 b] w (Told (a * b) w) := by
  by_cases hz : a = 0 ∨ b = 0
  · exact rmul_zero a b w hz
  have ha : a ≠ 0 := by omega
  have hb : b ≠ 0 := by omega
  have ha' : (a == 0) = false := by simpa using ha
  have hb' : (b == 0) = false := by simpa using hb
  by_cases ma : a = -1
  · subst ma
    have e : (-1 : Int) * b = -b := by omega
    rw [e]
    clear ha ha' hz e
    go_enter Try.func13, Try.ntmps13
    go_wp2_with (go_at_call 11; (with_reducible refine (rsub_any _ _ _ fits0 b1).mono ?_); rintro e w' ⟨rfl, rfl⟩)
    go_ret2
    exact ⟨rfl, rfl⟩
  by_cases mb : b = -1
  · subst mb
    have e : a * (-1 : Int) = -a := by omega
    rw [e]
    have ma' : (a == -1) = false := by simpa using ma
    clear hb hb' hz e ma ha
    go_enter Try.func13, Try.ntmps13
    go_wp2_with (go_at_call 11; (with_reducible refine (rsub_any _ _ _ fits0 a1).mono ?_); rintro e w' ⟨rfl, rfl⟩)
    go_ret2
    exact ⟨rfl, rfl⟩
  have ma' : (a == -1) = false := by simpa using ma
  have mb' : (b == -1) = false := by simpa using mb
  unfold Told
  cases h : fits (a * b)
  · rw [val_no h]
    rcases mul_no_math a b (fits_iff.mp a1) (fits_iff.mp b1) hb (fits_no.mp h) with k | ⟨k, -⟩
    · clear ha h a1 b1 hz ma mb
      go_enter Try.func13, Try.ntmps13
      go_wp2
      go_ret2
      exact ⟨rfl, rfl⟩
    · exact absurd k mb
  · rw [val_yes h]
    obtain ⟨h1, h2⟩ := fits_iff.mp h
    obtain ⟨h3, h4⟩ := fits_iff.mp a1
    clear ha h a1 b1 hz ma mb
    go_enter Try.func13, Try.ntmps13
    go_wp2
    go_ret2
    exact ⟨rfl, rfl⟩

/-- What a quotient that was rounded is told as. -/
def dn (a b : Int) : Int := if 1 ≤ b then a / b else 0
def up (a b : Int) : Int := if 1 ≤ b then -((-a) / b) else 0
def ok (b : Int) : Bool := decide (1 ≤ b)
theorem dn_yes {a b : Int} (h : 1 ≤ b) : dn a b = a / b := by simp [dn, h]
theorem up_yes {a b : Int} (h : 1 ≤ b) : up a b = -((-a) / b) := by simp [up, h]
theorem ok_yes {b : Int} (h : 1 ≤ b) : ok b = true := by simp [ok, h]
theorem dn_no {a b : Int} (h : b < 1) : dn a b = 0 := by simp [dn]; omega
theorem up_no {a b : Int} (h : b < 1) : up a b = 0 := by simp [up]; omega
theorem ok_no {b : Int} (h : b < 1) : ok b = false := by simp [ok]; omega
abbrev Quo (n : Int) (b : Int) (w : World) (e : Ending) (w' : World) : Prop := e = .returned (.tuple #[.int .i64 n, .bool (ok b)]) ∧ w = w'
theorem ret2 {a b : Int} {x : Bool} (h : a = b) : Ending.returned (.tuple #[.int .i64 a, .bool x]) = .returned (.tuple #[.int .i64 b, .bool x]) := by rw [h]

theorem down_any (a b : Int) (w : World) (a1 : fits a = true) (b1 : fits b = true) : Calls Try.prog 14 #[.int .i64 a, .int .i64 b] w (Quo (dn a b) b w) := by
  unfold Quo
  by_cases h : b < 1
  · rw [dn_no h, ok_no h]
    clear a1 b1
    go_enter Try.func14, Try.ntmps14
    go_wp2
    go_ret2
    exact ⟨rfl, rfl⟩
  · rw [dn_yes (by omega), ok_yes (by omega)]
    have hb : (b == 0) = false := by simp; omega
    have hb0 : ¬ b = 0 := by omega
    have hb1 : decide (b < 1) = false := by simp; omega
    have f := quo_facts a b (by omega) (fits_iff.mp a1)
    have m := down_math a b (by omega)
    have ha := fits_iff.mp a1
    obtain ⟨f1, f2, f3, f4, f5, f6, f7, f8⟩ := f
    by_cases k : a.tmod b < 0
    · have f3 := f3 k
      have H := Lib.hid (m.1 k)
      have k' : decide (a.tmod b < 0) = true := by simp; omega
      clear a1 b1 h f4 f5 f6 f7 f8 m 
      go_enter Try.func14, Try.ntmps14
      go_wp2
      go_ret2
      exact ⟨ret2 H.out, rfl⟩
    · have H := Lib.hid (m.2 k)
      have k' : decide (a.tmod b < 0) = false := by simp; omega
      clear a1 b1 h f3 f4 f5 f6 f7 f8 m 
      go_enter Try.func14, Try.ntmps14
      go_wp2
      go_ret2
      exact ⟨ret2 H.out, rfl⟩
theorem up_any (a b : Int) (w : World) (a1 : fits a = true) (b1 : fits b = true) : Calls Try.prog 15 #[.int .i64 a, .int .i64 b] w (Quo (up a b) b w) := by
  unfold Quo
  by_cases h : b < 1
  · rw [up_no h, ok_no h]
    clear a1 b1
    go_enter Try.func15, Try.ntmps15
    go_wp2
    go_ret2
    exact ⟨rfl, rfl⟩
  · rw [up_yes (by omega), ok_yes (by omega)]
    have hb : (b == 0) = false := by simp; omega
    have hb0 : ¬ b = 0 := by omega
    have hb1 : decide (b < 1) = false := by simp; omega
    have f := quo_facts a b (by omega) (fits_iff.mp a1)
    have m := up_math a b (by omega)
    have ha := fits_iff.mp a1
    obtain ⟨f1, f2, f3, f4, f5, f6, f7, f8⟩ := f
    by_cases k : 0 < a.tmod b
    · have f4 := f4 k
      have H := Lib.hid (m.1 k)
      have k' : decide (0 < a.tmod b) = true := by simp; omega
      clear a1 b1 h f3 f5 f6 f7 f8 m 
      go_enter Try.func15, Try.ntmps15
      go_wp2
      go_ret2
      exact ⟨ret2 H.out, rfl⟩
    · have H := Lib.hid (m.2 k)
      have k' : decide (0 < a.tmod b) = false := by simp; omega
      clear a1 b1 h f3 f4 f5 f6 f7 f8 m 
      go_enter Try.func15, Try.ntmps15
      go_wp2
      go_ret2
      exact ⟨ret2 H.out, rfl⟩
theorem rdown_any (a b : Int) (w : World) (a1 : fits a = true) (b1 : fits b = true) : Calls Try.prog 16 #[.int .i64 a, .int .i64 b] w (Quo (dn a b) b w) := by
  unfold Quo
  by_cases h : b < 1
  · rw [dn_no h, ok_no h]
    clear a1 b1
    go_enter Try.func16, Try.ntmps16
    go_wp2
    go_ret2
    exact ⟨rfl, rfl⟩
  · rw [dn_yes (by omega), ok_yes (by omega)]
    have hb : (b == 0) = false := by simp; omega
    have hb0 : ¬ b = 0 := by omega
    have hb1 : decide (b < 1) = false := by simp; omega
    have f := quo_facts a b (by omega) (fits_iff.mp a1)
    have m := down_math a b (by omega)
    have ha := fits_iff.mp a1
    obtain ⟨f1, f2, f3, f4, f5, f6, f7, f8⟩ := f
    by_cases k : a.tmod b < 0
    · have f3 := f3 k
      have H := Lib.hid (m.1 k)
      have k' : decide (a < a.tdiv b * b) = true := by simp; omega
      clear a1 b1 h f4 f7 f8 m k 
      go_enter Try.func16, Try.ntmps16
      go_wp2
      go_ret2
      exact ⟨ret2 H.out, rfl⟩
    · have H := Lib.hid (m.2 k)
      have k' : decide (a < a.tdiv b * b) = false := by simp; omega
      clear a1 b1 h f3 f4 f7 f8 m k 
      go_enter Try.func16, Try.ntmps16
      go_wp2
      go_ret2
      exact ⟨ret2 H.out, rfl⟩
theorem rup_any (a b : Int) (w : World) (a1 : fits a = true) (b1 : fits b = true) : Calls Try.prog 17 #[.int .i64 a, .int .i64 b] w (Quo (up a b) b w) := by
  unfold Quo
  by_cases h : b < 1
  · rw [up_no h, ok_no h]
    clear a1 b1
    go_enter Try.func17, Try.ntmps17
    go_wp2
    go_ret2
    exact ⟨rfl, rfl⟩
  · rw [up_yes (by omega), ok_yes (by omega)]
    have hb : (b == 0) = false := by simp; omega
    have hb0 : ¬ b = 0 := by omega
    have hb1 : decide (b < 1) = false := by simp; omega
    have f := quo_facts a b (by omega) (fits_iff.mp a1)
    have m := up_math a b (by omega)
    have ha := fits_iff.mp a1
    obtain ⟨f1, f2, f3, f4, f5, f6, f7, f8⟩ := f
    by_cases k : 0 < a.tmod b
    · have f4 := f4 k
      have H := Lib.hid (m.1 k)
      have k' : decide (a.tdiv b * b < a) = true := by simp; omega
      clear a1 b1 h f3 f7 f8 m k 
      go_enter Try.func17, Try.ntmps17
      go_wp2
      go_ret2
      exact ⟨ret2 H.out, rfl⟩
    · have H := Lib.hid (m.2 k)
      have k' : decide (a.tdiv b * b < a) = false := by simp; omega
      clear a1 b1 h f3 f4 f7 f8 m k 
      go_enter Try.func17, Try.ntmps17
      go_wp2
      go_ret2
      exact ⟨ret2 H.out, rfl⟩
end Go.Proofs.Ytgahppmglkhipaa.calls
