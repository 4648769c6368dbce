/- What the quotient rounded down of layer 1 answers when it is called. -/
import Derived.Test.YtagahkofjgbfhaaRows
import Derived.Test.YtagahkofjgbfhaaCalcM
import Derived.Lib.Hide
import Derived.WalkKit
import Derived.ProofKit
import Derived.OpenShut
namespace Go.Proofs.Ytagahkofjgbfhaa.calls
open Go.ChangeShapes Go.WideShapes Go.ChangeAt Go.RowKit
set_option linter.unusedVariables false

/-- What a quotient that was rounded is told as. -/
def dn (a b : Int) : Int := if 1 ≤ b then a / b else 0
def up (a b : Int) : Int := if 1 ≤ b then -((-a) / b) else 0
def ok (b : Int) : Bool := decide (1 ≤ b)
theorem dn_yes {a b : Int} (h : 1 ≤ b) : dn a b = a / b := by simp [dn, h]
theorem up_yes {a b : Int} (h : 1 ≤ b) : up a b = -((-a) / b) := by simp [up, h]
theorem ok_yes {b : Int} (h : 1 ≤ b) : ok b = true := by simp [ok, h]
theorem dn_no {a b : Int} (h : b < 1) : dn a b = 0 := by simp [dn]; omega
theorem up_no {a b : Int} (h : b < 1) : up a b = 0 := by simp [up]; omega
theorem ok_no {b : Int} (h : b < 1) : ok b = false := by simp [ok]; omega
abbrev Quo (n : Int) (b : Int) (w : World) (e : Ending) (w' : World) : Prop := e = .returned (.tuple #[.int .i64 n, .bool (ok b)]) ∧ w = w'
theorem ret2 {a b : Int} {x : Bool} (h : a = b) : Ending.returned (.tuple #[.int .i64 a, .bool x]) = .returned (.tuple #[.int .i64 b, .bool x]) := by rw [h]

theorem down_any (a b : Int) (w : World) (a1 : fits a = true) (b1 : fits b = true) : Calls Try.prog 49 #[.int .i64 a, .int .i64 b] w (Quo (dn a b) b w) := by
  unfold Quo
  by_cases h : b < 1
  · rw [dn_no h, ok_no h]
    clear a1 b1
    go_enter Try.func49, Try.ntmps49
    go_wp2
    go_ret2
    exact ⟨rfl, rfl⟩
  · rw [dn_yes (by omega), ok_yes (by omega)]
    have hb : (b == 0) = false := by simp; omega
    have hb0 : ¬ b = 0 := by omega
    have hb1 : decide (b < 1) = false := by simp; omega
    have f := quo_facts a b (by omega) (fits_iff.mp a1)
    have m := down_math a b (by omega)
    have ha := fits_iff.mp a1
    obtain ⟨f1, f2, f3, f4, f5, f6, f7, f8⟩ := f
    by_cases k : a.tmod b < 0
    · have f3 := f3 k
      have H := Lib.hid (m.1 k)
      have k' : decide (a.tmod b < 0) = true := by simp; omega
      clear a1 b1 h f4 f5 f6 f7 f8 m 
      go_enter Try.func49, Try.ntmps49
      go_wp2
      go_ret2
      exact ⟨ret2 H.out, rfl⟩
    · have H := Lib.hid (m.2 k)
      have k' : decide (a.tmod b < 0) = false := by simp; omega
      clear a1 b1 h f3 f4 f5 f6 f7 f8 m 
      go_enter Try.func49, Try.ntmps49
      go_wp2
      go_ret2
      exact ⟨ret2 H.out, rfl⟩
end Go.Proofs.Ytagahkofjgbfhaa.calls
