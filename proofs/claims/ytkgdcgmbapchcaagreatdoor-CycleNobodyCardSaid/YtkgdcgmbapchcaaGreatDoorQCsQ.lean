/- Texts that this claim stands on. -/
import Derived.RowKit
import Derived.Test.YtkgdcgmbapchcaaGreatDoorRows
import Derived.Lib.Hide
import Derived.WalkKit
import Derived.ProofKit
import Derived.OpenShut
import Derived.Below
import Derived.OwnWalk
namespace Go.Proofs.YtkgdcgmbapchcaaGreatDoor.calls
open Go Go.RowKit
def fits (n : Int) : Bool := decide (-9223372036854775808 ≤ n) && decide (n ≤ 9223372036854775807)
theorem fits_iff {n : Int} : fits n = true ↔ (-9223372036854775808 ≤ n ∧ n ≤ 9223372036854775807) := by simp [fits]
theorem absm (p b : Int) (hb : b ≠ 0) : ((p.tmod b).natAbs : Int) < b.natAbs := by
  rw [Int.natAbs_tmod]; exact_mod_cast Nat.mod_lt _ (by omega)
theorem absd (p b : Int) : ((p.tdiv b).natAbs) = p.natAbs / b.natAbs := Int.natAbs_tdiv p b
theorem down_math (a b : Int) (hb : 1 ≤ b) : (a.tmod b < 0 → a.tdiv b - 1 = a / b) ∧ (¬ a.tmod b < 0 → a.tdiv b = a / b) := by
  have e := Int.mul_tdiv_add_tmod a b
  have m : ((a.tmod b).natAbs : Int) < b.natAbs := absm a b (by omega)
  constructor
  · intro h
    symm
    rw [Int.ediv_eq_iff_of_pos (by omega)]
    rw [Int.sub_mul, Int.one_mul, Int.mul_comm _ b]
    omega
  · intro h
    symm
    rw [Int.ediv_eq_iff_of_pos (by omega)]
    rw [Int.mul_comm _ b]
    omega
theorem up_math (a b : Int) (hb : 1 ≤ b) : (0 < a.tmod b → a.tdiv b + 1 = -((-a) / b)) ∧ (¬ 0 < a.tmod b → a.tdiv b = -((-a) / b)) := by
  have h := down_math (-a) b hb
  rw [Int.neg_tdiv, Int.neg_tmod] at h
  obtain ⟨h1, h2⟩ := h
  constructor
  · intro x
    have := h1 (by omega)
    omega
  · intro x
    have := h2 (by omega)
    omega
theorem quo_facts (a b : Int) (hb : 1 ≤ b) (ha : -9223372036854775808 ≤ a ∧ a ≤ 9223372036854775807) :
    -9223372036854775808 ≤ a.tdiv b ∧ a.tdiv b ≤ 9223372036854775807 ∧ (a.tmod b < 0 → -9223372036854775808 ≤ a.tdiv b - 1) ∧ (0 < a.tmod b → a.tdiv b + 1 ≤ 9223372036854775807) ∧
    -9223372036854775808 ≤ a.tdiv b * b ∧ a.tdiv b * b ≤ 9223372036854775807 ∧ (a < a.tdiv b * b ↔ a.tmod b < 0) ∧ (a.tdiv b * b < a ↔ 0 < a.tmod b) := by
  have e := Int.mul_tdiv_add_tmod a b
  rw [Int.mul_comm] at e
  have d : (a.tdiv b).natAbs = a.natAbs / b.natAbs := absd a b
  have dl : (a.tdiv b).natAbs ≤ a.natAbs := by rw [d]; exact Nat.div_le_self _ _
  have dm : (a.tdiv b * b).natAbs ≤ a.natAbs := by rw [Int.natAbs_mul, d]; exact Nat.div_mul_le_self _ _
  have m : ((a.tmod b).natAbs : Int) < b.natAbs := absm a b (by omega)
  have hs : b = 1 ∨ (a.tdiv b).natAbs ≤ a.natAbs / 2 := by
    rcases Int.lt_or_le 1 b with h | h
    · right; rw [d]; exact Nat.div_le_div_left (by omega) (by omega)
    · left; omega
  have g1 : 0 ≤ a → 0 ≤ a.tdiv b := fun h => Int.tdiv_nonneg h (by omega)
  have g2 : a ≤ 0 → a.tdiv b ≤ 0 := fun h => by
    have := Int.tdiv_nonneg (a := -a) (b := b) (by omega) (by omega)
    rw [Int.neg_tdiv] at this; omega
  have g3 : a ≤ 0 → a.tdiv b * b ≤ 0 := fun h => Int.mul_nonpos_of_nonpos_of_nonneg (g2 h) (by omega)
  have g4 : 0 ≤ a → 0 ≤ a.tdiv b * b := fun h => Int.mul_nonneg (g1 h) (by omega)
  refine ⟨by omega, by omega, ?_, ?_, by omega, by omega, by omega, by omega⟩
  · intro h; rcases hs with rfl | hs
    · simp at m; omega
    · omega
  · intro h; rcases hs with rfl | hs
    · simp at m; omega
    · omega
end Go.Proofs.YtkgdcgmbapchcaaGreatDoor.calls
namespace Go.Proofs.YtkgdcgmbapchcaaGreatDoor.calls
open Go.ChangeShapes Go.WideShapes Go.ChangeAt Go.RowKit
set_option linter.unusedVariables false
def dn (a b : Int) : Int := if 1 ≤ b then a / b else 0
def up (a b : Int) : Int := if 1 ≤ b then -((-a) / b) else 0
def ok (b : Int) : Bool := decide (1 ≤ b)
theorem dn_yes {a b : Int} (h : 1 ≤ b) : dn a b = a / b := by simp [dn, h]
theorem up_yes {a b : Int} (h : 1 ≤ b) : up a b = -((-a) / b) := by simp [up, h]
theorem ok_yes {b : Int} (h : 1 ≤ b) : ok b = true := by simp [ok, h]
theorem dn_no {a b : Int} (h : b < 1) : dn a b = 0 := by simp [dn]; omega
theorem up_no {a b : Int} (h : b < 1) : up a b = 0 := by simp [up]; omega
theorem ok_no {b : Int} (h : b < 1) : ok b = false := by simp [ok]; omega
abbrev Quo (n : Int) (b : Int) (w : World) (e : Ending) (w' : World) : Prop := e = .returned (.tuple #[.int .i64 n, .bool (ok b)]) ∧ w = w'
theorem ret2 {a b : Int} {x : Bool} (h : a = b) : Ending.returned (.tuple #[.int .i64 a, .bool x]) = .returned (.tuple #[.int .i64 b, .bool x]) := by rw [h]
theorem down_any (a b : Int) (w : World) (a1 : fits a = true) (b1 : fits b = true) : Calls Tryz.prog 266 #[.int .i64 a, .int .i64 b] w (Quo (dn a b) b w) := by
  unfold Quo
  by_cases h : b < 1
  · rw [dn_no h, ok_no h]
    clear a1 b1
    go_enter Tryz.func266, Tryz.ntmps266
    go_wp2
    go_ret2
    exact ⟨rfl, rfl⟩
  · rw [dn_yes (by omega), ok_yes (by omega)]
    have hb : (b == 0) = false := by simp; omega
    have hb0 : ¬ b = 0 := by omega
    have hb1 : decide (b < 1) = false := by simp; omega
    have f := quo_facts a b (by omega) (fits_iff.mp a1)
    have m := down_math a b (by omega)
    have ha := fits_iff.mp a1
    obtain ⟨f1, f2, f3, f4, f5, f6, f7, f8⟩ := f
    by_cases k : a.tmod b < 0
    · have f3 := f3 k
      have H := Lib.hid (m.1 k)
      have k' : decide (a.tmod b < 0) = true := by simp; omega
      clear a1 b1 h f4 f5 f6 f7 f8 m 
      go_enter Tryz.func266, Tryz.ntmps266
      go_wp2
      go_ret2
      exact ⟨ret2 H.out, rfl⟩
    · have H := Lib.hid (m.2 k)
      have k' : decide (a.tmod b < 0) = false := by simp; omega
      clear a1 b1 h f3 f4 f5 f6 f7 f8 m 
      go_enter Tryz.func266, Tryz.ntmps266
      go_wp2
      go_ret2
      exact ⟨ret2 H.out, rfl⟩
end Go.Proofs.YtkgdcgmbapchcaaGreatDoor.calls
namespace Go.Proofs.YtkgdcgmbapchcaaGreatDoor.cls
open Go.ChangeShapes Go.WideShapes Go.ChangeAt Go.RowKit calls
set_option linter.unusedVariables false
def sz (k : Int) : Int := if k = 1 then 2 else if k = 2 then 4 else if k = 3 then 8 else if k = 4 then 16 else 0
def cl (k : Int) : Int := if k = 1 then 16 else if k = 2 then 8 else if k = 3 then 4 else if k = 4 then 2 else 0
theorem sz_no {k : Int} (h : k < 1 ∨ 4 < k) : sz k = 0 := by unfold sz; simp (disch := omega) only [if_neg]
theorem sz_wide (k : Int) : 0 ≤ sz k ∧ sz k ≤ 16 := by
  unfold sz; repeat' split
  all_goals omega
theorem ret1 {a b : Int} (h : a = b) : Ending.returned (.int .i64 a) = .returned (.int .i64 b) := by rw [h]
theorem size_any (k : Int) (w : World) (h : fits k = true) :
    Calls Tryz.prog 220 #[.int .i64 k] w fun e w' => e = .returned (.int .i64 (sz k)) ∧ w = w' := by
  obtain ⟨f1, f2⟩ := fits_iff.mp h
  clear h
  by_cases h1 : k < 1
  · rw [sz_no (.inl h1)]
    go_enter Tryz.func220, Tryz.ntmps220
    go_wp2
    go_ret
    exact ⟨rfl, rfl⟩
  by_cases h2 : 4 < k
  · rw [sz_no (.inr h2)]
    go_enter Tryz.func220, Tryz.ntmps220
    go_wp2
    go_ret
    exact ⟨rfl, rfl⟩
  have : k = 1 ∨ k = 2 ∨ k = 3 ∨ k = 4 := by omega
  rcases this with rfl | rfl | rfl | rfl
  all_goals
    clear h1 h2 f1 f2
    go_enter Tryz.func220, Tryz.ntmps220
    go_wp2
    go_ret
    exact ⟨ret1 rfl, rfl⟩
theorem cells_any (k : Int) (w : World) (h : fits k = true) :
    Calls Tryz.prog 223 #[.int .i64 k] w fun e w' => e = .returned (.int .i64 (cl k)) ∧ w = w' := by
  have e : dn 32 (sz k) = cl k := by
    unfold sz cl; repeat' split
    all_goals simp [dn]
  rw [← e]
  have W := sz_wide k
  clear e
  have H := Lib.hid h
  clear h
  go_enter Tryz.func223, Tryz.ntmps223
  go_wp2_with (first
    | (go_at_call 220; (with_reducible refine (size_any _ _ H.out).mono ?_); rintro e w' ⟨rfl, rfl⟩)
    | (go_at_call 266; (with_reducible refine (down_any _ _ _ (by simp [fits]) (by simp [fits]; omega)).mono ?_); rintro e w' ⟨rfl, rfl⟩))
  go_ret
  exact ⟨rfl, rfl⟩
theorem fits_wf {n : Int} (h : (Lit.int .i64 n).wf = true) : fits n = true := fits_iff.mpr (bounds_i64 h)
theorem cl_wide (k : Int) : 0 ≤ cl k ∧ cl k ≤ 16 := by
  unfold cl; repeat' split
  all_goals omega
theorem cl_no {k : Int} (h : k < 1 ∨ 4 < k) : cl k = 0 := by unfold cl; simp (disch := omega) only [if_neg]
end Go.Proofs.YtkgdcgmbapchcaaGreatDoor.cls
namespace Go.Proofs.YtkgdcgmbapchcaaGreatDoor.cls
open Go.ChangeShapes Go.WideShapes Go.ChangeAt Go.RowKit calls
set_option linter.unusedVariables false
def ofn (n : Int) : Int := if n < 0 ∨ 127 < n then 0 else if n < 2 then 1 else if n < 4 then 2 else if n < 8 then 3 else if n < 16 then 4 else 5
def pgs (n : Int) : Int := if n < 16 ∨ 127 < n then 0 else (n + 32) / 32
theorem sz_of {k n : Int} (h0 : 0 ≤ n) (h1 : n ≤ 127) (k1 : 1 ≤ k) (k2 : k ≤ 4) (lo : sz (k - 1) ≤ n) (hi : n < sz k) : ofn n = k := by
  have : k = 1 ∨ k = 2 ∨ k = 3 ∨ k = 4 := by omega
  rcases this with rfl | rfl | rfl | rfl <;> simp [sz] at lo hi <;> unfold ofn <;> simp (disch := omega) only [if_neg, if_pos]
theorem sz_large {n : Int} (h0 : 0 ≤ n) (h1 : n ≤ 127) (lo : 16 ≤ n) : ofn n = 5 := by
  unfold ofn; simp (disch := omega) only [if_neg]
theorem of_no {n : Int} (h : n < 0 ∨ 127 < n) : ofn n = 0 := by unfold ofn; rw [if_pos h]
theorem ofn_wide (n : Int) : 0 ≤ ofn n ∧ ofn n ≤ 5 := by
  unfold ofn; repeat' split
  all_goals omega
theorem ofn_eq (n : Int) : (ofn n = 0 ↔ (n < 0 ∨ 127 < n)) ∧ (ofn n = 5 ↔ (16 ≤ n ∧ n ≤ 127)) := by
  unfold ofn; repeat' split
  all_goals omega
theorem words_any (n : Int) (w : World) (h0 : 0 ≤ n) (h1 : n ≤ 127) :
    Calls Tryz.prog 219 #[.int .i64 n] w fun e w' => e = .returned (.int .i64 (1 + n)) ∧ w = w' := by
  go_enter Tryz.func219, Tryz.ntmps219
  go_wp2
  go_ret
  exact ⟨rfl, rfl⟩
theorem of_any (n : Int) (w : World) :
    Calls Tryz.prog 154 #[.int .i64 n] w fun e w' => e = .returned (.int .i64 (ofn n)) ∧ w = w' := by
  by_cases h1 : n < 0
  · rw [of_no (.inl h1)]
    go_enter Tryz.func154, Tryz.ntmps154
    go_wp2
    go_ret
    exact ⟨rfl, rfl⟩
  by_cases h2 : 127 < n
  · rw [of_no (.inr h2)]
    go_enter Tryz.func154, Tryz.ntmps154
    go_wp2
    go_ret
    exact ⟨rfl, rfl⟩
  have h0 : 0 ≤ n := by omega
  have h3 : n ≤ 127 := by omega
  go_enter Tryz.func154, Tryz.ntmps154
  go_wp2
  go_loop [3] (fun i => ∃ k : Int, 1 ≤ k ∧ k ≤ 5 ∧ i = .int .i64 k ∧ sz (k - 1) ≤ n) (fun i => 5 - (intOf i).toNat)
  case atStart => exact ⟨1, by omega, by omega, rfl, by simp [sz]; omega⟩
  case round =>
    obtain ⟨k, k1, k2, rfl, lo⟩ := hrel
    have L := Lib.hid lo
    clear lo
    by_cases k4 : k ≤ 4
    · have W := sz_wide k
      by_cases g : n < sz k
      · have G := Lib.hid g
        have d : decide (1 + n ≤ sz k) = true := by simp; omega
        clear g
        go_wp2_with (first
          | (go_at_call 219; (with_reducible refine (words_any _ _ h0 h3).mono ?_); rintro e w' ⟨rfl, rfl⟩)
          | (go_at_call 220; (with_reducible refine (size_any _ _ (by simp [fits]; omega)).mono ?_); rintro e w' ⟨rfl, rfl⟩))
        go_ret
        exact ⟨ret1 (sz_of h0 h3 k1 k4 L.out G.out).symm, rfl⟩
      · have G := Lib.hid g
        have d : decide (1 + n ≤ sz k) = false := by simp; omega
        clear g
        go_wp2_with (first
          | (go_at_call 219; (with_reducible refine (words_any _ _ h0 h3).mono ?_); rintro e w' ⟨rfl, rfl⟩)
          | (go_at_call 220; (with_reducible refine (size_any _ _ (by simp [fits]; omega)).mono ?_); rintro e w' ⟨rfl, rfl⟩))
        go_round
        case rel => exact ⟨k + 1, by omega, by omega, rfl, by rw [show k + 1 - 1 = k by omega]; have := G.out; omega⟩
        case measure => simp [intOf]; omega
    · obtain rfl : k = 5 := by omega
      go_wp2
      go_ret
      exact ⟨ret1 (sz_large h0 h3 (by have := L.out; simpa [sz] using this)).symm, rfl⟩
theorem up_any (a b : Int) (w : World) (a1 : fits a = true) (b1 : fits b = true) : Calls Tryz.prog 297 #[.int .i64 a, .int .i64 b] w (Quo (up a b) b w) := by
  unfold Quo
  by_cases h : b < 1
  · rw [up_no h, ok_no h]
    clear a1 b1
    go_enter Tryz.func297, Tryz.ntmps297
    go_wp2
    go_ret2
    exact ⟨rfl, rfl⟩
  · rw [up_yes (by omega), ok_yes (by omega)]
    have hb : (b == 0) = false := by simp; omega
    have hb0 : ¬ b = 0 := by omega
    have hb1 : decide (b < 1) = false := by simp; omega
    have f := quo_facts a b (by omega) (fits_iff.mp a1)
    have m := up_math a b (by omega)
    have ha := fits_iff.mp a1
    obtain ⟨f1, f2, f3, f4, f5, f6, f7, f8⟩ := f
    by_cases k : 0 < a.tmod b
    · have f4 := f4 k
      have H := Lib.hid (m.1 k)
      have k' : decide (0 < a.tmod b) = true := by simp; omega
      clear a1 b1 h f3 f5 f6 f7 f8 m 
      go_enter Tryz.func297, Tryz.ntmps297
      go_wp2
      go_ret2
      exact ⟨ret2 H.out, rfl⟩
    · have H := Lib.hid (m.2 k)
      have k' : decide (0 < a.tmod b) = false := by simp; omega
      clear a1 b1 h f3 f4 f5 f6 f7 f8 m 
      go_enter Tryz.func297, Tryz.ntmps297
      go_wp2
      go_ret2
      exact ⟨ret2 H.out, rfl⟩
theorem pages_any (n : Int) (w : World) :
    Calls Tryz.prog 268 #[.int .i64 n] w fun e w' => e = .returned (.int .i64 (pgs n)) ∧ w = w' := by
  have Q := ofn_eq n
  have W := ofn_wide n
  by_cases h : 16 ≤ n ∧ n ≤ 127
  · have d : (ofn n != 5) = false := by simp; omega
    have e : up (1 + n) 32 = pgs n := by unfold pgs; rw [if_neg (by omega), up_yes (by omega)]; omega
    have E := Lib.hid e
    clear e W Q
    go_enter Tryz.func268, Tryz.ntmps268
    go_wp2_with (first
      | (go_at_call 154; (with_reducible refine (of_any _ _).mono ?_); rintro e w' ⟨rfl, rfl⟩)
      | (go_at_call 219; (with_reducible refine (words_any _ _ (by omega) (by omega)).mono ?_); rintro e w' ⟨rfl, rfl⟩)
      | (go_at_call 297; (with_reducible refine (up_any _ _ _ (by simp [fits]; omega) (by simp [fits])).mono ?_); rintro e w' ⟨rfl, rfl⟩))
    go_ret
    exact ⟨ret1 E.out, rfl⟩
  · have d : (ofn n != 5) = true := by simp; omega
    have e : pgs n = 0 := by unfold pgs; rw [if_pos (by omega)]
    rw [e]
    clear e W Q h
    go_enter Tryz.func268, Tryz.ntmps268
    go_wp2_with (first
      | (go_at_call 154; (with_reducible refine (of_any _ _).mono ?_); rintro e w' ⟨rfl, rfl⟩))
    go_ret
    exact ⟨rfl, rfl⟩
end Go.Proofs.YtkgdcgmbapchcaaGreatDoor.cls
namespace Go.Proofs.YtkgdcgmbapchcaaGreatDoor.cls
open Go.ChangeShapes Go.WideShapes Go.ChangeAt Go.RowKit calls
set_option linter.unusedVariables false
end Go.Proofs.YtkgdcgmbapchcaaGreatDoor.cls
namespace Go.Proofs.YtkgdcgmbapchcaaGreatDoor.geos
open Go.ChangeShapes Go.WideShapes Go.ChangeAt Go.RowKit calls cls
set_option linter.unusedVariables false
def pgOf (a : Int) : Int := if a < 0 ∨ 2047 < a then -1 else a / 32
def ofOf (a : Int) : Int := if a < 0 ∨ 2047 < a then -1 else a % 32
def enk (p n : Int) : Bool := decide (0 ≤ p) && decide (1 ≤ n) && decide (p + n ≤ 64)
def enf (p n : Int) : Int := if enk p n = true then p * 32 else 0
def enl (p n : Int) : Int := if enk p n = true then p * 32 + n * 32 - 1 else 0
def bsOf (k a : Int) : Int := if sz k = 0 ∨ a < 0 ∨ 2047 < a then -1 else a - a % sz k
def cek (k a : Int) : Bool := !(sz k == 0) && decide (0 ≤ a) && decide (a ≤ 2047) && (a % sz k == 0)
def cei (k a : Int) : Int := if cek k a = true then a % 32 / sz k else 0
def atk (p k i : Int) : Bool := decide (0 ≤ p) && decide (p ≤ 63) && decide (0 ≤ i) && decide (i < cl k)
def ata (p k i : Int) : Int := if atk p k i = true then p * 32 + i * sz k else 0
theorem pgOf_yes {a : Int} (h0 : 0 ≤ a) (h1 : a ≤ 2047) : pgOf a = a / 32 := by unfold pgOf; rw [if_neg (by omega)]
theorem pgOf_no {a : Int} (h : a < 0 ∨ 2047 < a) : pgOf a = -1 := by unfold pgOf; rw [if_pos h]
theorem ofOf_yes {a : Int} (h0 : 0 ≤ a) (h1 : a ≤ 2047) : ofOf a = a % 32 := by unfold ofOf; rw [if_neg (by omega)]
theorem ofOf_no {a : Int} (h : a < 0 ∨ 2047 < a) : ofOf a = -1 := by unfold ofOf; rw [if_pos h]
theorem enk_iff {p n : Int} : enk p n = true ↔ (0 ≤ p ∧ 1 ≤ n ∧ p + n ≤ 64) := by simp [enk, and_assoc]
theorem enk_no {p n : Int} (h : ¬ (0 ≤ p ∧ 1 ≤ n ∧ p + n ≤ 64)) : enk p n = false := by rw [← Bool.not_eq_true, enk_iff]; exact h
theorem bsOf_yes {k a : Int} (hk : sz k ≠ 0) (h0 : 0 ≤ a) (h1 : a ≤ 2047) : bsOf k a = a - a % sz k := by unfold bsOf; rw [if_neg (by omega)]
theorem bsOf_no {k a : Int} (h : sz k = 0 ∨ a < 0 ∨ 2047 < a) : bsOf k a = -1 := by unfold bsOf; rw [if_pos h]
theorem cek_iff {k a : Int} : cek k a = true ↔ (sz k ≠ 0 ∧ 0 ≤ a ∧ a ≤ 2047 ∧ a % sz k = 0) := by simp [cek, and_assoc]
theorem cek_no {k a : Int} (h : ¬ (sz k ≠ 0 ∧ 0 ≤ a ∧ a ≤ 2047 ∧ a % sz k = 0)) : cek k a = false := by rw [← Bool.not_eq_true, cek_iff]; exact h
theorem atk_iff {p k i : Int} : atk p k i = true ↔ (0 ≤ p ∧ p ≤ 63 ∧ 0 ≤ i ∧ i < cl k) := by simp [atk, and_assoc]
theorem atk_no {p k i : Int} (h : ¬ (0 ≤ p ∧ p ≤ 63 ∧ 0 ≤ i ∧ i < cl k)) : atk p k i = false := by rw [← Bool.not_eq_true, atk_iff]; exact h
theorem small {k : Int} (h : 1 ≤ k) (h2 : k ≤ 4) : k = 1 ∨ k = 2 ∨ k = 3 ∨ k = 4 := by omega
theorem cl_small {k i : Int} (h0 : 0 ≤ i) (h : i < cl k) : k = 1 ∨ k = 2 ∨ k = 3 ∨ k = 4 := by
  by_cases c : k < 1 ∨ 4 < k
  · rw [cl_no c] at h; omega
  · omega
theorem sz_small {k : Int} (h : sz k ≠ 0) : k = 1 ∨ k = 2 ∨ k = 3 ∨ k = 4 := by
  by_cases c : k < 1 ∨ 4 < k
  · exact absurd (sz_no c) h
  · omega
theorem there_any (a : Int) (w : World) :
    Calls Tryz.prog 221 #[.int .i64 a] w fun e w' => e = .returned (.bool (decide (0 ≤ a) && decide (a ≤ 2047))) ∧ w = w' := by
  by_cases h0 : 0 ≤ a
  · by_cases h1 : a ≤ 2047
    · have e : (decide (0 ≤ a) && decide (a ≤ 2047)) = true := by simp; omega
      rw [e]
      have d : decide (a < 2048) = true := by simp; omega
      clear e
      go_enter Tryz.func221, Tryz.ntmps221
      go_wp2
      go_ret
      exact ⟨by simp, rfl⟩
    · have e : (decide (0 ≤ a) && decide (a ≤ 2047)) = false := by simp; omega
      rw [e]
      have d : decide (a < 2048) = false := by simp; omega
      clear e
      go_enter Tryz.func221, Tryz.ntmps221
      go_wp2
      go_ret
      exact ⟨by simp, rfl⟩
  · have e : (decide (0 ≤ a) && decide (a ≤ 2047)) = false := by simp; omega
    rw [e]
    clear e
    go_enter Tryz.func221, Tryz.ntmps221
    go_wp2
    go_ret
    exact ⟨rfl, rfl⟩
theorem there_yes {a : Int} (h0 : 0 ≤ a) (h1 : a ≤ 2047) : (decide (0 ≤ a) && decide (a ≤ 2047)) = true := by simp; omega
theorem there_no {a : Int} (h : a < 0 ∨ 2047 < a) : (decide (0 ≤ a) && decide (a ≤ 2047)) = false := by simp; omega
theorem page_any (a : Int) (w : World) :
    Calls Tryz.prog 155 #[.int .i64 a] w fun e w' => e = .returned (.int .i64 (pgOf a)) ∧ w = w' := by
  by_cases h : a < 0 ∨ 2047 < a
  · rw [pgOf_no h]
    have t := there_no h
    clear h
    go_enter Tryz.func155, Tryz.ntmps155
    go_wp2_with (go_at_call 221; (with_reducible refine (there_any _ _).mono ?_); rintro e w' ⟨rfl, rfl⟩; rw [t])
    go_ret
    exact ⟨rfl, rfl⟩
  · have h0 : 0 ≤ a := by omega
    have h1 : a ≤ 2047 := by omega
    rw [pgOf_yes h0 h1]
    have t := there_yes h0 h1
    clear h
    go_enter Tryz.func155, Tryz.ntmps155
    go_wp2_with (go_at_call 221; (with_reducible refine (there_any _ _).mono ?_); rintro e w' ⟨rfl, rfl⟩; rw [t])
    go_ret
    exact ⟨rfl, rfl⟩
theorem off_any (a : Int) (w : World) :
    Calls Tryz.prog 313 #[.int .i64 a] w fun e w' => e = .returned (.int .i64 (ofOf a)) ∧ w = w' := by
  by_cases h : a < 0 ∨ 2047 < a
  · rw [ofOf_no h]
    have t := there_no h
    clear h
    go_enter Tryz.func313, Tryz.ntmps313
    go_wp2_with (go_at_call 221; (with_reducible refine (there_any _ _).mono ?_); rintro e w' ⟨rfl, rfl⟩; rw [t])
    go_ret
    exact ⟨rfl, rfl⟩
  · have h0 : 0 ≤ a := by omega
    have h1 : a ≤ 2047 := by omega
    rw [ofOf_yes h0 h1]
    have t := there_yes h0 h1
    clear h
    go_enter Tryz.func313, Tryz.ntmps313
    go_wp2_with (go_at_call 221; (with_reducible refine (there_any _ _).mono ?_); rintro e w' ⟨rfl, rfl⟩; rw [t])
    go_ret
    exact ⟨rfl, rfl⟩
theorem ends_any (p n : Int) (w : World) (hp : fits p = true) (hn : fits n = true) :
    Calls Tryz.prog 279 #[.int .i64 p, .int .i64 n] w fun e w' => e = .returned (.tuple #[.int .i64 (enf p n), .int .i64 (enl p n), .bool (enk p n)]) ∧ w = w' := by
  obtain ⟨p1, p2⟩ := fits_iff.mp hp
  obtain ⟨n1, n2⟩ := fits_iff.mp hn
  clear hp hn
  by_cases h : 0 ≤ p ∧ 1 ≤ n ∧ p + n ≤ 64
  · have k := enk_iff.mpr h
    obtain ⟨h0, h1, h2⟩ := h
    unfold enf enl
    rw [k, if_pos rfl, if_pos rfl]
    clear k p1 p2 n1 n2
    go_enter Tryz.func279, Tryz.ntmps279
    go_wp2
    go_ret3
    exact ⟨rfl, rfl⟩
  · have k := enk_no h
    unfold enf enl
    rw [k, if_neg (by simp), if_neg (by simp)]
    clear k
    by_cases h0 : n < 1
    · go_enter Tryz.func279, Tryz.ntmps279
      go_wp2
      go_ret3
      exact ⟨rfl, rfl⟩
    by_cases h1 : p < 0
    · go_enter Tryz.func279, Tryz.ntmps279
      go_wp2
      go_ret3
      exact ⟨rfl, rfl⟩
    have h2 : 64 - n < p := by omega
    clear h
    go_enter Tryz.func279, Tryz.ntmps279
    go_wp2
    go_ret3
    exact ⟨rfl, rfl⟩
theorem base_any (k a : Int) (w : World) (hk : fits k = true) :
    Calls Tryz.prog 280 #[.int .i64 k, .int .i64 a] w fun e w' => e = .returned (.int .i64 (bsOf k a)) ∧ w = w' := by
  have K := Lib.hid hk
  by_cases hz : sz k = 0
  · rw [bsOf_no (.inl hz)]
    clear hk
    go_enter Tryz.func280, Tryz.ntmps280
    go_wp2_with (go_at_call 220; (with_reducible refine (size_any _ _ K.out).mono ?_); rintro e w' ⟨rfl, rfl⟩; rw [hz])
    go_ret
    exact ⟨rfl, rfl⟩
  by_cases h : a < 0 ∨ 2047 < a
  · rw [bsOf_no (.inr h)]
    have t := there_no h
    have d : (sz k == 0) = false := by simpa using hz
    clear hk h
    go_enter Tryz.func280, Tryz.ntmps280
    go_wp2_with (first
      | (go_at_call 220; (with_reducible refine (size_any _ _ K.out).mono ?_); rintro e w' ⟨rfl, rfl⟩)
      | (go_at_call 221; (with_reducible refine (there_any _ _).mono ?_); rintro e w' ⟨rfl, rfl⟩; rw [t]))
    go_ret
    exact ⟨rfl, rfl⟩
  have h0 : 0 ≤ a := by omega
  have h1 : a ≤ 2047 := by omega
  have t := there_yes h0 h1
  have o := ofOf_yes h0 h1
  have b := bsOf_yes hz h0 h1
  rw [b]
  clear b hk h
  rcases sz_small hz with rfl | rfl | rfl | rfl
  all_goals
    clear hz
    go_enter Tryz.func280, Tryz.ntmps280
    go_wp2_with (first
      | (go_at_call 220; (with_reducible refine (size_any _ _ K.out).mono ?_); rintro e w' ⟨rfl, rfl⟩; simp only [sz])
      | (go_at_call 221; (with_reducible refine (there_any _ _).mono ?_); rintro e w' ⟨rfl, rfl⟩; rw [t])
      | (go_at_call 313; (with_reducible refine (off_any _ _).mono ?_); rintro e w' ⟨rfl, rfl⟩; rw [o]))
    go_ret
    exact ⟨ret1 (by simp [sz]), rfl⟩
theorem cell_any (k a : Int) (w : World) (hk : fits k = true) :
    Calls Tryz.prog 292 #[.int .i64 k, .int .i64 a] w fun e w' => e = .returned (.tuple #[.int .i64 (cei k a), .bool (cek k a)]) ∧ w = w' := by
  have K := Lib.hid hk
  by_cases h : a < 0 ∨ 2047 < a
  · have c : cek k a = false := cek_no (by omega)
    unfold cei
    rw [c, if_neg (by simp)]
    have t := there_no h
    clear hk h c
    go_enter Tryz.func292, Tryz.ntmps292
    go_wp2_with (go_at_call 221; (with_reducible refine (there_any _ _).mono ?_); rintro e w' ⟨rfl, rfl⟩; rw [t])
    go_ret2
    exact ⟨rfl, rfl⟩
  have h0 : 0 ≤ a := by omega
  have h1 : a ≤ 2047 := by omega
  have t := there_yes h0 h1
  have o := ofOf_yes h0 h1
  by_cases hz : sz k = 0
  · have c : cek k a = false := cek_no (by omega)
    unfold cei
    rw [c, if_neg (by simp)]
    have b := bsOf_no (a := a) (.inl hz)
    clear hk h c hz
    go_enter Tryz.func292, Tryz.ntmps292
    go_wp2_with (first
      | (go_at_call 221; (with_reducible refine (there_any _ _).mono ?_); rintro e w' ⟨rfl, rfl⟩; rw [t])
      | (go_at_call 280; (with_reducible refine (base_any _ _ _ K.out).mono ?_); rintro e w' ⟨rfl, rfl⟩; rw [b]))
    go_ret2
    exact ⟨rfl, rfl⟩
  have b := bsOf_yes hz h0 h1
  by_cases m : a % sz k = 0
  · have c : cek k a = true := cek_iff.mpr ⟨hz, h0, h1, m⟩
    unfold cei
    rw [c, if_pos rfl]
    rw [m, Int.sub_zero] at b
    clear hk h c m
    rcases sz_small hz with rfl | rfl | rfl | rfl
    all_goals
      clear hz
      go_enter Tryz.func292, Tryz.ntmps292
      go_wp2_with (first
        | (go_at_call 220; (with_reducible refine (size_any _ _ K.out).mono ?_); rintro e w' ⟨rfl, rfl⟩; simp only [sz])
        | (go_at_call 221; (with_reducible refine (there_any _ _).mono ?_); rintro e w' ⟨rfl, rfl⟩; rw [t])
        | (go_at_call 280; (with_reducible refine (base_any _ _ _ K.out).mono ?_); rintro e w' ⟨rfl, rfl⟩; rw [b])
        | (go_at_call 313; (with_reducible refine (off_any _ _).mono ?_); rintro e w' ⟨rfl, rfl⟩; rw [o]))
      go_ret2
      exact ⟨rfl, rfl⟩
  · have c : cek k a = false := cek_no (by omega)
    unfold cei
    rw [c, if_neg (by simp)]
    generalize a % sz k = r at b m
    have d : (a - r != a) = true := by simp; omega
    clear hk h c hz m
    go_enter Tryz.func292, Tryz.ntmps292
    go_wp2_with (first
      | (go_at_call 221; (with_reducible refine (there_any _ _).mono ?_); rintro e w' ⟨rfl, rfl⟩; rw [t])
      | (go_at_call 280; (with_reducible refine (base_any _ _ _ K.out).mono ?_); rintro e w' ⟨rfl, rfl⟩; rw [b]))
    go_ret2
    exact ⟨rfl, rfl⟩
theorem at_any (p k i : Int) (w : World) (hp : fits p = true) (hk : fits k = true) :
    Calls Tryz.prog 263 #[.int .i64 p, .int .i64 k, .int .i64 i] w fun e w' => e = .returned (.tuple #[.int .i64 (ata p k i), .bool (atk p k i)]) ∧ w = w' := by
  have K := Lib.hid hk
  have P := Lib.hid hp
  have C := cl_wide k
  clear hk hp
  by_cases h0 : i < 0
  · have c : atk p k i = false := atk_no (by omega)
    unfold ata
    rw [c, if_neg (by simp)]
    clear c C
    go_enter Tryz.func263, Tryz.ntmps263
    go_wp2
    go_ret2
    exact ⟨rfl, rfl⟩
  by_cases h1 : cl k ≤ i
  · have c : atk p k i = false := atk_no (by omega)
    unfold ata
    rw [c, if_neg (by simp)]
    clear c
    go_enter Tryz.func263, Tryz.ntmps263
    go_wp2_with (go_at_call 223; (with_reducible refine (cells_any _ _ K.out).mono ?_); rintro e w' ⟨rfl, rfl⟩)
    go_ret2
    exact ⟨rfl, rfl⟩
  have f1 : fits 1 = true := by simp [fits]
  by_cases h2 : 0 ≤ p ∧ p ≤ 63
  · have c : atk p k i = true := atk_iff.mpr (by omega)
    unfold ata
    rw [c, if_pos rfl]
    have q : enk p 1 = true := enk_iff.mpr (by omega)
    have q1 : enf p 1 = p * 32 := by unfold enf; rw [if_pos q]
    have q2 : enl p 1 = p * 32 + 1 * 32 - 1 := by unfold enl; rw [if_pos q]
    obtain ⟨h2, h3⟩ := h2
    have sm := cl_small (i := i) (k := k) (by omega) (by omega)
    clear c f1
    rcases sm with rfl | rfl | rfl | rfl
    all_goals
      simp only [cl] at h1 C
      go_enter Tryz.func263, Tryz.ntmps263
      go_wp2_with (first
        | (go_at_call 223; (with_reducible refine (cells_any _ _ K.out).mono ?_); rintro e w' ⟨rfl, rfl⟩; simp only [cl])
        | (go_at_call 279; (with_reducible refine (ends_any _ _ _ P.out (by simp [fits])).mono ?_); rintro e w' ⟨rfl, rfl⟩; rw [q, q1, q2])
        | (go_at_call 220; (with_reducible refine (size_any _ _ K.out).mono ?_); rintro e w' ⟨rfl, rfl⟩; simp only [sz]))
      go_ret2
      exact ⟨rfl, rfl⟩
  · have c : atk p k i = false := atk_no (by omega)
    unfold ata
    rw [c, if_neg (by simp)]
    have q : enk p 1 = false := enk_no (by omega)
    have q1 : enf p 1 = 0 := by unfold enf; rw [if_neg (by simp [q])]
    have q2 : enl p 1 = 0 := by unfold enl; rw [if_neg (by simp [q])]
    have d : decide (cl k ≤ i) = false := by simp; omega
    clear c h2
    go_enter Tryz.func263, Tryz.ntmps263
    go_wp2_with (first
      | (go_at_call 223; (with_reducible refine (cells_any _ _ K.out).mono ?_); rintro e w' ⟨rfl, rfl⟩)
      | (go_at_call 279; (with_reducible refine (ends_any _ _ _ P.out f1).mono ?_); rintro e w' ⟨rfl, rfl⟩; rw [q, q1, q2]))
    go_ret2
    exact ⟨rfl, rfl⟩
end Go.Proofs.YtkgdcgmbapchcaaGreatDoor.geos
