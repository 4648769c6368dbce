/- A number of fields: its class, and a large one's pages. -/
import Derived.Test.YtfhmhlofjoahlaaGreatDoorCsQ
namespace Go.Proofs.YtfhmhlofjoahlaaGreatDoor.cls
open Go.ChangeShapes Go.WideShapes Go.ChangeAt Go.RowKit calls
set_option linter.unusedVariables false
/-- The class of an object with n fields. -/
def ofn (n : Int) : Int := if n < 0 ∨ 127 < n then 0 else if n < 2 then 1 else if n < 4 then 2 else if n < 8 then 3 else if n < 16 then 4 else 5
/-- The pages of a large one. -/
def pgs (n : Int) : Int := if n < 16 ∨ 127 < n then 0 else (n + 32) / 32
theorem sz_of {k n : Int} (h0 : 0 ≤ n) (h1 : n ≤ 127) (k1 : 1 ≤ k) (k2 : k ≤ 4) (lo : sz (k - 1) ≤ n) (hi : n < sz k) : ofn n = k := by
  have : k = 1 ∨ k = 2 ∨ k = 3 ∨ k = 4 := by omega
  rcases this with rfl | rfl | rfl | rfl <;> simp [sz] at lo hi <;> unfold ofn <;> simp (disch := omega) only [if_neg, if_pos]
theorem sz_large {n : Int} (h0 : 0 ≤ n) (h1 : n ≤ 127) (lo : 16 ≤ n) : ofn n = 5 := by
  unfold ofn; simp (disch := omega) only [if_neg]
theorem of_no {n : Int} (h : n < 0 ∨ 127 < n) : ofn n = 0 := by unfold ofn; rw [if_pos h]
theorem ofn_wide (n : Int) : 0 ≤ ofn n ∧ ofn n ≤ 5 := by
  unfold ofn; repeat' split
  all_goals omega
theorem ofn_eq (n : Int) : (ofn n = 0 ↔ (n < 0 ∨ 127 < n)) ∧ (ofn n = 5 ↔ (16 ≤ n ∧ n ≤ 127)) := by
  unfold ofn; repeat' split
  all_goals omega
theorem words_any (n : Int) (w : World) (h0 : 0 ≤ n) (h1 : n ≤ 127) :
    Calls Tryz.prog 46 #[.int .i64 n] w fun e w' => e = .returned (.int .i64 (1 + n)) ∧ w = w' := by
  go_enter Tryz.func46, Tryz.ntmps46
  go_wp2
  go_ret
  exact ⟨rfl, rfl⟩
theorem of_any (n : Int) (w : World) :
    Calls Tryz.prog 24 #[.int .i64 n] w fun e w' => e = .returned (.int .i64 (ofn n)) ∧ w = w' := by
  by_cases h1 : n < 0
  · rw [of_no (.inl h1)]
    go_enter Tryz.func24, Tryz.ntmps24
    go_wp2
    go_ret
    exact ⟨rfl, rfl⟩
  by_cases h2 : 127 < n
  · rw [of_no (.inr h2)]
    go_enter Tryz.func24, Tryz.ntmps24
    go_wp2
    go_ret
    exact ⟨rfl, rfl⟩
  have h0 : 0 ≤ n := by omega
  have h3 : n ≤ 127 := by omega
  go_enter Tryz.func24, Tryz.ntmps24
  go_wp2
  go_loop [3] (fun i => ∃ k : Int, 1 ≤ k ∧ k ≤ 5 ∧ i = .int .i64 k ∧ sz (k - 1) ≤ n) (fun i => 5 - (intOf i).toNat)
  case atStart => exact ⟨1, by omega, by omega, rfl, by simp [sz]; omega⟩
  case round =>
    obtain ⟨k, k1, k2, rfl, lo⟩ := hrel
    have L := Lib.hid lo
    clear lo
    by_cases k4 : k ≤ 4
    · have W := sz_wide k
      by_cases g : n < sz k
      · have G := Lib.hid g
        have d : decide (1 + n ≤ sz k) = true := by simp; omega
        clear g
        go_wp2_with (first
          | (go_at_call 46; (with_reducible refine (words_any _ _ h0 h3).mono ?_); rintro e w' ⟨rfl, rfl⟩)
          | (go_at_call 47; (with_reducible refine (size_any _ _ (by simp [fits]; omega)).mono ?_); rintro e w' ⟨rfl, rfl⟩))
        go_ret
        exact ⟨ret1 (sz_of h0 h3 k1 k4 L.out G.out).symm, rfl⟩
      · have G := Lib.hid g
        have d : decide (1 + n ≤ sz k) = false := by simp; omega
        clear g
        go_wp2_with (first
          | (go_at_call 46; (with_reducible refine (words_any _ _ h0 h3).mono ?_); rintro e w' ⟨rfl, rfl⟩)
          | (go_at_call 47; (with_reducible refine (size_any _ _ (by simp [fits]; omega)).mono ?_); rintro e w' ⟨rfl, rfl⟩))
        go_round
        case rel => exact ⟨k + 1, by omega, by omega, rfl, by rw [show k + 1 - 1 = k by omega]; have := G.out; omega⟩
        case measure => simp [intOf]; omega
    · obtain rfl : k = 5 := by omega
      go_wp2
      go_ret
      exact ⟨ret1 (sz_large h0 h3 (by have := L.out; simpa [sz] using this)).symm, rfl⟩
theorem up_any (a b : Int) (w : World) (a1 : fits a = true) (b1 : fits b = true) : Calls Tryz.prog 103 #[.int .i64 a, .int .i64 b] w (Quo (up a b) b w) := by
  unfold Quo
  by_cases h : b < 1
  · rw [up_no h, ok_no h]
    clear a1 b1
    go_enter Tryz.func103, Tryz.ntmps103
    go_wp2
    go_ret2
    exact ⟨rfl, rfl⟩
  · rw [up_yes (by omega), ok_yes (by omega)]
    have hb : (b == 0) = false := by simp; omega
    have hb0 : ¬ b = 0 := by omega
    have hb1 : decide (b < 1) = false := by simp; omega
    have f := quo_facts a b (by omega) (fits_iff.mp a1)
    have m := up_math a b (by omega)
    have ha := fits_iff.mp a1
    obtain ⟨f1, f2, f3, f4, f5, f6, f7, f8⟩ := f
    by_cases k : 0 < a.tmod b
    · have f4 := f4 k
      have H := Lib.hid (m.1 k)
      have k' : decide (0 < a.tmod b) = true := by simp; omega
      clear a1 b1 h f3 f5 f6 f7 f8 m 
      go_enter Tryz.func103, Tryz.ntmps103
      go_wp2
      go_ret2
      exact ⟨ret2 H.out, rfl⟩
    · have H := Lib.hid (m.2 k)
      have k' : decide (0 < a.tmod b) = false := by simp; omega
      clear a1 b1 h f3 f4 f5 f6 f7 f8 m 
      go_enter Tryz.func103, Tryz.ntmps103
      go_wp2
      go_ret2
      exact ⟨ret2 H.out, rfl⟩
theorem pages_any (n : Int) (w : World) :
    Calls Tryz.prog 79 #[.int .i64 n] w fun e w' => e = .returned (.int .i64 (pgs n)) ∧ w = w' := by
  have Q := ofn_eq n
  have W := ofn_wide n
  by_cases h : 16 ≤ n ∧ n ≤ 127
  · have d : (ofn n != 5) = false := by simp; omega
    have e : up (1 + n) 32 = pgs n := by unfold pgs; rw [if_neg (by omega), up_yes (by omega)]; omega
    have E := Lib.hid e
    clear e W Q
    go_enter Tryz.func79, Tryz.ntmps79
    go_wp2_with (first
      | (go_at_call 24; (with_reducible refine (of_any _ _).mono ?_); rintro e w' ⟨rfl, rfl⟩)
      | (go_at_call 46; (with_reducible refine (words_any _ _ (by omega) (by omega)).mono ?_); rintro e w' ⟨rfl, rfl⟩)
      | (go_at_call 103; (with_reducible refine (up_any _ _ _ (by simp [fits]; omega) (by simp [fits])).mono ?_); rintro e w' ⟨rfl, rfl⟩))
    go_ret
    exact ⟨ret1 E.out, rfl⟩
  · have d : (ofn n != 5) = true := by simp; omega
    have e : pgs n = 0 := by unfold pgs; rw [if_pos (by omega)]
    rw [e]
    clear e W Q h
    go_enter Tryz.func79, Tryz.ntmps79
    go_wp2_with (first
      | (go_at_call 24; (with_reducible refine (of_any _ _).mono ?_); rintro e w' ⟨rfl, rfl⟩))
    go_ret
    exact ⟨rfl, rfl⟩
theorem pgs_wide (n : Int) : 0 ≤ pgs n ∧ pgs n ≤ 4 := by unfold pgs; split <;> omega
end Go.Proofs.YtfhmhlofjoahlaaGreatDoor.cls
