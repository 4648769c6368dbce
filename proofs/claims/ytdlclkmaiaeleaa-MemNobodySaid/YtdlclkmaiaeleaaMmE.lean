/- What the law's own small functions on words do: there, few, a step, a run, alive. -/
import Derived.Test.YtdlclkmaiaeleaaMmD
import Derived.Deep.RegionWith
namespace Go.Proofs.Ytdlclkmaiaeleaa.mm
open Go.ChangeShapes Go.WideShapes Go.ChangeAt Go.RowKit gen
set_option linter.unusedVariables false

theorem there_yes (A : Option Addr) (m c : Nat) (a n : Int) (w : World) (hm : m ≤ 4194304) (h : 0 ≤ a ∧ 0 ≤ n ∧ a + n ≤ m) :
    Calls Try.prog 16 #[.slice A m c, .int .i64 a, .int .i64 n] w fun e w' => e = .returned (.bool true) ∧ w = w' := by
  obtain ⟨h1, h2, h3⟩ := h
  have h4 : a ≤ m := by omega
  have h5 : n ≤ (m : Int) - a := by omega
  go_enter Try.func16, Try.ntmps16
  go_wp2
  go_ret
  exact ⟨rfl, rfl⟩
theorem there_no (A : Option Addr) (m c : Nat) (a n : Int) (w : World) (hm : m ≤ 4194304) (h : ¬ (0 ≤ a ∧ 0 ≤ n ∧ a + n ≤ m)) :
    Calls Try.prog 16 #[.slice A m c, .int .i64 a, .int .i64 n] w fun e w' => e = .returned (.bool false) ∧ w = w' := by
  by_cases h1 : a < 0
  · clear h
    go_enter Try.func16, Try.ntmps16
    go_wp2
    go_ret
    exact ⟨rfl, rfl⟩
  by_cases h2 : n < 0
  · clear h
    go_enter Try.func16, Try.ntmps16
    go_wp2
    go_ret
    exact ⟨rfl, rfl⟩
  by_cases h4 : (m : Int) < a
  · clear h
    go_enter Try.func16, Try.ntmps16
    go_wp2
    go_ret
    exact ⟨rfl, rfl⟩
  have h5 : decide (n ≤ (m : Int) - a) = false := decide_eq_false (by omega)
  clear h
  go_enter Try.func16, Try.ntmps16
  go_wp2
  go_ret
  exact ⟨rfl, rfl⟩
theorem few_any (A : Option Addr) (n c : Nat) (w : World) (hn : n ≤ c) (hc : c ≤ maxLen) (hA : 0 < n → ∃ ad, A = some ad) :
    Calls Try.prog 13 #[.slice A n c] w fun e w' => (∃ m c', m ≤ 50 ∧ m ≤ n ∧ e = .returned (.slice A m c')) ∧ w = w' := by
  unfold maxLen at hc
  by_cases h : 50 < n
  · obtain ⟨ad, rfl⟩ := hA (by omega)
    clear hA
    have l1 : (50 : Int) ≤ c := by omega
    go_enter Try.func13, Try.ntmps13
    go_wp2
    all_goals
      go_ret
      exact ⟨⟨50, _, by omega, by omega, rfl⟩, rfl⟩
  · clear hA
    go_enter Try.func13, Try.ntmps13
    go_wp2
    go_ret
    exact ⟨⟨n, _, by omega, by omega, rfl⟩, rfl⟩

/-! ### alive -/
theorem Store_at {g r : Nat} {xs ys : List Int} {w : World} (h : MemAt w g r xs) (a : Nat) (v : Int) (hyes : a < xs.length) (hy : xs.set a v = ys) :
    Calls Try.prog 15 #[.pointer (some ⟨g, 0, none⟩), .int .i64 a, .int .i64 v] w fun e w' => e = .returned (.bool true) ∧ MemAt w' g r ys ∧ w.grownBy w' (some r) := by
  subst hy
  exact Store_yes h a v hyes
theorem al_s0 {g r : Nat} {w : World} (h : MemAt w g r (List.replicate 5 0)) : Calls Try.prog 15 #[.pointer (some ⟨g, 0, none⟩), .int .i64 0, .int .i64 7] w fun e w' => e = .returned (.bool true) ∧ MemAt w' g r [7, 0, 0, 0, 0] ∧ w.grownBy w' (some r) := Store_at h 0 7 (by decide) rfl
theorem al_s1 {g r : Nat} {w : World} (h : MemAt w g r [7, 0, 0, 0, 0]) : Calls Try.prog 15 #[.pointer (some ⟨g, 0, none⟩), .int .i64 1, .int .i64 8] w fun e w' => e = .returned (.bool true) ∧ MemAt w' g r [7, 8, 0, 0, 0] ∧ w.grownBy w' (some r) := Store_at h 1 8 (by decide) rfl
theorem al_mv {g r : Nat} {w : World} (h : MemAt w g r [7, 8, 0, 0, 0]) : Calls Try.prog 17 #[.pointer (some ⟨g, 0, none⟩), .int .i64 1, .int .i64 0, .int .i64 3] w fun e w' => e = .returned (.bool true) ∧ MemAt w' g r [7, 7, 8, 0, 0] ∧ w.grownBy w' (some r) := Move_yes h 1 0 3 (by decide) (by decide)
theorem al_ld {g r : Nat} {w : World} (h : MemAt w g r [7, 7, 8, 0, 0]) : Calls Try.prog 18 #[.pointer (some ⟨g, 0, none⟩), .int .i64 2] w fun e w' => e = .returned (.tuple #[.int .i64 8, .bool true]) ∧ w = w' := Load_yes h 2 (by decide)
theorem al_ln {g r : Nat} {w : World} (h : MemAt w g r [7, 7, 8, 0, 0]) : Calls Try.prog 20 #[.pointer (some ⟨g, 0, none⟩)] w fun e w' => e = .returned (.int .i64 5) ∧ w = w' := Len_yes h
theorem alive_any (w : World) : Calls Try.prog 7 #[] w fun e w' => e = .returned (.bool true) ∧ w.grownBy w' none := by
  have nw := New_any 5 5 (by decide) w
  have NW := Lib.hid nw
  clear nw
  go_enter Try.func7, Try.ntmps7
  go_wp2_with (first
    | (go_at_call 8; (with_reducible refine NW.out.mono ?_); rintro e w1 ⟨g, r, rfl, hm, hg, hr, hw⟩; have M1 := Lib.hid hm; have G1 := Lib.hid hw; clear hm hw)
    | (go_at_call 15; (with_reducible refine (al_s0 M1.out).mono ?_); rintro e w2 ⟨rfl, hm, hw⟩; have M2 := Lib.hid hm; have G2 := Lib.hid (grown_new G1.out hw hr); clear hm hw)
    | (go_at_call 15; (with_reducible refine (al_s1 M2.out).mono ?_); rintro e w3 ⟨rfl, hm, hw⟩; have M3 := Lib.hid hm; have G3 := Lib.hid (grown_new G2.out hw hr); clear hm hw)
    | (go_at_call 17; (with_reducible refine (al_mv M3.out).mono ?_); rintro e w4 ⟨rfl, hm, hw⟩; have M4 := Lib.hid hm; have G4 := Lib.hid (grown_new G3.out hw hr); clear hm hw)
    | (go_at_call 18; (with_reducible refine (al_ld M4.out).mono ?_); rintro e w' ⟨rfl, rfl⟩)
    | (go_at_call 20; (with_reducible refine (al_ln M4.out).mono ?_); rintro e w' ⟨rfl, rfl⟩))
  go_ret
  exact ⟨rfl, G4.out⟩
end Go.Proofs.Ytdlclkmaiaeleaa.mm
