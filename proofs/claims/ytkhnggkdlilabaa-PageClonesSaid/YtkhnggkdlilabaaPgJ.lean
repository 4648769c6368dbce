/- What a step and a run of the law's own script on a table do; alive. -/
import Derived.Test.YtkhnggkdlilabaaPgI
namespace Go.Proofs.Ytkhnggkdlilabaa.pg
open Go.ChangeShapes Go.WideShapes Go.ChangeAt Go.RowKit gen calls cls li
set_option linter.unusedVariables false
theorem step_any {g r : Nat} {xs : List Int} {w : World} {A : Option Addr} {c m : Nat} (h : Tab w g r xs) (hx : Ks xs) (hm : xs.length = m) (hl : Lst w r (.slice A m c) xs) (k z : Int) (hz : fits z = true) :
    Calls Try.prog 22 #[.pointer (some ⟨g, 0, none⟩), .slice A m c, .agg #[.int .i64 k, .int .i64 z]] w (StepAns g r m (.slice A m c) w) := by
  by_cases h1 : k = 1
  · subst h1
    by_cases hk : 1 ≤ z ∧ z ≤ 4
    · cases hf : find 1 0 xs with
      | none => exact step_take_none h hx hm hl z hk hf
      | some p => exact step_take_some h hx hm hl z hk hf
    · exact step_take_no h hx hm hl z hz hk
  by_cases h2 : k = 2
  · subst h2
    by_cases hn : z < 1
    · exact step_span_no h hx hm hl z (by unfold fnd; rw [if_pos hn]) (fun W hg => (Span_below W hn).mono fun e w' ⟨e1, e2⟩ => ⟨e1, by subst e2; exact grown_refl _ _⟩)
    · have h1 : 1 ≤ z := by omega
      obtain ⟨y, rfl⟩ : ∃ y : Nat, z = y := ⟨z.toNat, by omega⟩
      cases hf : find y 0 xs with
      | none => exact step_span_no h hx hm hl y (fnd_none h1 hf) (fun W hg => Span_none h1 (lowest_none (h.kept hg (by simp) (by simp)) h1 hf))
      | some p => exact step_span_some h hx hm hl y p (by omega) hf
  by_cases h3 : k = 3
  · subst h3
    exact step_free h hx hm hl z hz
  exact step_told h hx hm hl k z (by simpa using h1) (by simpa using h2) (by simpa using h3)

/-- What a run answers. -/
def RunAns (g r m : Nat) (v0 : Value) (w : World) (e : Ending) (w' : World) : Prop :=
  ∃ A c ys, e = .returned (.tuple #[.slice A m c, .bool true]) ∧ ys.length = m ∧ Ks ys ∧ Tab w' g r ys ∧ Lst w' r (.slice A m c) ys ∧ w.grownBy w' (some r) ∧ From w v0 (.slice A m c)
set_option maxRecDepth 100000 in
set_option maxHeartbeats 4000000 in
theorem run_any {g r : Nat} {xs : List Int} {w : World} {A : Option Addr} {c m n c2 B : Nat} {D : Option Addr} {f : Nat → Nat → Int} (h : Tab w g r xs) (hx : Ks xs) (hm : xs.length = m) (hl : Lst w r (.slice A m c) xs) (ho : Rws w B D n 2 f) (hB : B ≤ r) (hn : n ≤ 50) :
    Calls Try.prog 7 #[.pointer (some ⟨g, 0, none⟩), .slice A m c, .slice D n c2] w (RunAns g r m (.slice A m c) w) := by
  have hs : m ≤ 64 := by have := h.le; omega
  have H := Lib.hid h
  have HX := Lib.hid hx
  have HM := Lib.hid hm
  have HL := Lib.hid hl
  have HO := Lib.hid ho
  have HB := Lib.hid hB
  clear h hx hm hl ho hB
  go_enter Try.func7, Try.ntmps7
  go_wp2
  go_loopw [1, 8, 9] (fun v o i wr => ∃ (k : Nat) (A' : Option Addr) (c' : Nat) (ys : List Int), k ≤ n ∧ i = .int .i64 k ∧ o = .bool true ∧ v = .slice A' m c' ∧ ys.length = m ∧ Ks ys ∧ Tab wr g r ys ∧ Lst wr r (.slice A' m c') ys ∧ w.grownBy wr (some r) ∧ From w (.slice A m c) (.slice A' m c')) (fun _ _ i _ => n - (intOf i).toNat)
  case atStart => exact ⟨0, A, c, xs, Nat.zero_le _, rfl, rfl, rfl, HM.out, HX.out, H.out, HL.out, grown_refl _ _, From.same _ _⟩
  case round =>
    obtain ⟨k, A1, c1, ys, hk, rfl, rfl, rfl, hy, hks, hm, hl, hg, hfr⟩ := hrel
    have FR := Lib.hid hfr
    have HY := Lib.hid hy
    have K1 := Lib.hid hks
    have M1 := Lib.hid hm
    have L1 := Lib.hid hl
    have G1 := Lib.hid hg
    have O1 := Lib.hid (HO.out.kept hg (fun q e => by cases e; exact HB.out))
    clear hy hks hm hl hg hfr HL H HO HX
    by_cases hlt : k < n
    · obtain ⟨b, off, rfl, hb, hc, hw⟩ := O1.out k hlt
      have d0 := hc 0 (by omega)
      rw [Nat.add_zero] at d0
      have d1 := hc 1 (by omega)
      have W1 := Lib.hid (fits_iff.mpr (hw 1 (by omega)))
      generalize f k 0 = x0 at d0
      generalize f k 1 = x1 at d1 W1
      clear hc hw O1
      go_wp2_with (first
        | (go_at_call 22; (with_reducible refine (step_any M1.out K1.out HY.out L1.out x0 x1 W1.out).mono ?_); rintro e w2 ⟨A2, e2, zs, rfl, hz2, hk2, hm2, hl2, hg2, hf2⟩; have F2 := Lib.hid (FR.out.then hf2 G1.out.size); have HZ := Lib.hid hz2; have K2 := Lib.hid hk2; have M2 := Lib.hid hm2; have L2 := Lib.hid hl2; have G2 := Lib.hid (G1.out.trans hg2); clear hz2 hk2 hm2 hl2 hg2 hf2)
        | (go_at_call 14; (with_reducible refine (All_any M2.out).mono ?_); rintro e w3 ⟨A3, e3, rfl, ho3, hg3⟩; have R3 := Lib.hid (rd_own ho3); have M3 := Lib.hid (M2.out.kept hg3 (by simp) (by simp)); have L3 := Lib.hid (L2.out.made hg3); have G3 := Lib.hid (grown_more G2.out hg3); clear ho3 hg3)
        | (go_at_call 18; (with_reducible refine (Ints_true zs _ _ _ _ _ _ _ _ _ (by rw [HZ.out]; omega) HZ.out R3.out (L3.out.rd' HZ.out)).mono ?_); rintro e w4 ⟨rfl, q, rfl⟩; have M4 := Lib.hid (M3.out.drewN q); have L4 := Lib.hid (L3.out.drewN q); have G4 := Lib.hid (grown_more G3.out (grown_drewN _ q _)))
        | (go_at_call 20; (with_reducible refine (Count_any M4.out).mono ?_); rintro e w5 ⟨rfl, hg5⟩; have M5 := Lib.hid (M4.out.kept hg5 (by simp) (by simp)); have L5 := Lib.hid (L4.out.made hg5); have G5 := Lib.hid (grown_more G4.out hg5); clear hg5)
        | (go_at_call 23; (with_reducible refine (rCount_any hs (L5.out.rd' HZ.out)).mono ?_); rintro e w' ⟨rfl, rfl⟩)
        | (go_at_call 21; (with_reducible refine (Longest_any M5.out).mono ?_); rintro e w6 ⟨rfl, hg6⟩; have M6 := Lib.hid (M5.out.kept hg6 (by simp) (by simp)); have L6 := Lib.hid (L5.out.made hg6); have G6 := Lib.hid (grown_more G5.out hg6); clear hg6)
        | (go_at_call 24; (with_reducible refine (rLongest_any hs (L6.out.rd' HZ.out)).mono ?_); rintro e w' ⟨rfl, rfl⟩))
      go_roundw
      case rel => exact ⟨k + 1, A2, e2, zs, by omega, by go_num, rfl, rfl, HZ.out, K2.out, M6.out, L6.out, G6.out, F2.out⟩
      case measure => simp [intOf]; omega
    · go_wp2
      go_ret2
      exact ⟨_, _, _, rfl, HY.out, K1.out, M1.out, L1.out, G1.out, FR.out⟩

/-! ### alive -/
section
variable {g r : Nat} {w : World}
theorem al_t (h : Tab w g r (List.replicate 4 0)) : Calls Try.prog 11 #[.pointer (some ⟨g, 0, none⟩), .int .i64 2] w fun e w' => e = .returned (.tuple #[.int .i64 0, .bool true]) ∧ Tab w' g r [2, 0, 0, 0] ∧ w.grownBy w' (some r) := Take_some h (by omega) (p := 0) (by decide)
theorem al_s (h : Tab w g r [2, 0, 0, 0]) : Calls Try.prog 12 #[.pointer (some ⟨g, 0, none⟩), .int .i64 2] w fun e w' => e = .returned (.tuple #[.int .i64 1, .bool true]) ∧ Tab w' g r [2, 5, 6, 0] ∧ w.grownBy w' (some r) := Span_some h (n := 2) (by omega) (p := 1) (by decide)
theorem ks4 {a b c d : Int} (h : (0 ≤ a ∧ a ≤ 6) ∧ (0 ≤ b ∧ b ≤ 6) ∧ (0 ≤ c ∧ c ≤ 6) ∧ (0 ≤ d ∧ d ≤ 6)) : Ks [a, b, c, d] := fun i => by
  match i with
  | 0 => exact h.1
  | 1 => exact h.2.1
  | 2 => exact h.2.2.1
  | 3 => exact h.2.2.2
  | i + 4 => exact ⟨by simp, by simp⟩
theorem al_f (h : Tab w g r [2, 5, 6, 0]) : Calls Try.prog 13 #[.pointer (some ⟨g, 0, none⟩), .int .i64 0] w fun e w' => e = .returned (.int .i64 1) ∧ Tab w' g r [0, 5, 6, 0] ∧ w.grownBy w' (some r) := Free_any h (ks4 (by omega)) 0
theorem al_n (h : Tab w g r [0, 5, 6, 0]) : Calls Try.prog 12 #[.pointer (some ⟨g, 0, none⟩), .int .i64 2] w fun e w' => e = .returned (.tuple #[.int .i64 0, .bool false]) ∧ w.grownBy w' none := Span_none (by omega) (lowest_none h (by omega) (by decide))
theorem al_k (h : Tab w g r [0, 5, 6, 0]) : Calls Try.prog 19 #[.pointer (some ⟨g, 0, none⟩), .int .i64 2] w fun e w' => e = .returned (.int .i64 6) ∧ w = w' := Kind_any h 2
theorem al_1 (h : Tab w g r [0, 5, 6, 0]) : Calls Try.prog 15 #[.pointer (some ⟨g, 0, none⟩), .int .i64 2] w fun e w' => e = .returned (.int .i64 1) ∧ w = w' := by
  have := First_any h (ks4 (by omega)) 2
  rwa [show frs [0, 5, 6, 0] 2 = 1 by decide] at this
theorem al_z (h : Tab w g r [0, 5, 6, 0]) : Calls Try.prog 16 #[.pointer (some ⟨g, 0, none⟩), .int .i64 1] w fun e w' => e = .returned (.int .i64 2) ∧ w = w' := Size_any h (ks4 (by omega)) 1
theorem al_c (h : Tab w g r [0, 5, 6, 0]) : Calls Try.prog 20 #[.pointer (some ⟨g, 0, none⟩)] w fun e w' => e = .returned (.int .i64 2) ∧ w.grownBy w' none := Count_any h
theorem al_l (h : Tab w g r [0, 5, 6, 0]) : Calls Try.prog 21 #[.pointer (some ⟨g, 0, none⟩)] w fun e w' => e = .returned (.int .i64 1) ∧ w.grownBy w' none := Longest_any h
end
set_option maxRecDepth 100000 in
set_option maxHeartbeats 4000000 in
theorem alive_any (w : World) : Calls Try.prog 6 #[] w fun e w' => e = .returned (.bool true) ∧ w.grownBy w' none := by
  have NW := Lib.hid (New_any 4 4 (by decide) w)
  go_enter Try.func6, Try.ntmps6
  go_wp2_with (first
    | (go_at_call 8; (with_reducible refine NW.out.mono ?_); rintro e w1 ⟨g, r, rfl, hm, hg, hr, hw⟩; have M1 := Lib.hid hm; have G1 := Lib.hid hw; clear hm hw)
    | (go_at_call 11; (with_reducible refine (al_t M1.out).mono ?_); rintro e w2 ⟨rfl, hm, hw⟩; have M2 := Lib.hid hm; have G2 := Lib.hid (grown_new G1.out hw hr); clear hm hw)
    | (have mark := M4; go_at_call 12; (with_reducible refine (al_n M4.out).mono ?_); rintro e w5 ⟨rfl, hw⟩; have M5 := Lib.hid (M4.out.kept hw (by simp) (by simp)); have G5 := Lib.hid (G4.out.trans hw); clear hw)
    | (go_at_call 12; (with_reducible refine (al_s M2.out).mono ?_); rintro e w3 ⟨rfl, hm, hw⟩; have M3 := Lib.hid hm; have G3 := Lib.hid (grown_new G2.out hw hr); clear hm hw)
    | (go_at_call 13; (with_reducible refine (al_f M3.out).mono ?_); rintro e w4 ⟨rfl, hm, hw⟩; have M4 := Lib.hid hm; have G4 := Lib.hid (grown_new G3.out hw hr); clear hm hw)
    | (go_at_call 19; (with_reducible refine (al_k M5.out).mono ?_); rintro e w' ⟨rfl, rfl⟩)
    | (go_at_call 15; (with_reducible refine (al_1 M5.out).mono ?_); rintro e w' ⟨rfl, rfl⟩)
    | (go_at_call 16; (with_reducible refine (al_z M5.out).mono ?_); rintro e w' ⟨rfl, rfl⟩)
    | (go_at_call 20; (with_reducible refine (al_c M5.out).mono ?_); rintro e w6 ⟨rfl, hw⟩; have M6 := Lib.hid (M5.out.kept hw (by simp) (by simp)); have G6 := Lib.hid (G5.out.trans hw); clear hw)
    | (go_at_call 21; (with_reducible refine (al_l M6.out).mono ?_); rintro e w7 ⟨rfl, hw⟩; have G7 := Lib.hid (G6.out.trans hw); clear hw))
  go_ret
  exact ⟨rfl, G7.out⟩
end Go.Proofs.Ytkhnggkdlilabaa.pg
