/- A bank's Balance, In, Out, Lost, Put, Take, Spend, Clone, New. -/
import Derived.Test.YtamfbpoaohmkaaaBnA
namespace Go.Proofs.Ytamfbpoaohmkaaa.bn
open Go.ChangeShapes Go.WideShapes Go.ChangeAt Go.RowKit gen li gr
set_option linter.unusedVariables false
set_option maxHeartbeats 2000000
set_option maxRecDepth 100000
section
variable {w w' : World} {g : Nat} {i o l r h N : Int} {m : Bool}
theorem Bo.to {i' o' l' : Int} (k : Bo w g i o l r m) (h1 : i = i') (h2 : o = o') (h3 : l = l') : Bo w g i' o' l' r m := by subst h1 h2 h3; exact k
theorem Nu.to {h' i' o' l' : Int} (k : Nu N h i o l r) (h0 : h = h') (h1 : i = i') (h2 : o = o') (h3 : l = l') : Nu N h' i' o' l' r := by subst h0 h1 h2 h3; exact k
/-! ### What is told -/
theorem Balance_any (k : Bo w g i o l r m) (he : i - o = h) (h0 : 0 ≤ h) (h1 : h ≤ 65535) : Calls Try.prog 14 #[.pointer (some ⟨g, 0, none⟩)] w fun e w' => e = .returned (.int .i64 h) ∧ w.grownBy w' none := by
  have LE := Lib.hid (left_any k he h0 h1)
  clear k he h0 h1
  go_enter Try.func14, Try.ntmps14
  go_wp2_with (first
    | (go_at_call 22; (with_reducible refine (there_any g _).mono ?_); rintro e w' ⟨rfl, hw⟩; subst hw)
    | (go_at_call 23; (with_reducible refine LE.out.mono ?_); rintro e w' ⟨rfl, hg⟩; have G := Lib.hid hg; clear hg))
  go_ret
  exact ⟨rfl, G.out⟩
theorem Balance_nil (w : World) : Calls Try.prog 14 #[.pointer none] w fun e w' => e = .returned (.int .i64 0) ∧ w.grownBy w' none := by
  go_enter Try.func14, Try.ntmps14
  go_wp2_with (first
    | (go_at_call 22; (with_reducible refine (there_nil _).mono ?_); rintro e w1 ⟨B, rfl, hb, hg⟩; have G1 := Lib.hid hg; have LE := Lib.hid (left_any (h := 0) hb (by omega) (by omega) (by omega)); clear hb hg)
    | (go_at_call 23; (with_reducible refine LE.out.mono ?_); rintro e w' ⟨rfl, hg⟩; have G := Lib.hid (G1.out.trans hg); clear hg))
  go_ret
  exact ⟨rfl, G.out⟩
theorem In_any (k : Bo w g i o l r m) : Calls Try.prog 15 #[.pointer (some ⟨g, 0, none⟩)] w fun e w' => e = .returned (.int .i64 i) ∧ w = w' := by
  have c0 := k.c0
  clear k
  go_enter Try.func15, Try.ntmps15
  go_wp2_with (go_at_call 22; (with_reducible refine (there_any g _).mono ?_); rintro e w' ⟨rfl, hw⟩; subst hw)
  go_ret
  exact ⟨rfl, rfl⟩
theorem Out_any (k : Bo w g i o l r m) : Calls Try.prog 16 #[.pointer (some ⟨g, 0, none⟩)] w fun e w' => e = .returned (.int .i64 o) ∧ w = w' := by
  have c0 := k.c1
  clear k
  go_enter Try.func16, Try.ntmps16
  go_wp2_with (go_at_call 22; (with_reducible refine (there_any g _).mono ?_); rintro e w' ⟨rfl, hw⟩; subst hw)
  go_ret
  exact ⟨rfl, rfl⟩
theorem Lost_any (k : Bo w g i o l r m) : Calls Try.prog 17 #[.pointer (some ⟨g, 0, none⟩)] w fun e w' => e = .returned (.int .i64 l) ∧ w = w' := by
  have c0 := k.c2
  clear k
  go_enter Try.func17, Try.ntmps17
  go_wp2_with (go_at_call 22; (with_reducible refine (there_any g _).mono ?_); rintro e w' ⟨rfl, hw⟩; subst hw)
  go_ret
  exact ⟨rfl, rfl⟩
theorem In_nil (w : World) : Calls Try.prog 15 #[.pointer none] w fun e w' => e = .returned (.int .i64 0) ∧ w.grownBy w' none := by
  go_enter Try.func15, Try.ntmps15
  go_wp2_with (go_at_call 22; (with_reducible refine (there_nil _).mono ?_); rintro e w1 ⟨B, rfl, hb, hg⟩; have G1 := Lib.hid hg; have c0 := hb.c0; clear hb hg)
  go_ret
  exact ⟨rfl, G1.out⟩
theorem Out_nil (w : World) : Calls Try.prog 16 #[.pointer none] w fun e w' => e = .returned (.int .i64 0) ∧ w.grownBy w' none := by
  go_enter Try.func16, Try.ntmps16
  go_wp2_with (go_at_call 22; (with_reducible refine (there_nil _).mono ?_); rintro e w1 ⟨B, rfl, hb, hg⟩; have G1 := Lib.hid hg; have c0 := hb.c1; clear hb hg)
  go_ret
  exact ⟨rfl, G1.out⟩
theorem Lost_nil (w : World) : Calls Try.prog 17 #[.pointer none] w fun e w' => e = .returned (.int .i64 0) ∧ w.grownBy w' none := by
  go_enter Try.func17, Try.ntmps17
  go_wp2_with (go_at_call 22; (with_reducible refine (there_nil _).mono ?_); rintro e w1 ⟨B, rfl, hb, hg⟩; have G1 := Lib.hid hg; have c0 := hb.c2; clear hb hg)
  go_ret
  exact ⟨rfl, G1.out⟩
/-! ### Put -/
theorem Put_odd (k : Bo w g i o l r false) (n : Int) : Calls Try.prog 11 #[.pointer (some ⟨g, 0, none⟩), .int .i64 n] w fun e w' => e = .returned (.int .i64 0) ∧ w = w' := by
  have c4 := k.c4
  clear k
  go_enter Try.func11, Try.ntmps11
  go_wp2_with (go_at_call 22; (with_reducible refine (there_any g _).mono ?_); rintro e w' ⟨rfl, hw⟩; subst hw)
  go_ret
  exact ⟨rfl, rfl⟩
theorem Put_nil (n : Int) (w : World) : Calls Try.prog 11 #[.pointer none, .int .i64 n] w fun e w' => e = .returned (.int .i64 0) ∧ w.grownBy w' none := by
  go_enter Try.func11, Try.ntmps11
  go_wp2_with (go_at_call 22; (with_reducible refine (there_nil _).mono ?_); rintro e w1 ⟨B, rfl, hb, hg⟩; have G1 := Lib.hid hg; have c4 := hb.c4; clear hb hg)
  go_ret
  exact ⟨rfl, G1.out⟩
/-- How many of n are kept, where h are there, and r may be. -/
def kept (n h r : Int) : Int := min (near n 0 2147483648) (r - h)
theorem Put_any (k : Bk w g N h i o l r) (hN : N ≤ 2305843009213693952) (n : Int) : Calls Try.prog 11 #[.pointer (some ⟨g, 0, none⟩), .int .i64 n] w fun e w' =>
    e = .returned (.int .i64 (kept n h r)) ∧ Bk w' g (N + 2147483648) (h + kept n h r) (i + kept n h r) o (l + (near n 0 2147483648 - kept n h r)) r ∧ w.grownBy w' (some g) := by
  obtain ⟨e1, o0, h0, hr, r1, l0, il⟩ := k.nu
  have LE := Lib.hid (fun W (hg : w.grownBy W none) => (left_any (k.bo.new hg) e1 h0 (by omega)).mono (fun e w' q => (⟨q.1, hg.trans q.2⟩ : e = .returned (.int .i64 h) ∧ w.grownBy w' none)))
  have CL := Lib.hid (Clamp_any n 0 2147483648 w)
  have n0 := near_lo (n := n) (a := 0) (b := 2147483648) (by omega)
  have n1 := near_hi (n := n) (a := 0) (b := 2147483648) (by omega)
  unfold kept
  generalize near n 0 2147483648 = c at CL n0 n1 ⊢
  have c3 := k.bo.c3
  have c4 := k.bo.c4
  have BK := Lib.hid (fun W (hg : w.grownBy W none) => k.bo.new hg)
  obtain ⟨x, hx⟩ : ∃ x, x = r - h := ⟨_, rfl⟩
  rw [← hx]
  have x0 : 0 ≤ x := by omega
  have x1 : x ≤ 65535 := by omega
  have ex : IntKind.i64.wrap (r - h) = x := by rw [IntKind.wrap_i64]; omega
  obtain ⟨q, hq, hc⟩ : ∃ q, min c x = q ∧ ((c < x ∧ q = c) ∨ (c = x ∧ q = c) ∨ (x < c ∧ q = x)) := ⟨_, rfl, by omega⟩
  rw [hq]
  clear hq
  have q0 : 0 ≤ q := by omega
  have qc : q ≤ c := by omega
  have qx : q ≤ x := by omega
  have NU := Lib.hid (show Nu (N + 2147483648) (h + q) (i + q) o (l + (c - q)) r from ⟨by omega, o0, by omega, by omega, r1, by omega, by omega⟩)
  have ei : IntKind.i64.wrap (i + q) = i + q := by rw [IntKind.wrap_i64]; omega
  have ec : IntKind.i64.wrap (c - q) = c - q := by rw [IntKind.wrap_i64]; omega
  have el : IntKind.i64.wrap (l + (c - q)) = l + (c - q) := by rw [IntKind.wrap_i64]; omega
  have LB := Lib.hid (show 0 ≤ l ∧ l ≤ 4611686018427387904 ∧ 0 ≤ i ∧ i ≤ 4611686018427387904 ∧ 0 ≤ c - q ∧ c - q ≤ 2147483648 ∧ 0 ≤ q ∧ q ≤ 65535 from by omega)
  clear k e1 o0 h0 hr r1 l0 il hN hx
  rcases hc with ⟨hc, rfl⟩ | ⟨rfl, rfl⟩ | ⟨hc, rfl⟩
  all_goals
    go_enter Try.func11, Try.ntmps11
    go_wp2_with (first
      | (go_at_call 22; (with_reducible refine (there_any g _).mono ?_); rintro e w' ⟨rfl, hw⟩; subst hw)
      | (go_at_call 21; (with_reducible refine CL.out.mono ?_); rintro e w' ⟨rfl, hw⟩; subst hw))
    go_region_held3 (fun W => W.cell? ⟨g, 3, none⟩ = some (.int .i64 r)) (first | exact c3 | exact f3 | go_keep) (first
      | (go_at_call 23; (with_reducible refine (LE.out _ (by first | exact World.grownBy.refl _ _ | exact grown_drew _ _ | exact li.grown_drewN _ _ _)).mono ?_); rintro e w2 ⟨rfl, hg⟩; have G2 := Lib.hid hg; have B2 := Lib.hid (BK.out _ hg); have f3 := B2.out.c3; have b0 := B2.out.c0; have b2 := B2.out.c2; have z0 := B2.out.free 0; have z2 := B2.out.free 2; have lt2 := B2.out.lt; clear hg))
    go_wp2
    go_ret
    exact ⟨rfl, ⟨((B2.out.set0 _).set2 _).to (by have := LB.out; first | rfl | omega | (unfold wrap64; omega)) rfl (by have := LB.out; first | rfl | omega | (unfold wrap64; omega)), NU.out.to (by omega) (by omega) rfl (by omega)⟩, li.grown_then G2.out ((grown_set _ _ _ _).trans (grown_set _ _ _ _))⟩
/-! ### Take -/
theorem Take_odd (k : Bo w g i o l r false) (n : Int) : Calls Try.prog 12 #[.pointer (some ⟨g, 0, none⟩), .int .i64 n] w fun e w' => e = .returned (.bool false) ∧ w = w' := by
  have c4 := k.c4
  clear k
  go_enter Try.func12, Try.ntmps12
  go_wp2_with (go_at_call 22; (with_reducible refine (there_any g _).mono ?_); rintro e w' ⟨rfl, hw⟩; subst hw)
  go_ret
  exact ⟨rfl, rfl⟩
theorem Take_nil (n : Int) (w : World) : Calls Try.prog 12 #[.pointer none, .int .i64 n] w fun e w' => e = .returned (.bool false) ∧ w.grownBy w' none := by
  go_enter Try.func12, Try.ntmps12
  go_wp2_with (go_at_call 22; (with_reducible refine (there_nil _).mono ?_); rintro e w1 ⟨B, rfl, hb, hg⟩; have G1 := Lib.hid hg; have c4 := hb.c4; clear hb hg)
  go_ret
  exact ⟨rfl, G1.out⟩
theorem Take_no (k : Bk w g N h i o l r) (n : Int) (hn : n < 0 ∨ h < n) : Calls Try.prog 12 #[.pointer (some ⟨g, 0, none⟩), .int .i64 n] w fun e w' => e = .returned (.bool false) ∧ w.grownBy w' none := by
  obtain ⟨e1, o0, h0, hr, r1, l0, il⟩ := k.nu
  have LE := Lib.hid (left_any k.bo e1 h0 (by omega))
  have c4 := k.bo.c4
  clear k e1 o0 hr r1 l0 il
  rcases Int.lt_or_le n 0 with h1 | h1
  · have d1 : decide (n < 0) = true := decide_eq_true h1
    go_enter Try.func12, Try.ntmps12
    go_wp2_with (go_at_call 22; (with_reducible refine (there_any g _).mono ?_); rintro e w' ⟨rfl, hw⟩; subst hw)
    go_ret
    exact ⟨rfl, World.grownBy.refl _ _⟩
  · have d1 : decide (n < 0) = false := decide_eq_false (by omega)
    have d2 : decide (h < n) = true := decide_eq_true (by omega)
    go_enter Try.func12, Try.ntmps12
    go_wp2_with (first
      | (go_at_call 22; (with_reducible refine (there_any g _).mono ?_); rintro e w' ⟨rfl, hw⟩; subst hw)
      | (go_at_call 23; (with_reducible refine LE.out.mono ?_); rintro e w' ⟨rfl, hg⟩; have G := Lib.hid hg; clear hg))
    go_ret
    exact ⟨rfl, G.out⟩
theorem Take_yes (k : Bk w g N h i o l r) (hN : N ≤ 4611686018427387904) (n : Int) (n0 : 0 ≤ n) (n1 : n ≤ h) : Calls Try.prog 12 #[.pointer (some ⟨g, 0, none⟩), .int .i64 n] w fun e w' =>
    e = .returned (.bool true) ∧ Bk w' g N (h - n) i (o + n) l r ∧ w.grownBy w' (some g) := by
  obtain ⟨e1, o0, h0, hr, r1, l0, il⟩ := k.nu
  have LE := Lib.hid (left_any k.bo e1 h0 (by omega))
  have c4 := k.bo.c4
  have BK := Lib.hid (fun W (hg : w.grownBy W none) => k.bo.new hg)
  have NU := Lib.hid (show Nu N (h - n) i (o + n) l r from ⟨by omega, by omega, by omega, by omega, r1, l0, il⟩)
  have eo : IntKind.i64.wrap (o + n) = o + n := by rw [IntKind.wrap_i64]; omega
  have d1 : decide (n < 0) = false := decide_eq_false (by omega)
  have d2 : decide (h < n) = false := decide_eq_false (by omega)
  clear k hr r1 l0 
  go_enter Try.func12, Try.ntmps12
  go_wp2_with (first
    | (go_at_call 22; (with_reducible refine (there_any g _).mono ?_); rintro e w' ⟨rfl, hw⟩; subst hw)
    | (go_at_call 23; (with_reducible refine LE.out.mono ?_); rintro e w2 ⟨rfl, hg⟩; have G2 := Lib.hid hg; have B2 := Lib.hid (BK.out _ hg); have b1 := B2.out.c1; have z1 := B2.out.free 1; have lt2 := B2.out.lt; clear hg))
  go_ret
  exact ⟨rfl, ⟨B2.out.set1 _, NU.out⟩, li.grown_then G2.out (grown_set _ _ _ _)⟩
/-! ### Spend -/
theorem near_zero (n : Int) : near n 0 0 = 0 := by unfold near; (repeat' split) <;> omega
theorem Spend_odd (k : Bo w g 0 0 0 0 false) (n : Int) : Calls Try.prog 13 #[.pointer (some ⟨g, 0, none⟩), .int .i64 n] w fun e w' => e = .returned (.int .i64 0) ∧ w.grownBy w' none := by
  have BA := Lib.hid (Balance_any (h := 0) k (by omega) (by omega) (by omega))
  have CL := Lib.hid (fun W => Clamp_any n 0 0 W)
  rw [near_zero] at CL
  have TA := Lib.hid (fun W (hg : w.grownBy W none) => (Take_odd (k.new hg) 0).mono (fun e w' q => (⟨q.1, q.2 ▸ hg⟩ : e = .returned (.bool false) ∧ w.grownBy w' none)))
  clear k
  go_enter Try.func13, Try.ntmps13
  go_wp2_with (first
    | (go_at_call 14; (with_reducible refine BA.out.mono ?_); rintro e w1 ⟨rfl, hg⟩; have G1 := Lib.hid hg; clear hg)
    | (go_at_call 21; (with_reducible refine (CL.out _).mono ?_); rintro e w' ⟨rfl, hw⟩; subst hw)
    | (go_at_call 12; (with_reducible refine (TA.out _ G1.out).mono ?_); rintro e w2 ⟨rfl, hg⟩; have G2 := Lib.hid hg; clear hg))
  go_ret
  exact ⟨rfl, G2.out⟩
theorem Spend_nil (n : Int) (w : World) : Calls Try.prog 13 #[.pointer none, .int .i64 n] w fun e w' => e = .returned (.int .i64 0) ∧ w.grownBy w' none := by
  have BA := Lib.hid (Balance_nil w)
  have CL := Lib.hid (fun W => Clamp_any n 0 0 W)
  rw [near_zero] at CL
  have TA := Lib.hid (fun W => Take_nil 0 W)
  go_enter Try.func13, Try.ntmps13
  go_wp2_with (first
    | (go_at_call 14; (with_reducible refine BA.out.mono ?_); rintro e w1 ⟨rfl, hg⟩; have G1 := Lib.hid hg; clear hg)
    | (go_at_call 21; (with_reducible refine (CL.out _).mono ?_); rintro e w' ⟨rfl, hw⟩; subst hw)
    | (go_at_call 12; (with_reducible refine (TA.out _).mono ?_); rintro e w2 ⟨rfl, hg⟩; have G2 := Lib.hid (G1.out.trans hg); clear hg))
  go_ret
  exact ⟨rfl, G2.out⟩
theorem Spend_any (k : Bk w g N h i o l r) (hN : N ≤ 4611686018427387904) (n : Int) : Calls Try.prog 13 #[.pointer (some ⟨g, 0, none⟩), .int .i64 n] w fun e w' =>
    e = .returned (.int .i64 (near n 0 h)) ∧ Bk w' g N (h - near n 0 h) i (o + near n 0 h) l r ∧ w.grownBy w' (some g) := by
  have BA := Lib.hid (Balance_any k.bo k.nu.e k.nu.h0 (Int.le_trans k.nu.hr k.nu.r1))
  have CL := Lib.hid (fun W => Clamp_any n 0 h W)
  have TA := Lib.hid (fun W (hg : w.grownBy W none) => (Take_yes (k.new hg) hN (near n 0 h) (near_lo k.nu.h0) (near_hi k.nu.h0)).mono (fun e w' q => (⟨q.1, q.2.1, li.grown_then hg q.2.2⟩ : e = .returned (.bool true) ∧ Bk w' g N (h - near n 0 h) i (o + near n 0 h) l r ∧ w.grownBy w' (some g))))
  clear k
  generalize near n 0 h = c at *
  go_enter Try.func13, Try.ntmps13
  go_wp2_with (first
    | (go_at_call 14; (with_reducible refine BA.out.mono ?_); rintro e w1 ⟨rfl, hg⟩; have G1 := Lib.hid hg; clear hg)
    | (go_at_call 21; (with_reducible refine (CL.out _).mono ?_); rintro e w' ⟨rfl, hw⟩; subst hw)
    | (go_at_call 12; (with_reducible refine (TA.out _ G1.out).mono ?_); rintro e w2 ⟨rfl, hk, hg⟩; have K2 := Lib.hid hk; have G2 := Lib.hid hg; clear hk hg))
  go_ret
  exact ⟨rfl, K2.out, G2.out⟩
/-! ### Clone, New -/
/-- A bank of the call's own. -/
def NewA (w : World) (N h i o l r : Int) (e : Ending) (w' : World) : Prop := ∃ g, e = .returned (.pointer (some ⟨g, 0, none⟩)) ∧ Bk w' g N h i o l r ∧ w.heap.size ≤ g ∧ w.grownBy w' none
theorem Clone_odd (k : Bo w g i o l r false) : Calls Try.prog 18 #[.pointer (some ⟨g, 0, none⟩)] w fun e w' => e = .returned (.pointer none) ∧ w = w' := by
  have c4 := k.c4
  clear k
  go_enter Try.func18, Try.ntmps18
  go_wp2_with (go_at_call 22; (with_reducible refine (there_any g _).mono ?_); rintro e w' ⟨rfl, hw⟩; subst hw)
  go_ret
  exact ⟨rfl, rfl⟩
theorem Clone_nil (w : World) : Calls Try.prog 18 #[.pointer none] w fun e w' => e = .returned (.pointer none) ∧ w.grownBy w' none := by
  go_enter Try.func18, Try.ntmps18
  go_wp2_with (go_at_call 22; (with_reducible refine (there_nil _).mono ?_); rintro e w1 ⟨B, rfl, hb, hg⟩; have G1 := Lib.hid hg; have c4 := hb.c4; clear hb hg)
  go_ret
  exact ⟨rfl, G1.out⟩
theorem Clone_any (k : Bk w g N h i o l r) : Calls Try.prog 18 #[.pointer (some ⟨g, 0, none⟩)] w (NewA w N h i o l r) := by
  have c0 := k.bo.c0
  have c1 := k.bo.c1
  have c2 := k.bo.c2
  have c3 := k.bo.c3
  have c4 := k.bo.c4
  have NU := Lib.hid k.nu
  have glt := k.lt
  clear k
  go_enter Try.func18, Try.ntmps18
  go_wp2_with (go_at_call 22; (with_reducible refine (there_any g _).mono ?_); rintro e w' ⟨rfl, hw⟩; subst hw)
  go_ret
  exact ⟨_, rfl, ⟨heap_alloc_new _ _, NU.out⟩, Nat.le_refl _, World.grownBy_alloc _ _ _⟩
theorem New_any (n : Int) (w : World) : Calls Try.prog 8 #[.int .i64 n] w (NewA w 0 0 0 0 0 (near n 0 65535)) := by
  have CL := Lib.hid (fun W => Clamp_any n 0 65535 W)
  have NU := Lib.hid (Nu.z (near n 0 65535) (near_lo (by omega)) (near_hi (by omega)))
  generalize near n 0 65535 = c at *
  go_enter Try.func8, Try.ntmps8
  go_wp2_with (go_at_call 21; (with_reducible refine (CL.out _).mono ?_); rintro e w' ⟨rfl, hw⟩; subst hw)
  go_ret
  exact ⟨_, rfl, ⟨heap_alloc_new _ _, NU.out⟩, Nat.le_refl _, World.grownBy_alloc _ _ _⟩
end
end Go.Proofs.Ytamfbpoaohmkaaa.bn
