/- Joined: PhI, PhJ, PhK, PhL, PhM. -/
import Derived.Test.YtacjleladjgkeaaGreatDoorPhY
import Derived.Test.YtacjleladjgkeaaGreatDoorSlA
/- The plain heap: Slow; Set. -/
namespace Go.Proofs.YtacjleladjgkeaaGreatDoor.ph
open Go.ChangeShapes Go.WideShapes Go.ChangeAt Go.RowKit gen calls cls geos ce bo st
set_option linter.unusedVariables false
set_option maxHeartbeats 8000000
set_option maxRecDepth 100000
section
variable {w w' w1 : World} {K K' V M X : List Nat} {H : Nat} {vk vo vo' : Value} {vs : List Value} {os os' : List Pb} {y y' : Hq} {v : Value} {e : Ending}
def two (a b : Int) : Value := .tuple #[.int .i64 a, .int .i64 b]
theorem rSlow_range (h : Ph w K V H vk vs vo os y) (t : Int) {n : Int} (hn : n < 0 ∨ 127 < n) :
    Calls Tryz.prog 29 #[.pointer (some ⟨H, 0, none⟩), .int .i64 t, .int .i64 n] w fun e w' => e = .returned (two 0 4) ∧ w.grownBy w' none := by
  have OF := Lib.hid (fun W => rOf_any n W)
  rw [of_no hn] at OF
  clear h hn
  go_enter Tryz.func29, Tryz.ntmps29
  go_wp2_with (go_at_call 61; (with_reducible refine (OF.out _).mono ?_); rintro e w2 ⟨rfl, hb⟩; have G2 := Lib.hid (pg.below_grown hb); clear hb)
  go_ret2
  exact ⟨rfl, G2.out⟩
theorem rSlow_full5 (h : Ph w K V H vk vs vo os y) (Q : Qi y) {t n N : Nat} (ht : t < y.T) (hn : 16 ≤ n ∧ n ≤ 127) (hN : pgs n = N) (hf : pg.find N 0 y.ks = none) :
    Calls Tryz.prog 29 #[.pointer (some ⟨H, 0, none⟩), .int .i64 t, .int .i64 n] w fun e w' => e = .returned (two 0 10) ∧ w.grownBy w' none := by
  have OF := Lib.hid (fun W => rOf_any n W)
  rw [(cl_ofn5 (n := n) (by omega) (by omega)).1] at OF
  have PG := Lib.hid (fun W => rPages_any n W)
  rw [hN] at PG
  have CT := Lib.hid (fun W (hg : w.grownBy W none) => (h.gr (Gr.new (L := []) hg) (by simp)).cT)
  have LG := Lib.hid (fun W (hg : w.grownBy W none) => rLarge_no (h.gr (Gr.new (L := []) hg) (by simp)).hh Q.len N (fun _ => by simpa using hf))
  obtain ⟨T, hT⟩ : ∃ T, y.T = T := ⟨_, rfl⟩
  rw [hT] at CT ht
  have t1 : decide ((t : Int) < 0) = false := by simp
  have t2 : ¬ ((T : Int) ≤ t) := by omega
  clear h Q hN hf hT hn
  go_enter Tryz.func29, Tryz.ntmps29
  go_wp2_with (first
    | (go_at_call 61; (with_reducible refine (OF.out _).mono ?_); rintro e w2 ⟨rfl, hb⟩; have G2 := Lib.hid (pg.below_grown hb); have c2 := CT.out _ G2.out; clear hb)
    | (go_at_call 63; (with_reducible refine (PG.out _).mono ?_); rintro e w3 ⟨rfl, hb⟩; have G3 := Lib.hid (G2.out.trans (pg.below_grown hb)); clear hb)
    | (go_at_call 62; (with_reducible refine (LG.out _ G3.out).mono ?_); rintro e w4 ⟨rfl, hg⟩; have G4 := Lib.hid (G3.out.trans hg); clear hg))
  go_ret2
  exact ⟨rfl, G4.out⟩
theorem rSlow_large (h : Ph w K V H vk vs vo os y) (Q : Qi y) {t n N p a : Nat} (ht : t < y.T) (hn : 16 ≤ n ∧ n ≤ 127) (hN : pgs n = N) (N1 : 1 ≤ N) (hf : pg.find N 0 y.ks = some p) (ha : a = p * 32) (hne : ∀ o ∈ y.ob, o.1 ≠ a) :
    Calls Tryz.prog 29 #[.pointer (some ⟨H, 0, none⟩), .int .i64 t, .int .i64 n] w (Pa K H (two a 0) (Hq.begun { y with ks := pg.spanN y.ks p N } a n) w) := by
  have OF := Lib.hid (fun W => rOf_any n W)
  rw [(cl_ofn5 (n := n) (by omega) (by omega)).1] at OF
  have PG := Lib.hid (fun W => rPages_any n W)
  rw [hN] at PG
  have CT := Lib.hid (fun W (hg : w.grownBy W none) => (h.gr (Gr.new (L := []) hg) (by simp)).cT)
  have HP := Lib.hid (fun W (hg : w.grownBy W none) => h.gr (Gr.new (L := []) hg) (by simp))
  have LG := Lib.hid (fun W (hg : w.grownBy W none) => rLarge_yes (h.gr (Gr.new (L := []) hg) (by simp)).hh Q.len N1 hf ha)
  have BG := Lib.hid (fun W K1 V1 vk1 vs1 (h1 : Ph W K1 V1 H vk1 vs1 vo os { y with ks := pg.spanN y.ks p N }) => rbegin_pl h1 (a := a) (n := n) (by omega) Q.cnt Q.few Q.up hne)
  obtain ⟨T, hT⟩ : ∃ T, y.T = T := ⟨_, rfl⟩
  rw [hT] at CT ht
  have t1 : decide ((t : Int) < 0) = false := by simp
  have t2 : ¬ ((T : Int) ≤ t) := by omega
  have t6 : (0 : Int) ≤ (a : Int) := by omega
  clear h Q hN hf hT hn ha hne
  go_enter Tryz.func29, Tryz.ntmps29
  go_wp2_with (first
    | (go_at_call 61; (with_reducible refine (OF.out _).mono ?_); rintro e w2 ⟨rfl, hb⟩; have G2 := Lib.hid (pg.below_grown hb); have c2 := CT.out _ G2.out; clear hb)
    | (go_at_call 63; (with_reducible refine (PG.out _).mono ?_); rintro e w3 ⟨rfl, hb⟩; have G3 := Lib.hid (G2.out.trans (pg.below_grown hb)); clear hb)
    | (go_at_call 62; (with_reducible refine (LG.out _ G3.out).mono ?_); rintro e w4 ⟨vk4, vs4, rfl, hh, hg⟩; have P4 := Lib.hid ((HP.out _ G3.out).heap hh hg); have G4 := Lib.hid ((Gr.new (L := K) G3.out).trans (hg.mono (fun q hq => by simp at hq; subst hq; exact (HP.out _ G3.out).hk))); have S4 := Lib.hid hg.size; clear hh hg)
    | (go_at_call 64; (with_reducible refine (BG.out _ _ _ _ _ P4.out).mono ?_); rintro e w5 ⟨rfl, hb⟩; have R5 := Lib.hid hb; clear hb))
  go_ret2
  exact Pa.after (fun q hq => (more_or S4.out hq).imp id (fun e => Nat.le_trans G3.out.size e)) G4.out ⟨rfl, R5.out⟩
/-- From the thread's own page. -/
theorem rSlow_fast (h : Ph w K V H vk vs vo os y) (Q : Qi y) {t n a : Nat} (ht : t < y.T) (hn : n ≤ 15)
    (FT : ∀ W, w.grownBy W none → Calls Tryz.prog 65 #[.pointer (some ⟨H, 0, none⟩), .int .i64 t, .int .i64 n] W (Pa K H (.int .i64 a) y' W)) :
    Calls Tryz.prog 29 #[.pointer (some ⟨H, 0, none⟩), .int .i64 t, .int .i64 n] w (Pa K H (two a 0) y' w) := by
  obtain ⟨⟨k1, k4⟩, _, _⟩ := cl_ofn (n := n) (by omega) (by omega)
  obtain ⟨k, hkk, _⟩ := ofn_nat n
  have OF := Lib.hid (fun W => rOf_any n W)
  rw [hkk] at OF
  have CT := Lib.hid (fun W (hg : w.grownBy W none) => (h.gr (Gr.new (L := []) hg) (by simp)).cT)
  have FF := Lib.hid FT
  obtain ⟨T, hT⟩ : ∃ T, y.T = T := ⟨_, rfl⟩
  rw [hT] at CT ht
  have t1 : decide ((t : Int) < 0) = false := by simp
  have t2 : ¬ ((T : Int) ≤ t) := by omega
  have t3 : ((k : Int) == 0) = false := by simp; omega
  have t4 : ((k : Int) == 5) = false := by simp; omega
  have t6 : (0 : Int) ≤ (a : Int) := by omega
  clear h Q hT hn FT hkk k1 k4
  go_enter Tryz.func29, Tryz.ntmps29
  go_wp2_with (first
    | (go_at_call 61; (with_reducible refine (OF.out _).mono ?_); rintro e w2 ⟨rfl, hb⟩; have G2 := Lib.hid (pg.below_grown hb); have c2 := CT.out _ G2.out; clear hb)
    | (go_at_call 65; (with_reducible refine (FF.out _ G2.out).mono ?_); rintro e w3 ⟨rfl, hb⟩; have R3 := Lib.hid hb; clear hb))
  go_ret2
  exact Pa.after (fun q hq => .inl hq) (Gr.new G2.out) ⟨rfl, R3.out⟩
/-- There is no page for it. -/
theorem rSlow_full (h : Ph w K V H vk vs vo os y) (Q : Qi y) {t n : Nat} (ht : t < y.T) (hn : n ≤ 15)
    (FT : ∀ W, w.grownBy W none → Calls Tryz.prog 65 #[.pointer (some ⟨H, 0, none⟩), .int .i64 t, .int .i64 n] W fun e w' => e = .returned (.int .i64 (-1)) ∧ W.grownBy w' none)
    (OP : ∀ W, w.grownBy W none → Calls Tryz.prog 66 #[.pointer (some ⟨H, 0, none⟩), .int .i64 (ofn n)] W (Pa K H (.int .i64 (-1)) y W)) :
    Calls Tryz.prog 29 #[.pointer (some ⟨H, 0, none⟩), .int .i64 t, .int .i64 n] w (Pa K H (two 0 10) y w) := by
  obtain ⟨⟨k1, k4⟩, _, _⟩ := cl_ofn (n := n) (by omega) (by omega)
  obtain ⟨k, hkk, _⟩ := ofn_nat n
  have OF := Lib.hid (fun W => rOf_any n W)
  rw [hkk] at OF OP
  have CT := Lib.hid (fun W (hg : w.grownBy W none) => (h.gr (Gr.new (L := []) hg) (by simp)).cT)
  have FF := Lib.hid FT
  have FO := Lib.hid OP
  obtain ⟨T, hT⟩ : ∃ T, y.T = T := ⟨_, rfl⟩
  rw [hT] at CT ht
  have t1 : decide ((t : Int) < 0) = false := by simp
  have t2 : ¬ ((T : Int) ≤ t) := by omega
  have t3 : ((k : Int) == 0) = false := by simp; omega
  have t4 : ((k : Int) == 5) = false := by simp; omega
  clear h Q hT hn FT OP hkk k1 k4
  go_enter Tryz.func29, Tryz.ntmps29
  go_wp2_with (first
    | (go_at_call 61; (with_reducible refine (OF.out _).mono ?_); rintro e w2 ⟨rfl, hb⟩; have G2 := Lib.hid (pg.below_grown hb); have c2 := CT.out _ G2.out; clear hb)
    | (go_at_call 65; (with_reducible refine (FF.out _ G2.out).mono ?_); rintro e w3 ⟨rfl, hb⟩; have G3 := Lib.hid (G2.out.trans hb); clear hb)
    | (go_at_call 66; (with_reducible refine (FO.out _ G3.out).mono ?_); rintro e w4 ⟨rfl, hb⟩; have R4 := Lib.hid hb; clear hb))
  go_ret2
  exact Pa.after (fun q hq => .inl hq) (Gr.new G3.out) ⟨rfl, R4.out⟩
/-- From another page, which is the thread's then. -/
theorem rSlow_more (h : Ph w K V H vk vs vo os y) (Q : Qi y) {t n p a z : Nat} {f : Int} {rest : List Int} (ht : t < y.T) (hn : n ≤ 15)
    (FT : ∀ W, w.grownBy W none → Calls Tryz.prog 65 #[.pointer (some ⟨H, 0, none⟩), .int .i64 t, .int .i64 n] W fun e w' => e = .returned (.int .i64 (-1)) ∧ W.grownBy w' none)
    (OP : ∀ W, w.grownBy W none → Calls Tryz.prog 66 #[.pointer (some ⟨H, 0, none⟩), .int .i64 (ofn n)] W (Pa K H (.int .i64 p) y' W))
    (p64 : p < 64) {y2 : Hq} (e2 : y2 = { y' with own := ca.rest y'.own t (ofn n) ++ [((t : Int), ofn n, (p : Int))] }) (Q2 : Qi y2) (hT2 : y2.T = y.T) (hp : ca.page y2.own t (ofn n) = p) (hk : pg.kind y2.ks p = ofn n) (hfr : y2.fr p = f :: rest) (hf : 0 ≤ f ∧ f < 16) (ha : (a : Int) = p * 32 + f * sz (ofn n)) (hz : sz (ofn n) = z) (hne : ∀ o ∈ y2.ob, o.1 ≠ a) :
    Calls Tryz.prog 29 #[.pointer (some ⟨H, 0, none⟩), .int .i64 t, .int .i64 n] w (Pa K H (two a 0) (Hq.begun { y2 with fr := upd y2.fr p rest } a n) w) := by
  obtain ⟨⟨k1, k4⟩, _, _⟩ := cl_ofn (n := n) (by omega) (by omega)
  obtain ⟨k, hkk, _⟩ := ofn_nat n
  have T9 : y.T ≤ 9 := Q.T
  have OF := Lib.hid (fun W => rOf_any n W)
  have F2 := Lib.hid (fun W K1 V1 vk1 vs1 vo1 os1 (h1 : Ph W K1 V1 H vk1 vs1 vo1 os1 y2) => rFast_yes h1 Q2 (t := t) (by omega) hn hp hk hfr hf ha hz hne)
  have OWN := Lib.hid (fun W K1 (h1 : Pl W K1 H y') => (show (W.cell? ⟨H, 65 + t * 5 + k, none⟩ = some (.int .i64 (ca.page y'.own t k + 1)) ∧ W.frozen? ⟨H, 65 + t * 5 + k, none⟩ = false ∧ H < W.heap.size) ∧ ∃ V1 vk1 vs1 vo1 os1, Ph (W.setCell ⟨H, 65 + t * 5 + k, none⟩ (.int .i64 ((p : Int) + 1))) K1 V1 H vk1 vs1 vo1 os1 y2 from by
    obtain ⟨V1, vk1, vs1, vo1, os1, h1⟩ := h1
    refine ⟨⟨h1.own_at (by omega) (by omega), h1.fz _, h1.HK⟩, V1, vk1, vs1, vo1, os1, ?_⟩
    rw [e2, hkk]
    exact h1.owned (t := t) (k := k) (by omega) (by omega) (by omega) p))
  rw [hkk] at OF OP
  have CT := Lib.hid (fun W (hg : w.grownBy W none) => (h.gr (Gr.new (L := []) hg) (by simp)).cT)
  have HK := Lib.hid h.hk
  have FF := Lib.hid FT
  have FO := Lib.hid OP
  obtain ⟨T, hT⟩ : ∃ T, y.T = T := ⟨_, rfl⟩
  rw [hT] at CT ht T9
  have t1 : decide ((t : Int) < 0) = false := by simp
  have t2 : ¬ ((T : Int) ≤ t) := by omega
  have t3 : ((k : Int) == 0) = false := by simp; omega
  have t4 : ((k : Int) == 5) = false := by simp; omega
  have l1 : (0 : Int) ≤ (t : Int) := by omega
  have l2 : (t : Int) < 9 := by omega
  have l3 : (0 : Int) ≤ (k : Int) := by omega
  have l4 : (k : Int) < 5 := by omega
  have t5 : (0 : Int) ≤ (p : Int) := by omega
  have t6 : (p : Int) < 64 := by omega
  clear h Q hT hn FT OP hkk k1 k4 hp hk hfr hf ha hz hne Q2 hT2 e2 p64
  go_enter Tryz.func29, Tryz.ntmps29
  go_wp2_with (first
    | (go_at_call 61; (with_reducible refine (OF.out _).mono ?_); rintro e w2 ⟨rfl, hb⟩; have G2 := Lib.hid (pg.below_grown hb); have c2 := CT.out _ G2.out; clear hb)
    | (have mark := R4; go_at_call 65; (with_reducible refine (F2.out _ _ _ _ _ _ _ R5.out).mono ?_); rintro e w6 ⟨rfl, hb⟩; have R6 := Lib.hid hb; clear hb)
    | (go_at_call 65; (with_reducible refine (FF.out _ G2.out).mono ?_); rintro e w3 ⟨rfl, hb⟩; have G3 := Lib.hid (G2.out.trans hb); clear hb)
    | (go_at_call 66; (with_reducible refine (FO.out _ G3.out).mono ?_); rintro e w4 ⟨rfl, K4, hk4, hp4, hg4⟩; have R4 := Lib.hid hk4; have G4 := Lib.hid hg4; obtain ⟨⟨d0, d1, d2⟩, V5, vk5, vs5, vo5, os5, h5⟩ := OWN.out _ _ hp4; have R5 := Lib.hid h5; clear hk4 hp4 hg4 h5))
  go_ret2
  refine Pa.after (K' := K4) (fun q hq => (R4.out q hq).imp id (fun e => Nat.le_trans G3.out.size e)) (((Gr.new G3.out).trans G4.out).trans (.set _ _ _ _ HK.out)) ⟨rfl, R6.out⟩
end
end Go.Proofs.YtacjleladjgkeaaGreatDoor.ph

/- The plain heap: Set; New. -/
namespace Go.Proofs.YtacjleladjgkeaaGreatDoor.ph
open Go.ChangeShapes Go.WideShapes Go.ChangeAt Go.RowKit gen calls cls geos ce bo st
set_option linter.unusedVariables false
set_option maxHeartbeats 8000000
set_option maxRecDepth 100000
theorem vc_set : ∀ (m : List Va) (i : Nat) (x : Va), ((va.vc m).set (2 * i) (.int .i64 x.1)).set (2 * i + 1) (.int .i64 x.2) = va.vc (m.set i x)
  | [], i, x => by simp [va.vc]
  | y :: m, 0, x => rfl
  | y :: m, i + 1, x => by
    have h := vc_set m i x
    rw [List.set_cons_succ, va.vc_cons, va.vc_cons, ← h, show 2 * (i + 1) + 1 = (2 * i + 1) + 1 + 1 by omega, show 2 * (i + 1) = 2 * i + 1 + 1 by omega]
    rfl
theorem lv_set {w : World} {base g n c i : Nat} {m : List Va} (h : va.Lv w base (.slice (some ⟨g, 0, none⟩) n c) m) (hn : n = m.length) (hi : i < n) (x : Va) : va.Lv ((w.setCell ⟨g, i * 2, none⟩ (.int .i64 x.1)).setCell ⟨g, i * 2 + 1, none⟩ (.int .i64 x.2)) base (.slice (some ⟨g, 0, none⟩) n c) (m.set i x) := by
  subst hn
  refine ⟨by rw [va.vc_length]; omega, ?_⟩
  rw [List.length_set]
  rcases h.2 with ⟨e, _⟩ | ⟨g', cap, cur, e, hb, hg, h1, h2, h3, h4⟩
  · cases e
  · injection e with e1 e2 e3
    injection e1 with e1
    injection e1 with e1
    subst e1 e3
    refine .inr ⟨g, c, (cur.setIfInBounds (i * 2) (.int .i64 x.1)).setIfInBounds (i * 2 + 1) (.int .i64 x.2), rfl, hb, by rw [heap_setCell_same _ g _ _ _ _ (by rw [heap_setCell_same w g _ _ _ _ hg])], h1, h2, by simpa using h3, ?_⟩
    rw [← vc_set m i x, ← h4, Array.toList_setIfInBounds, Array.toList_setIfInBounds, List.take_set, List.take_set, Nat.mul_comm i 2]
/-- The cells of the i-th one. -/
theorem lv_at {w : World} {base N c i : Nat} {A : Option Addr} {m : List Va} (h : va.Lv w base (.slice A N c) m) (hN : N = m.length) (hi : i < N) : ∃ g, A = some ⟨g, 0, none⟩ ∧ base ≤ g ∧ g < w.heap.size ∧ N ≤ c ∧ c ≤ maxLen ∧ w.cell? ⟨g, i * 2, none⟩ = some (.int .i64 (m.getD i (0, 0)).1) ∧ w.cell? ⟨g, i * 2 + 1, none⟩ = some (.int .i64 (m.getD i (0, 0)).2) ∧ ∀ k, w.frozen? ⟨g, k, none⟩ = false := by
  obtain ⟨b1, o1, e, g1, g2⟩ := (h.rv hN).at_ hi
  rcases h.2 with ⟨e2, _⟩ | ⟨g, cap, cur, e2, hb, hg, h1, h2, _⟩
  · injection e2 with e2
    rw [e2] at e
    cases e
  · injection e2 with e2 _ e3
    rw [e2] at e
    injection e with e
    injection e with e4 e5
    subst e4 e5 e3
    rw [Nat.zero_add] at g1 g2
    exact ⟨g, e2, hb, (Array.getElem?_eq_some_iff.1 hg).1, by omega, h2, g1, g2, fun k => frozen_of_row w g k _ _ hg⟩
section
variable {w w' w1 : World} {K K' V M X : List Nat} {H : Nat} {vk vo vo' : Value} {vs : List Value} {os os' : List Pb} {y y' : Hq} {v : Value} {e : Ending}
theorem rSet_any (h : Ph w K V H vk vs vo os y) {a k mm : Int} {i j n : Nat} {o : Ob3} (hz : Fnd y.ob a i) (hi : y.ob[i]? = some o) (hn : o.2.2.length = n) (hj : j < n) (hl : n ≤ 127) (hl2 : y.ob.length ≤ 4096) :
    Calls Tryz.prog 31 #[.pointer (some ⟨H, 0, none⟩), .int .i64 a, .int .i64 j, .agg #[.int .i64 k, .int .i64 mm]] w (Pa K H (.tuple #[]) { y with ob := y.ob.modify i fun o' => (o'.1, o'.2.1, o.2.2.set j (k, mm)) } w) := by
  have G0 := Lib.hid (World.grownBy_alloc w (.cells #[.int .i64 k, .int .i64 mm] 64) none)
  have T0 := Lib.hid (wd.Two.new w 64 k mm rfl)
  have HP := Lib.hid (fun W (hg : w.grownBy W none) => h.gr (Gr.new (L := []) hg) (by simp))
  have FD := Lib.hid (fun W (hg : w.grownBy W none) => rFind_any (h.gr (Gr.new (L := []) hg) (by simp)) hz)
  have il := (List.getElem?_eq_some_iff.1 hi).1
  obtain ⟨p, hp, ep⟩ := h.nth hi
  have CO := Lib.hid (fun W (hg : w.grownBy W none) => (h.gr (Gr.new (L := []) hg) (by simp)).cO)
  obtain ⟨b, c, e1, eb, b1, s1, s2, _⟩ := h.lp.at_ hp
  have AT := Lib.hid (fun W (hg : w.grownBy W none) => (show W.cell? ⟨b, i * 3 + 2, none⟩ = some p.v ∧ W.frozen? ⟨b, i * 3 + 2, none⟩ = false ∧ b < W.heap.size from by
    obtain ⟨b', c', f1, f2, f3, _, _, _, _, g2, g3⟩ := (h.lp.new hg).at_ hp
    rw [eb] at f2
    injection f2 with f2
    subst f2
    exact ⟨g2, g3, f3⟩))
  obtain ⟨A, c2, e2, rv, _, rn⟩ := h.read (List.mem_of_getElem? hp)
  have epl : p.l = o.2.2 := by rw [← ep]; rfl
  rw [epl, hn] at e2 rv
  obtain ⟨rb, ro, rfl, _, _⟩ := rv.at_ hj
  have RV := Lib.hid (fun W (hg : w.grownBy W none) => rv.made hg)
  have OL := Lib.hid (show os.length = y.ob.length from h.len)
  have IL := Lib.hid (show i < os.length by rw [h.len]; exact il)
  rw [e2] at AT
  obtain ⟨N, hN⟩ : ∃ N, os.length = N := ⟨_, rfl⟩
  rw [hN] at e1 s1
  subst e1
  have EB := Lib.hid eb
  have iN : i < N := by rw [← hN, h.len]; exact il
  have N4 : N ≤ 4096 := by rw [← hN, h.len]; exact hl2
  have FIN := Lib.hid (fun W g2 n2 c3 (g0 : w.grownBy W none) (hl : va.Lv W (w.heap.size + 1) (.slice (some ⟨g2, 0, none⟩) n2 c3) (o.2.2.set j (k, mm))) => (show ∃ K', (∀ q, q ∈ K' → q ∈ K ∨ w.heap.size ≤ q) ∧ Pl (W.setCell ⟨b, i * 3 + 2, none⟩ (.slice (some ⟨g2, 0, none⟩) n2 c3)) K' H { y with ob := y.ob.modify i fun o' => (o'.1, o'.2.1, o.2.2.set j (k, mm)) } ∧ Gr K w (W.setCell ⟨b, i * 3 + 2, none⟩ (.slice (some ⟨g2, 0, none⟩) n2 c3)) from by
    have h1 := h.gr (Gr.new (L := []) g0) (by simp)
    have h2 := h1.field (i := i) (b := b) (X := [g2]) (u := .slice (some ⟨g2, 0, none⟩) n2 c3) eb (by rw [hN]; exact iN) (hl.mono (Nat.zero_le _)) (fun q hq => by simp at hq; subst hq; exact hl.lt q rfl) (fun q hq => by injection hq with hq; rw [← hq]; simp)
    exact ⟨_, fun q hq => by
      rcases List.mem_append.1 hq with hq | hq
      · simp at hq
        subst hq
        have := hl.from_ q rfl
        exact .inr (by omega)
      · exact .inl hq, ⟨_, _, _, _, _, h2⟩, (Gr.new g0).trans (.set _ _ _ _ (h.ok b eb).1)⟩))
  have l1 : (0 : Int) ≤ (i : Int) := by omega
  have l2 : (i : Int) < N := by omega
  have j1 : (0 : Int) ≤ (j : Int) := by omega
  have j2 : (j : Int) < n := by omega
  have b2 : ¬ (b = w.heap.size) := by omega
  obtain ⟨ol, hol⟩ : ∃ ol, o.2.2 = ol := ⟨_, rfl⟩
  rw [hol] at FIN RV hn
  rw [hol]
  have HLN := Lib.hid hn
  obtain ⟨t0, t1, _⟩ := T0.out
  have hH := h.HK
  unfold maxLen at s2
  clear h hz hi hp ep eb e2 rv rn epl hN il hol hl2 hn
  go_enter Tryz.func31, Tryz.ntmps31
  go_wp2_with (first
    | (go_at_call 67; (with_reducible refine (FD.out _ G0.out).mono ?_); rintro e w' ⟨rfl, rfl⟩; have c0 := CO.out _ G0.out; obtain ⟨a0, a1, a2⟩ := AT.out _ G0.out)
    | (refine va.append_vas rfl (.tmp 13) (.tmp 21) rfl (w.heap.size + 1) _ [] rfl (va.Lv.nil _ _) (some ⟨rb, ro, none⟩) n c2 _ ol rfl (fun e => by cases e) (RV.out _ G0.out) (by simp <;> omega) (by simp) ?_; intro A3 N3 c3 w3 hn3 hl3 hg3; have L3 := Lib.hid hl3; have G3 := Lib.hid (G0.out.trans (show (w.alloc (.cells #[.int .i64 k, .int .i64 mm] 64)).grownBy w3 none from hg3)); have e3 : N3 = n := hn3.trans HLN.out; subst e3; obtain ⟨g3, rfl, x1, x2, x3, x4, x5, x6, x7⟩ := lv_at (i := j) hl3 HLN.out.symm (by omega); have T3 := wd.Two.below (li.grown_below hg3) T0.out; obtain ⟨t30, t31, _⟩ := T3; have x8 := x7 (j * 2); have x9 := x7 (j * 2 + 1); have y1 := Lib.hid x1; have c3' := CO.out _ G3.out; obtain ⟨a30, a31, a32⟩ := AT.out _ G3.out; have bg : ¬ (b = g3) := (by omega); have gb : ¬ (g3 = b) := (by omega); have gH : ¬ (g3 = H) := (by omega); have Hg : ¬ (H = g3) := (by omega); unfold maxLen at x4; clear hn3 hl3 hg3 x7 x1))
  go_end0
  have G4 : w.grownBy ((w3.setCell ⟨g3, j * 2, none⟩ (.int .i64 k)).setCell ⟨g3, j * 2 + 1, none⟩ (.int .i64 mm)) none := Gr.grown G3.out ((set_gr w3 g3 (j * 2) (.int .i64 k)).trans (set_gr _ g3 (j * 2 + 1) (.int .i64 mm))) (fun q hq => by simp at hq; subst hq; have := y1.out; omega)
  have L4 := lv_set (i := j) L3.out HLN.out.symm (by omega) (k, mm)
  rw [List.nil_append] at L4
  exact ⟨rfl, FIN.out _ _ _ _ G4 L4⟩
end
end Go.Proofs.YtacjleladjgkeaaGreatDoor.ph

/- The plain heap against a store by lists: what an object is in both, and how one is made. -/
namespace Go.Proofs.YtacjleladjgkeaaGreatDoor.ph
open Go.ChangeShapes Go.WideShapes Go.ChangeAt Go.RowKit gen calls cls geos ce bo st
set_option linter.unusedVariables false
set_option maxHeartbeats 4000000
set_option maxRecDepth 100000
section
variable {w w' w1 : World} {K K' V M X : List Nat} {H : Nat} {x z : Hs} {t n a : Nat}
theorem obs_mem {o : Ob3} : o ∈ obs x ↔ ∃ b ∈ x.tk, o = (b, x.xs.getD b.toNat 0 / 128, tc.fls x b) := by
  unfold obs
  rw [List.mem_map]
  constructor
  · rintro ⟨b, h1, h2⟩; exact ⟨b, h1, h2.symm⟩
  · rintro ⟨b, h1, h2⟩; exact ⟨b, h1, h2.symm⟩
theorem obs_at {o : Ob3} (h : o ∈ obs x) : o.1 ∈ x.tk := by
  obtain ⟨b, h1, rfl⟩ := obs_mem.1 h
  exact h1
theorem obs_up (V : Iv x) : Up (obs x) := by
  unfold Up obs
  rw [List.pairwise_map]
  exact V.ok.up
theorem tk_range (V : Iv x) {b : Int} (hb : b ∈ x.tk) : 0 ≤ b ∧ b ≤ 2047 := by
  have h1 := bz_in V.ok hb
  have h2 := bz_pos V.ok hb
  have h3 := V.ok.len
  have h4 := V.ok.few
  omega
/-- Where an object is kept, it is the same one. -/
theorem fls_keep (V : Iv x) {P : Int → Prop} (hK : Kp P x z) {b : Int} (hb : b ∈ x.tk) (hP : P b) : z.xs.getD b.toNat 0 = x.xs.getD b.toNat 0 ∧ tc.fls z b = tc.fls x b := by
  obtain ⟨_, h2, h3⟩ := hK b hb hP
  have hp := bz_pos V.ok hb
  have hr := tk_range V hb
  have e0 := h3 b.toNat (by omega) (by omega)
  refine ⟨e0, ?_⟩
  obtain ⟨s, m, l1, l2, l3, l4⟩ := V.live b hb
  unfold tc.fls
  rw [e0]
  refine List.map_congr_left fun j hj => ?_
  rw [List.mem_range, l4] at hj
  rw [h3 (b.toNat + 1 + j) (by omega) (by omega)]
theorem rdv_zero : tc.rdv 0 = (0, 0) := by unfold tc.rdv wd.rk wd.rn; simp
/-- One more object. -/
theorem obs_made (V : Iv x) (V1 : Iv z) (hK : Kp (fun _ => True) x z) (M : Made x z a n) (htk : z.tk = bm.rising (x.tk ++ [(a : Int)])) (n8 : n < 128) : obs z = insq (obs x) ((a : Int), (x.cnt : Int), List.replicate n (0, 0)) := by
  have TD : x.tk.takeWhile (fun b => decide (b < (a : Int))) ++ x.tk.dropWhile (fun b => decide (b < (a : Int))) = x.tk := List.takeWhile_append_dropWhile
  have hu := V.ok.up
  have e1 : z.tk = x.tk.takeWhile (fun b => decide (b < (a : Int))) ++ (a : Int) :: x.tk.dropWhile (fun b => decide (b < (a : Int))) := by
    rw [htk]
    refine bm.up_eq (bm.rising_up _) ?_ fun c => ?_
    · rw [List.pairwise_append]
      have tw : ∀ c ∈ x.tk.takeWhile (fun b => decide (b < (a : Int))), c < a := by
        intro c hc
        have := List.all_takeWhile (p := fun b => decide (b < (a : Int))) (l := x.tk)
        rw [List.all_eq_true] at this
        simpa using this c hc
      have dw : ∀ c ∈ x.tk.dropWhile (fun b => decide (b < (a : Int))), (a : Int) < c := fun c hc => by
        have h1 := bm.drop_ge (x := (a : Int)) hu c hc
        have h2 : c ≠ a := fun e => M.not (e ▸ (List.dropWhile_sublist _).subset hc)
        omega
      refine ⟨hu.sublist (List.takeWhile_sublist _), List.pairwise_cons.2 ⟨dw, hu.sublist (List.dropWhile_sublist _)⟩, fun b hb c hc => ?_⟩
      have := tw b hb
      rcases List.mem_cons.1 hc with rfl | hc
      · exact this
      · have := dw c hc; omega
    · rw [bm.mem_rising]
      simp only [List.mem_append, List.mem_cons, List.not_mem_nil, or_false]
      constructor
      · rintro (h | h)
        · rw [← TD, List.mem_append] at h
          exact h.elim .inl (fun e => .inr (.inr e))
        · exact .inr (.inl h)
      · rintro (h | h | h)
        · exact .inl ((List.takeWhile_sublist _).subset h)
        · exact .inr h
        · exact .inl ((List.dropWhile_sublist _).subset h)
  have g : ∀ b ∈ x.tk, (b, z.xs.getD b.toNat 0 / 128, tc.fls z b) = (b, x.xs.getD b.toNat 0 / 128, tc.fls x b) := fun b hb => by
    obtain ⟨h1, h2⟩ := fls_keep V hK hb trivial
    rw [h1, h2]
  have ga : ((a : Int), z.xs.getD (a : Int).toNat 0 / 128, tc.fls z a) = ((a : Int), (x.cnt : Int), List.replicate n (0, 0)) := by
    have h1 := M.ob.2
    rw [Int.toNat_natCast, h1, show ((x.cnt : Int) * 128 + n) / 128 = x.cnt by omega]
    have h2 : tc.fls z a = List.replicate n (0, 0) := by
      unfold tc.fls
      rw [Int.toNat_natCast, h1, show (((x.cnt : Int) * 128 + n) % 128).toNat = n by omega]
      apply List.ext_getElem?
      intro j
      rw [List.getElem?_map, List.getElem?_replicate]
      by_cases hj : j < n
      · rw [List.getElem?_range hj, if_pos hj, Option.map_some, show a + 1 + j = a + (j + 1) by omega, M.zero (j + 1) (by omega) (by omega), rdv_zero]
      · rw [List.getElem?_eq_none (by simp; omega), if_neg hj]
        rfl
    rw [h2]
  unfold insq obs
  rw [e1, List.map_append, List.map_cons, ga, List.takeWhile_map, List.dropWhile_map]
  congr 1
  · exact List.map_congr_left fun b hb => g b ((List.takeWhile_sublist _).subset hb)
  · congr 1
    exact List.map_congr_left fun b hb => g b ((List.dropWhile_sublist _).subset hb)
theorem obs_keep (V : Iv x) (hK : Kp (fun _ => True) x z) (htk : z.tk = x.tk) : obs z = obs x := by
  unfold obs
  rw [htk]
  refine List.map_congr_left fun b hb => ?_
  obtain ⟨h1, h2⟩ := fls_keep V hK hb trivial
  rw [h1, h2]
theorem toq_i (V : Iv x) (hT : x.T ≤ 9) (s8 : x.cnt < 1099511627776) (hl : x.tk.length ≤ 2048) : Qi (toq x) :=
  ⟨V.ok.kds, V.ok.few, hT, s8, by show (obs x).length ≤ 4096; unfold obs; rw [List.length_map]; omega, obs_up V, V.good⟩
/-- A page that the program's store finds is the one that the plain one finds. -/
theorem rfit_eq (V : Iv x) {k : Int} (hk : 1 ≤ k ∧ k ≤ 4) (p : Nat) : rfit (toq x) k p = fit x k p := by
  unfold rfit fit
  show ((pg.kind x.ks p == k) && decide (0 < (x.fr (p : Int).toNat).length) && decide ((ca.owner x.own p).1 < 0)) = _
  by_cases h : pg.kind x.ks p = k
  · have t := (V.ok.told (p := p) (by omega)).2.1
    have ho : decide ((ca.owner x.own p).1 < 0) = ((ca.owner x.own p).1 == -1) := by
      by_cases h1 : (ca.owner x.own p).1 < 0
      · have h2 := (ca.owner_neg V.good p).1 h1
        rw [ca.owner_no h2]
        rfl
      · rw [decide_eq_false h1]
        symm
        rw [beq_eq_false_iff_ne]
        omega
    rw [t, Int.toNat_natCast, ho]
    congr 2
    apply decide_eq_decide.2
    omega
  · have : (pg.kind x.ks p == k) = false := by simpa using h
    rw [this]
    rfl
theorem fit_len (V : Iv x) {k : Int} (hk : 1 ≤ k ∧ k ≤ 4) {p : Nat} (h : fit x k p = true) : p < x.ks.length ∧ p < 64 := by
  unfold fit at h
  simp only [Bool.and_eq_true, beq_iff_eq] at h
  obtain ⟨P, e, p64, pl⟩ := there V.ok.few (z := (p : Int)) (by omega)
  omega
theorem own_get {t : Nat} (ht : t < x.T) (hT : x.T ≤ 9) (k : Nat) (hk : 1 ≤ k ∧ k ≤ 4) (p : Int) : ca.page (ca.rest x.own t k ++ [((t : Int), (k : Int), p)]) t k = p := by
  rw [page_put _ _ _ _ _ _ (by omega), if_pos ⟨rfl, rfl⟩]
/-- No room: the plain one. -/
theorem rSno (h : Pl w K H (toq x)) (V : Iv x) (hT : x.T ≤ 9) (s8 : x.cnt < 1099511627776) (hl : x.tk.length ≤ 2048) (ht : t < x.T) (S : Sno x t n) :
    Calls Tryz.prog 29 #[.pointer (some ⟨H, 0, none⟩), .int .i64 t, .int .i64 n] w (Pa K H (two 0 10) (toq x) w) := by
  have Q := toq_i V hT s8 hl
  have hP := h
  obtain ⟨V0, vk, vs, vo, os, h⟩ := h
  rcases S with ⟨h1, N, hN, N1, hf⟩ | ⟨h1, hno, hl2, hf⟩
  · exact (rSlow_full5 h Q ht h1 hN hf).mono fun e w' ⟨k1, k2⟩ => Pa.same hP k2 k1
  · obtain ⟨hk, _, hsz⟩ := cl_ofn (n := n) (by omega) (by omega)
    refine rSlow_full h Q ht h1 (fun W hg => rFast_no (h.gr (Gr.new (L := []) hg) (by simp)) Q ht h1 hno) (fun W hg => ?_)
    have hW := h.gr (Gr.new (L := []) hg) (by simp)
    refine ropen_any hW Q hk (z := -1) (y' := toq x) (fun p hp h2 _ => ?_) (fun _ W2 hg2 => ?_) (fun p hp h2 => rfl)
    · rw [rfit_eq V hk] at h2
      rw [hl2 p (fit_len V hk h2).2] at h2
      cases h2
    · have hW2 := hW.gr (Gr.new (L := []) hg2) (by simp)
      exact (rCarve_none hW2.hh Q.len _ hf).mono fun e w' ⟨k1, k2⟩ => Pa.same ⟨_, _, _, _, _, hW2⟩ k2 k1
end
end Go.Proofs.YtacjleladjgkeaaGreatDoor.ph

/- The plain heap against a store by lists: Slow, when there is room. -/
namespace Go.Proofs.YtacjleladjgkeaaGreatDoor.ph
open Go.ChangeShapes Go.WideShapes Go.ChangeAt Go.RowKit gen calls cls geos ce bo st
set_option linter.unusedVariables false
set_option maxHeartbeats 4000000
set_option maxRecDepth 100000
section
variable {w w' w1 : World} {K K' V M X : List Nat} {H : Nat} {x z : Hs} {t n a : Nat}
theorem rSlo (h : Pl w K H (toq x)) (V : Iv x) (hT : x.T ≤ 9) (s8 : x.cnt < 1099511627776) (hl : x.tk.length ≤ 2048) (ht : t < x.T) (S : Slo x t n z a) :
    Calls Tryz.prog 29 #[.pointer (some ⟨H, 0, none⟩), .int .i64 t, .int .i64 n] w (Pa K H (two a 0) (toq z) w) := by
  have Q := toq_i V hT s8 hl
  obtain ⟨V1, K1, M1, T1⟩ := Slo_iv V s8 (by omega) S
  have n8 := Slo_le S
  have hP := h
  obtain ⟨V0, vk, vs, vo, os, h⟩ := h
  have hne : ∀ o ∈ (toq x).ob, o.1 ≠ a := fun o ho e => M1.not (e ▸ obs_at ho)
  have OB : z.tk = bm.rising (x.tk ++ [(a : Int)]) → obs z = insq (obs x) ((a : Int), (x.cnt : Int), List.replicate n (0, 0)) := fun e => obs_made V V1 K1 M1 e (by omega)
  rcases S with ⟨h1, p, N, m, hN, N1, hf, ha, hz, rfl⟩ | ⟨h1, p, m, f, rest, hp, C, rfl⟩ | ⟨h1, hno, p, m, f, rest, p64, hf, hl2, C, rfl⟩ | ⟨h1, hno, hl2, p, m, m0, n0, f, rest, hf, e1, e2, C, rfl⟩
  · have e : toq ((x.spanned p N a m).begun a n) = Hq.begun { toq x with ks := pg.spanN x.ks p N } a n := by
      unfold toq Hq.begun
      dsimp only
      rw [OB rfl]
      rfl
    rw [e]
    exact rSlow_large h Q ht h1 hN N1 hf ha hne
  all_goals
    obtain ⟨hk, _, hsz⟩ := cl_ofn (n := n) (by omega) (by omega)
    obtain ⟨c1, c2, c3, c4, c5⟩ := C
    obtain ⟨k, hkk, _⟩ := ofn_nat n
  · have fr := (V.ok.tkt (p := p) (by omega) c3).2.2
    have e : toq ((x.took p f rest a m).begun a n) = Hq.begun { toq x with fr := upd x.fr p rest } a n := by
      unfold toq Hq.begun
      dsimp only
      rw [OB rfl]
      rfl
    rw [e]
    have cw := cl_wide (pg.kind x.ks p)
    exact rSlow_fast h Q ht h1 (fun W hg => rFast_yes (h.gr (Gr.new (L := []) hg) (by simp)) Q ht h1 hp c1 c3 (by omega) c4 c5 hne)
  · have fr := (V.ok.tkt (p := p) (by omega) c3).2.2
    have cw := cl_wide (pg.kind x.ks p)
    have hf' := hf
    unfold fit at hf'
    simp only [Bool.and_eq_true, decide_eq_true_eq, beq_iff_eq] at hf'
    obtain ⟨⟨f1, f2⟩, f3⟩ := hf'
    have ne := (ca.owner_neg V.good p).1 (by omega)
    have VO := V.owned (t := (t : Int)) ⟨by omega, by omega⟩ hk p64 f1 ne
    have e : toq (((x.owned t (ofn n) p).took p f rest a m).begun a n) = Hq.begun { toq (x.owned t (ofn n) p) with fr := upd x.fr p rest } a n := by
      unfold toq Hq.begun
      dsimp only
      rw [OB rfl]
      rfl
    rw [e]
    refine rSlow_more (y' := toq x) h Q ht h1 (fun W hg => rFast_no (h.gr (Gr.new (L := []) hg) (by simp)) Q ht h1 hno) (fun W hg => ?_) p64 (y2 := toq (x.owned t (ofn n) p)) rfl (toq_i VO hT s8 hl) rfl ?_ c1 c3 (by omega) c4 c5 hne
    · refine ropen_any (h.gr (Gr.new (L := []) hg) (by simp)) Q hk (z := p) (y' := toq x) (fun q hq h2 h3 => ?_) (fun hn _ _ => ?_) (fun _ _ _ => rfl)
      · rw [rfit_eq V hk] at h2
        rcases Nat.lt_trichotomy q p with h4 | h4 | h4
        · rw [hl2 q h4] at h2; cases h2
        · rw [h4]
        · have := h3 p h4
          rw [rfit_eq V hk, hf] at this
          cases this
      · have := hn p (fit_len V hk hf).1
        rw [rfit_eq V hk, hf] at this
        cases this
    · show ca.page (ca.rest x.own t (ofn n) ++ [((t : Int), ofn n, (p : Int))]) t (ofn n) = p
      rw [hkk]
      exact own_get ht hT k (by omega) p
  · obtain ⟨V2, K2, ne⟩ := V.carved hk hf e1 e2
    have fr := (V2.ok.tkt (p := p) (by omega) c3).2.2
    have cw := cl_wide (pg.kind (x.carved p (ofn n) m0 n0).ks p)
    have fp := pg.find_at (n := 1) (by omega) hf
    have fw := V.ok.few
    have p64 : p < 64 := by omega
    have VO := V2.owned (t := (t : Int)) ⟨by omega, by show (t : Int) < x.T; omega⟩ hk p64 c1 ne
    have oc : obs (x.carved p (ofn n) m0 n0) = obs x := obs_keep V K2 rfl
    have qc : toq (x.carved p (ofn n) m0 n0) = { toq x with ks := x.ks.set p (ofn n), fr := upd x.fr p (ch.from_ 0 n0) } := by
      unfold toq
      rw [oc]
      rfl
    have e : toq ((((x.carved p (ofn n) m0 n0).owned t (ofn n) p).took p f rest a m).begun a n) = Hq.begun { toq ((x.carved p (ofn n) m0 n0).owned t (ofn n) p) with fr := upd (x.carved p (ofn n) m0 n0).fr p rest } a n := by
      have oc2 : obs ((x.carved p (ofn n) m0 n0).owned t (ofn n) p) = obs x := oc
      unfold toq Hq.begun
      dsimp only
      rw [OB rfl, oc2]
      rfl
    rw [e]
    refine rSlow_more (y' := toq (x.carved p (ofn n) m0 n0)) h Q ht h1 (fun W hg => rFast_no (h.gr (Gr.new (L := []) hg) (by simp)) Q ht h1 hno) (fun W hg => ?_) p64 (y2 := toq ((x.carved p (ofn n) m0 n0).owned t (ofn n) p)) rfl (toq_i VO hT s8 hl) rfl ?_ c1 c3 (by omega) c4 c5 (fun o ho => hne o (by
      have oc2 : obs ((x.carved p (ofn n) m0 n0).owned t (ofn n) p) = obs x := oc
      show o ∈ obs x
      rw [← oc2]
      exact ho))
    · have hW := h.gr (Gr.new (L := []) hg) (by simp)
      refine ropen_any hW Q hk (z := p) (y' := toq (x.carved p (ofn n) m0 n0)) (fun q hq h2 h3 => ?_) (fun _ W2 hg2 => ?_) (fun q hq h2 => ?_)
      · have hq' : q < x.ks.length := hq
        rw [rfit_eq V hk, hl2 q (by omega)] at h2
        cases h2
      · have hW2 := hW.gr (Gr.new (L := []) hg2) (by simp)
        refine (rCarve_yes hW2.hh Q.ks Q.len hk hf e2).mono fun e w' ⟨vk2, vs2, k1, k2, k3⟩ => ?_
        have P2 := hW2.heap k2 k3
        rw [qc]
        exact ⟨k1, _, fun q hq => more_or k3.size hq, ⟨_, _, _, _, _, P2⟩, k3.mono (fun q hq => by simp at hq; subst hq; exact hW2.hk)⟩
      · have hq' : q < x.ks.length := hq
        rw [rfit_eq V hk, hl2 q (by omega)] at h2
        cases h2
    · show ca.page (ca.rest x.own t (ofn n) ++ [((t : Int), ofn n, (p : Int))]) t (ofn n) = p
      rw [hkk]
      exact own_get ht hT k (by omega) p
end
end Go.Proofs.YtacjleladjgkeaaGreatDoor.ph

/- The plain heap against a store by lists: a field is written; a new one. -/
namespace Go.Proofs.YtacjleladjgkeaaGreatDoor.ph
open Go.ChangeShapes Go.WideShapes Go.ChangeAt Go.RowKit gen calls cls geos ce bo st
set_option linter.unusedVariables false
set_option maxHeartbeats 4000000
set_option maxRecDepth 100000
section
variable {w w' w1 : World} {K K' V M X : List Nat} {H : Nat} {x z : Hs} {t n a s j i : Nat}
theorem obs_get {b : Int} (k : Nat) (hk : x.tk[k]? = some b) : (obs x)[k]? = some (b, x.xs.getD b.toNat 0 / 128, tc.fls x b) := by
  unfold obs
  rw [List.getElem?_map, hk]
  rfl
theorem obs_stored (V : Iv x) (hb : Ob x a s n) (hz : (n : Int) + 1 ≤ bz x.ks a) (hs : s < x.cnt) (hj : j < n) {v : Int} (hv : -9223372036854775808 ≤ v ∧ v ≤ 9223372036854775807) {o : Ob3} (hi : (obs x)[i]? = some o) (ho : o.1 = a) :
    obs (x.stored (a + 1 + j) v) = (obs x).modify i fun o' => (o'.1, o'.2.1, o.2.2.set j (tc.rdv v)) := by
  obtain ⟨V1, K1, e0, ev⟩ := V.stored hb hz hj hv hs
  have nd : x.tk.Nodup := V.ok.up.imp (fun h => by omega)
  have il : i < x.tk.length := by
    have := (List.getElem?_eq_some_iff.1 hi).1
    unfold obs at this
    simpa using this
  have ti : x.tk[i]? = some (a : Int) := by
    have h1 := obs_get (x := x) i (List.getElem?_eq_getElem il)
    rw [hi] at h1
    injection h1 with h1
    rw [List.getElem?_eq_getElem il]
    have : o.1 = x.tk[i] := by rw [h1]
    rw [← this, ho]
  have oe := obs_get i ti
  rw [hi] at oe
  injection oe with oe
  apply List.ext_getElem?
  intro k
  rw [List.getElem?_modify]
  by_cases hk : k < x.tk.length
  · have tk := List.getElem?_eq_getElem hk
    have h1 : (obs (x.stored (a + 1 + j) v))[k]? = some (x.tk[k], (x.stored (a + 1 + j) v).xs.getD x.tk[k].toNat 0 / 128, tc.fls (x.stored (a + 1 + j) v) x.tk[k]) := obs_get (x := x.stored (a + 1 + j) v) k tk
    rw [h1, obs_get k tk]
    by_cases e : i = k
    · subst e
      have ea : x.tk[i] = a := by rw [List.getElem?_eq_getElem hk] at ti; injection ti
      simp only [Option.map_eq_map, Option.map_some, if_true, Option.some.injEq, Prod.mk.injEq]
      rw [ea, Int.toNat_natCast, e0, hb.wd]
      refine ⟨trivial, rfl, ?_⟩
      rw [oe]
      dsimp only
      have xl : a + 1 + j < x.xs.length := by have := bz_in V.ok hb.tk; omega
      apply List.ext_getElem?
      intro q
      unfold tc.fls
      rw [Int.toNat_natCast, e0, hb.wd, show (((s : Int) * 128 + n) % 128).toNat = n by have := hb.n8; omega, List.getElem?_set, List.getElem?_map, List.getElem?_map, List.length_map, List.length_range]
      by_cases hq : q < n
      · rw [List.getElem?_range hq, Option.map_some, Option.map_some]
        by_cases e2 : j = q
        · subst e2
          rw [if_pos rfl, if_pos hj]
          rw [ev]
        · rw [if_neg e2]
          have : (x.stored (a + 1 + j) v).xs.getD (a + 1 + q) 0 = x.xs.getD (a + 1 + q) 0 := by
            show (x.xs.set (a + 1 + j) v).getD (a + 1 + q) 0 = _
            rw [ch.set_getD _ _ _ _ xl, if_neg (by omega)]
          rw [this]
      · rw [List.getElem?_eq_none (by simp; omega)]
        by_cases e2 : j = q
        · omega
        · rw [if_neg e2]
          rfl
    · simp only [Option.map_eq_map, Option.map_some, if_neg e]
      have hne : x.tk[k] ≠ a := fun e2 => by
        have := (List.getElem?_inj il nd (j := k)).1 (by rw [ti, tk, e2])
        omega
      obtain ⟨h2, h3⟩ := fls_keep V K1 (List.getElem_mem hk) hne
      rw [h2, h3]
  · rw [List.getElem?_eq_none (by unfold obs; rw [List.length_map]; show x.tk.length ≤ k; omega), List.getElem?_eq_none (by unfold obs; rw [List.length_map]; omega)]
    rfl
/-! ### New -/
def vs0 : List Value := List.replicate 64 (.slice none 0 0)
theorem own45_nil : own45 [] = List.replicate 45 0 := by decide
theorem heap_new (v : Value) : (Tryz.zeroCells47.setIfInBounds 0 v).setIfInBounds 110 (.int .i64 1) = (v :: (vs0 ++ tlo [] 1 (.slice none 0 0) 0)).toArray := by
  unfold tlo
  rw [own45_nil]
  rfl
def x0 (k : Nat) : Hs := ⟨List.replicate k 0, List.replicate (32 * k) 0, List.replicate 128 0, [], fun _ => [], [], 0, 1⟩
/-- A plain heap that was made. -/
def NewH (k : Nat) (w : World) (e : Ending) (w' : World) : Prop := ∃ H K, e = .returned (.pointer (some ⟨H, 0, none⟩)) ∧ Pl w' K H (toq (x0 k)) ∧ (∀ q, q ∈ K → w.heap.size ≤ q) ∧ w.grownBy w' none
theorem rNew_any (n : Int) (k : Nat) (hk : pg.near n 0 64 = k) (w : World) : Calls Tryz.prog 27 #[.int .i64 n, .int .i64 1] w (NewH k w) := by
  have P := Lib.hid (pg.rNew_any n k hk w)
  have E := Lib.hid heap_new
  have k64 : k ≤ 64 := by
    unfold pg.near at hk
    repeat' split at hk
    all_goals omega
  clear hk
  go_enter Tryz.func27, Tryz.ntmps27
  go_wp2_with (first
    | (go_at_call 60; (with_reducible refine P.out.mono ?_); rintro e w2 ⟨r, rfl, ho, hg⟩; have O2 := Lib.hid ho; have G2 := Lib.hid hg; clear ho hg))
  go_ret
  have ga := World.grownBy_alloc w2 (.cells ((Tryz.zeroCells47.setIfInBounds 0 (.slice (some ⟨r, 0, none⟩) k k)).setIfInBounds 110 (.int .i64 1)) 47) none
  have sz : (w2.alloc (.cells ((Tryz.zeroCells47.setIfInBounds 0 (.slice (some ⟨r, 0, none⟩) k k)).setIfInBounds 110 (.int .i64 1)) 47)).heap.size = w2.heap.size + 1 := by simp
  have hb := heap_alloc_new w2 (.cells ((Tryz.zeroCells47.setIfInBounds 0 (.slice (some ⟨r, 0, none⟩) k k)).setIfInBounds 110 (.int .i64 1)) 47)
  rw [E.out] at hb ga sz ⊢
  have g2 := G2.out.size
  have O3 := O2.out.alloc (o := .cells ((Value.slice (some ⟨r, 0, none⟩) k k) :: (vs0 ++ tlo [] 1 (.slice none 0 0) 0)).toArray 47)
  have hi : ∀ q, q ∈ List.range w.heap.size ++ [w2.heap.size] → q < w.heap.size ∨ q = w2.heap.size := fun q hq => by simpa using hq
  refine ⟨w2.heap.size, more [] w.heap.size (w2.heap.size + 1), rfl, ⟨List.range w.heap.size ++ [w2.heap.size], .slice (some ⟨r, 0, none⟩) k k, vs0, .slice none 0 0, [], ⟨⟨hb, by simp [vs0], ?_, fun p hp => ⟨.slice none 0 0, (by unfold vs0; rw [List.getElem?_replicate, if_pos hp]), Fx.nil _ _⟩, (by simp), fun q hq => ?_⟩, fun q hq hn => ?_, (more_in (by omega)).2 (.inr (by omega)), fun q hq => ?_, fun q hq => (by cases hq), Lp.nil _ _, fun o ho => (by simp at ho), rfl⟩⟩, fun q hq => ?_, G2.out.trans ga⟩
  · refine ⟨some ⟨r, 0, none⟩, k, k, rfl, li.rd_own O3, fun ad e h0 hm => ?_, Nat.le_refl _, by unfold maxLen; omega⟩
    injection e with e
    subst e
    have h3 := O2.out.lt r rfl
    rcases hi _ hm with h4 | h4
    · have : r < w.heap.size := h4
      omega
    · have : r = w2.heap.size := h4
      omega
  · rw [sz]
    rcases hi q hq with h | h <;> omega
  · rw [sz] at hq
    by_cases h : w.heap.size ≤ q
    · exact absurd ((more_in (V := []) (a := w.heap.size) (b := w2.heap.size + 1) (by omega)).2 (.inr ⟨h, hq⟩)) hn
    · simp
      omega
  · rw [sz]
    have := (more_in (V := []) (by omega)).1 hq
    simp at this
    omega
  · have := (more_in (V := []) (by omega)).1 hq
    simp at this
    omega
end
end Go.Proofs.YtacjleladjgkeaaGreatDoor.ph
