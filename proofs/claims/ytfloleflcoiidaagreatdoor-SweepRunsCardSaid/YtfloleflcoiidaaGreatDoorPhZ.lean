/- Joined: PhH, PhI. -/
import Derived.Test.YtfloleflcoiidaaGreatDoorPhY
import Derived.Test.YtfloleflcoiidaaGreatDoorCsQ
/- The plain heap: Fast, open. -/
namespace Go.Proofs.YtfloleflcoiidaaGreatDoor.ph
open Go.ChangeShapes Go.WideShapes Go.ChangeAt Go.RowKit gen calls cls geos ce bo st
set_option linter.unusedVariables false
set_option maxHeartbeats 8000000
set_option maxRecDepth 100000
/-- What a plain heap by lists is. -/
structure Qi (y : Hq) : Prop where
  ks : pg.Ks y.ks
  len : y.ks.length ≤ 64
  T : y.T ≤ 9
  cnt : y.cnt < 1099511627776
  few : y.ob.length ≤ 4096
  up : Up y.ob
  good : ca.Good y.T y.own
section
variable {w w' w1 : World} {K K' V M X : List Nat} {H : Nat} {vk vo vo' : Value} {vs : List Value} {os os' : List Pb} {y y' : Hq} {v : Value} {e : Ending}
theorem ofn_nat (n : Int) : ∃ k : Nat, ofn n = k ∧ k ≤ 5 := by have := ofn_wide n; exact ⟨(ofn n).toNat, by omega, by omega⟩
theorem page_range (G : ca.Good y.T y.own) (t k : Int) : -1 ≤ ca.page y.own t k ∧ ca.page y.own t k < 64 := by
  unfold ca.page
  split
  · rename_i o h
    have := G.bnd o (List.mem_of_find?_eq_some h)
    omega
  · omega
/-- The thread's page has no free cell, or there is none. -/
theorem rFast_no (h : Ph w K V H vk vs vo os y) (Q : Qi y) {t n : Nat} (ht : t < y.T) (hn : n ≤ 15) (hno : 1 ≤ pg.kind y.ks (ca.page y.own t (ofn n)) ∧ pg.kind y.ks (ca.page y.own t (ofn n)) ≤ 4 → y.fr (ca.page y.own t (ofn n)).toNat = []) :
    Calls Tryz.prog 59 #[.pointer (some ⟨H, 0, none⟩), .int .i64 t, .int .i64 n] w fun e w' => e = .returned (.int .i64 (-1)) ∧ w.grownBy w' none := by
  obtain ⟨⟨k1, k4⟩, _, _⟩ := cl_ofn (n := n) (by omega) (by omega)
  obtain ⟨k, hk, _⟩ := ofn_nat n
  have PR := page_range Q.good t (ofn n)
  have OF := Lib.hid (fun W => rOf_any n W)
  have SZ := Lib.hid (fun W => pg.rsz_any (ofn n) W (by simp [fits]; omega))
  obtain ⟨z, hz, z2, _⟩ := sz_some (k := ofn n) ⟨k1, k4⟩
  rw [hz] at SZ
  have CT := Lib.hid (fun W (hg : w.grownBy W none) => (h.gr (Gr.new (L := []) hg) (by simp)).cT)
  have CO := Lib.hid (fun W (hg : w.grownBy W none) => (h.gr (Gr.new (L := []) hg) (by simp)).own_at (t := t) (k := k) (by have := Q.T; omega) (by omega))
  have TK := Lib.hid (fun W (hg : w.grownBy W none) => rTake_no (h.gr (Gr.new (L := []) hg) (by simp)).hh Q.ks Q.len (ca.page y.own t (ofn n)) (by
    unfold lef
    split
    · rename_i hh
      rw [hno hh]
      rfl
    · rfl))
  rw [hk] at TK PR OF SZ
  obtain ⟨p, hp⟩ : ∃ p, ca.page y.own t k = p := ⟨_, rfl⟩
  rw [hp] at TK PR CO
  obtain ⟨T, hT⟩ : ∃ T, y.T = T := ⟨_, rfl⟩
  rw [hT] at CT ht
  have T9 : T ≤ 9 := by have := Q.T; omega
  have t1 : decide ((t : Int) < 0) = false := by simp
  have t2 : ¬ ((T : Int) ≤ t) := by omega
  have t3 : ((z : Int) == 0) = false := by simp; omega
  have l1 : (0 : Int) ≤ (t : Int) := by omega
  have l2 : (t : Int) < 9 := by omega
  have l3 : (0 : Int) ≤ (k : Int) := by omega
  have l4 : (k : Int) < 5 := by omega
  have p1 := PR.1
  have p2 := PR.2
  clear h Q hno hk hp hT PR hz
  by_cases hp0 : p = -1
  · subst hp0
    go_enter Tryz.func59, Tryz.ntmps59
    go_wp2_with (first
      | (go_at_call 55; (with_reducible refine (OF.out _).mono ?_); rintro e w2 ⟨rfl, hb⟩; have G2 := Lib.hid (pg.below_grown hb); have c2 := CT.out _ G2.out; clear hb)
      | (go_at_call 87; (with_reducible refine (SZ.out _).mono ?_); rintro e w3 ⟨rfl, hg⟩; have G3 := Lib.hid (G2.out.trans hg); have c3 := CO.out _ G3.out; clear hg))
    go_ret
    exact ⟨rfl, G3.out⟩
  · have t4 : (p + 1 == 0) = false := by simp; omega
    clear hp0
    go_enter Tryz.func59, Tryz.ntmps59
    go_wp2_with (first
      | (go_at_call 55; (with_reducible refine (OF.out _).mono ?_); rintro e w2 ⟨rfl, hb⟩; have G2 := Lib.hid (pg.below_grown hb); have c2 := CT.out _ G2.out; clear hb)
      | (go_at_call 87; (with_reducible refine (SZ.out _).mono ?_); rintro e w3 ⟨rfl, hg⟩; have G3 := Lib.hid (G2.out.trans hg); have c3 := CO.out _ G3.out; clear hg)
      | (go_at_call 90; (with_reducible refine (TK.out _ G3.out).mono ?_); rintro e w4 ⟨rfl, hg⟩; have G4 := Lib.hid (G3.out.trans hg); clear hg))
    go_ret
    exact ⟨rfl, G4.out⟩
/-- From the thread's page. -/
theorem rFast_yes (h : Ph w K V H vk vs vo os y) (Q : Qi y) {t n p a z : Nat} {f : Int} {rest : List Int} (ht : t < y.T) (hn : n ≤ 15) (hp : ca.page y.own t (ofn n) = p) (hk : pg.kind y.ks p = ofn n) (hfr : y.fr p = f :: rest) (hf : 0 ≤ f ∧ f < 16) (ha : (a : Int) = p * 32 + f * sz (ofn n)) (hz : sz (ofn n) = z) (hne : ∀ o ∈ y.ob, o.1 ≠ a) :
    Calls Tryz.prog 59 #[.pointer (some ⟨H, 0, none⟩), .int .i64 t, .int .i64 n] w (Pa K H (.int .i64 a) (Hq.begun { y with fr := upd y.fr p rest } a n) w) := by
  obtain ⟨⟨k1, k4⟩, _, _⟩ := cl_ofn (n := n) (by omega) (by omega)
  obtain ⟨k, hkk, _⟩ := ofn_nat n
  have OF := Lib.hid (fun W => rOf_any n W)
  have SZ := Lib.hid (fun W => pg.rsz_any (ofn n) W (by simp [fits]; omega))
  obtain ⟨z', hz', z2, _⟩ := sz_some (k := ofn n) ⟨k1, k4⟩
  obtain rfl : z = z' := by omega
  rw [hz] at SZ ha
  have CT := Lib.hid (fun W (hg : w.grownBy W none) => (h.gr (Gr.new (L := []) hg) (by simp)).cT)
  have CO := Lib.hid (fun W (hg : w.grownBy W none) => (h.gr (Gr.new (L := []) hg) (by simp)).own_at (t := t) (k := k) (by have := Q.T; omega) (by omega))
  have HP := Lib.hid (fun W (hg : w.grownBy W none) => h.gr (Gr.new (L := []) hg) (by simp))
  have TK := Lib.hid (fun W (hg : w.grownBy W none) => rTake_yes (h.gr (Gr.new (L := []) hg) (by simp)).hh Q.ks Q.len (p := p) (a := a) (z := z) (by omega) hfr hf ha (by rw [hk]; exact hz))
  have BG := Lib.hid (fun W K1 V1 vk1 vs1 (h1 : Ph W K1 V1 H vk1 vs1 vo os { y with fr := upd y.fr p rest }) => rbegin_pl h1 (a := a) (n := n) (by omega) Q.cnt Q.few Q.up hne)
  rw [← hkk, hp] at CO
  have p64 : p < 64 := by have := page_range Q.good t (ofn n); omega
  rw [hkk] at OF SZ
  obtain ⟨T, hT⟩ : ∃ T, y.T = T := ⟨_, rfl⟩
  rw [hT] at CT ht
  have T9 : T ≤ 9 := by have := Q.T; omega
  have t1 : decide ((t : Int) < 0) = false := by simp
  have t2 : ¬ ((T : Int) ≤ t) := by omega
  have t3 : ((z : Int) == 0) = false := by simp; omega
  have l1 : (0 : Int) ≤ (t : Int) := by omega
  have l2 : (t : Int) < 9 := by omega
  have l3 : (0 : Int) ≤ (k : Int) := by omega
  have l4 : (k : Int) < 5 := by omega
  have t4 : ((p : Int) + 1 == 0) = false := by simp; omega
  have p1 : (0 : Int) ≤ p := by omega
  have p2 : (p : Int) < 64 := by omega
  have t5 : decide ((a : Int) ≥ 0) = true := by simp
  have t6 : (0 : Int) ≤ (a : Int) := by omega
  clear h Q hp hk hfr hf ha hz hne hkk hT hz'
  go_enter Tryz.func59, Tryz.ntmps59
  go_wp2_with (first
    | (go_at_call 55; (with_reducible refine (OF.out _).mono ?_); rintro e w2 ⟨rfl, hb⟩; have G2 := Lib.hid (pg.below_grown hb); have c2 := CT.out _ G2.out; clear hb)
    | (go_at_call 87; (with_reducible refine (SZ.out _).mono ?_); rintro e w3 ⟨rfl, hg⟩; have G3 := Lib.hid (G2.out.trans hg); have c3 := CO.out _ G3.out; clear hg)
    | (go_at_call 90; (with_reducible refine (TK.out _ G3.out).mono ?_); rintro e w4 ⟨vk4, vs4, rfl, hh, hg⟩; have P4 := Lib.hid ((HP.out _ G3.out).heap hh hg); have G4 := Lib.hid ((Gr.new (L := K) G3.out).trans (hg.mono (fun q hq => by simp at hq; subst hq; exact (HP.out _ G3.out).hk))); have S4 := Lib.hid hg.size; clear hh hg)
    | (go_at_call 58; (with_reducible refine (BG.out _ _ _ _ _ P4.out).mono ?_); rintro e w5 ⟨rfl, hb⟩; have R5 := Lib.hid hb; clear hb))
  go_ret
  exact Pa.after (fun q hq => (more_or S4.out hq).imp id (fun e => Nat.le_trans G3.out.size e)) G4.out ⟨rfl, R5.out⟩
/-- A page with room that is nobody's. -/
def rfit (y : Hq) (k p : Int) : Bool := (pg.kind y.ks p == k) && decide (0 < (y.fr p.toNat).length) && decide ((ca.owner y.own p).1 < 0)
theorem ropen_any (h : Ph w K V H vk vs vo os y) (Q : Qi y) {k : Int} (hk : 1 ≤ k ∧ k ≤ 4) {z : Int}
    (hyes : ∀ p : Nat, p < y.ks.length → rfit y k p = true → (∀ q : Nat, q < p → rfit y k q = false) → z = p)
    (CV : (∀ q : Nat, q < y.ks.length → rfit y k q = false) → ∀ W, w.grownBy W none → Calls Tryz.prog 92 #[.pointer (some ⟨H, 0, none⟩), .int .i64 k] W (Pa K H (.int .i64 z) y' W))
    (hsame : ∀ p : Nat, p < y.ks.length → rfit y k p = true → y' = y) :
    Calls Tryz.prog 60 #[.pointer (some ⟨H, 0, none⟩), .int .i64 k] w (Pa K H (.int .i64 z) y' w) := by
  have HP := Lib.hid (fun W (hg : w.grownBy W none) => h.gr (Gr.new (L := []) hg) (by simp))
  have OW := Lib.hid (fun (p : Nat) (hp : p < 64) => rOwner_any h Q.good Q.T hp)
  have len64 := Q.len
  have c0 := h.hh.h0
  have FRE := Lib.hid h.hh.fre
  have HAT := Lib.hid (fun (p : Nat) v (hp : (vs[p]? = some v)) => h.hh.at hp)
  obtain ⟨A, m, c, rfl, hr, ha, hm, hc⟩ := h.hh.kd
  have HR := Lib.hid hr
  obtain ⟨N, hN⟩ : ∃ N, y.ks.length = N := ⟨_, rfl⟩
  obtain rfl : N = m := by have := hr.1; omega
  rw [hN] at len64
  have HY := Lib.hid hyes
  have HCV := Lib.hid CV
  have HS := Lib.hid hsame
  have HN := Lib.hid hN
  have PL := Lib.hid (⟨_, _, _, _, _, h⟩ : Pl w K H y)
  unfold maxLen at hc
  clear h Q hr ha hyes CV hsame hN
  go_enter Tryz.func60, Tryz.ntmps60
  go_wp2
  go_loopw [5] (fun i wr => ∃ p : Nat, p ≤ N ∧ i = .int .i64 p ∧ (∀ q : Nat, q < p → rfit y k q = false) ∧ w = wr) (fun i _ => N - (intOf i).toNat)
  case atStart => exact ⟨0, Nat.zero_le _, rfl, fun q hq => absurd hq (by omega), rfl⟩
  case round =>
    obtain ⟨p, hp, rfl, hq, rfl⟩ := hrel
    have HQ := Lib.hid hq
    clear hq
    by_cases hlt : p < N
    · obtain ⟨b1, o1, rfl, g0⟩ := HR.out.at_ (k := p) hlt
      rw [← pg.kind_in (by have := HN.out; omega)] at g0
      obtain ⟨v, hv, A2, n2, c2, rfl, hr2, _, hn2, hc2⟩ := FRE.out p (by omega)
      have fr := HAT.out p _ hv
      have FL := hr2.1
      have OWp := Lib.hid (OW.out p (by omega))
      obtain ⟨kd, hkd⟩ : ∃ kd, pg.kind y.ks p = kd := ⟨_, rfl⟩
      obtain ⟨o, hO⟩ : ∃ o, (ca.owner y.own p).1 = o := ⟨_, rfl⟩
      have F : rfit y k p = ((kd == k) && decide (0 < n2) && decide (o < 0)) := by rw [rfit, hkd, hO, Int.toNat_natCast, FL]
      rw [hkd] at g0
      rw [hO] at OWp
      have n16 : n2 ≤ 9223372036854775807 := by unfold maxLen at hc2; omega
      have l1 : (0 : Int) ≤ (p : Int) := by omega
      have l2 : (p : Int) < N := by omega
      have l3 : (p : Int) < 64 := by omega
      clear hv hr2 hkd hO FL hn2 hc2
      cases b1' : (kd == k)
      · have FF := Lib.hid (show rfit y k p = false by rw [F, b1']; rfl)
        clear F
        go_wp2
        go_roundw
        case rel => exact ⟨p + 1, by omega, by go_num, fun q hq => if h : q < p then HQ.out q h else (show q = p by omega) ▸ FF.out, trivial⟩
        case measure => first | (simp [intOf]; done) | (simp [intOf]; omega)
      · by_cases b2 : 0 < n2
        · by_cases b3 : o < 0
          · have FF := Lib.hid (show rfit y k p = true by rw [F, b1', decide_eq_true b2, decide_eq_true b3]; rfl)
            have t3 : decide (o < 0) = true := decide_eq_true b3
            clear F b3
            go_wp2_with (go_at_call 91; (with_reducible refine OWp.out.mono ?_); rintro e w' ⟨rfl, rfl⟩)
            go_ret
            rw [HY.out p (by rw [HN.out]; exact hlt) FF.out HQ.out, HS.out p (by rw [HN.out]; exact hlt) FF.out]
            exact ⟨rfl, K, fun q hq => .inl hq, PL.out, Gr.refl _ _⟩
          · have FF := Lib.hid (show rfit y k p = false by rw [F, decide_eq_false b3]; simp)
            have t3 : decide (o < 0) = false := decide_eq_false b3
            clear F b3
            go_wp2_with (go_at_call 91; (with_reducible refine OWp.out.mono ?_); rintro e w' ⟨rfl, rfl⟩)
            go_roundw
            case rel => exact ⟨p + 1, by omega, by go_num, fun q hq => if h : q < p then HQ.out q h else (show q = p by omega) ▸ FF.out, trivial⟩
            case measure => first | (simp [intOf]; done) | (simp [intOf]; omega)
        · have FF := Lib.hid (show rfit y k p = false by rw [F, decide_eq_false b2]; simp)
          obtain rfl : n2 = 0 := by omega
          clear F
          go_wp2
          go_roundw
          case rel => exact ⟨p + 1, by omega, by go_num, fun q hq => if h : q < p then HQ.out q h else (show q = p by omega) ▸ FF.out, trivial⟩
          case measure => first | (simp [intOf]; done) | (simp [intOf]; omega)
    · obtain rfl : p = N := by omega
      have CVW := Lib.hid (HCV.out (by rw [HN.out]; exact HQ.out) w (World.grownBy.refl _ _))
      go_wp2_with (go_at_call 92; (with_reducible refine CVW.out.mono ?_); rintro e w3 ⟨rfl, hb⟩; have R3 := Lib.hid hb; clear hb)
      go_ret
      exact ⟨rfl, R3.out⟩
end
end Go.Proofs.YtfloleflcoiidaaGreatDoor.ph

/- The plain heap: Slow; Set. -/
namespace Go.Proofs.YtfloleflcoiidaaGreatDoor.ph
open Go.ChangeShapes Go.WideShapes Go.ChangeAt Go.RowKit gen calls cls geos ce bo st
set_option linter.unusedVariables false
set_option maxHeartbeats 8000000
set_option maxRecDepth 100000
section
variable {w w' w1 : World} {K K' V M X : List Nat} {H : Nat} {vk vo vo' : Value} {vs : List Value} {os os' : List Pb} {y y' : Hq} {v : Value} {e : Ending}
def two (a b : Int) : Value := .tuple #[.int .i64 a, .int .i64 b]
theorem rSlow_range (h : Ph w K V H vk vs vo os y) (t : Int) {n : Int} (hn : n < 0 ∨ 127 < n) :
    Calls Tryz.prog 30 #[.pointer (some ⟨H, 0, none⟩), .int .i64 t, .int .i64 n] w fun e w' => e = .returned (two 0 4) ∧ w.grownBy w' none := by
  have OF := Lib.hid (fun W => rOf_any n W)
  rw [of_no hn] at OF
  clear h hn
  go_enter Tryz.func30, Tryz.ntmps30
  go_wp2_with (go_at_call 55; (with_reducible refine (OF.out _).mono ?_); rintro e w2 ⟨rfl, hb⟩; have G2 := Lib.hid (pg.below_grown hb); clear hb)
  go_ret2
  exact ⟨rfl, G2.out⟩
theorem rSlow_full5 (h : Ph w K V H vk vs vo os y) (Q : Qi y) {t n N : Nat} (ht : t < y.T) (hn : 16 ≤ n ∧ n ≤ 127) (hN : pgs n = N) (hf : pg.find N 0 y.ks = none) :
    Calls Tryz.prog 30 #[.pointer (some ⟨H, 0, none⟩), .int .i64 t, .int .i64 n] w fun e w' => e = .returned (two 0 10) ∧ w.grownBy w' none := by
  have OF := Lib.hid (fun W => rOf_any n W)
  rw [(cl_ofn5 (n := n) (by omega) (by omega)).1] at OF
  have PG := Lib.hid (fun W => rPages_any n W)
  rw [hN] at PG
  have CT := Lib.hid (fun W (hg : w.grownBy W none) => (h.gr (Gr.new (L := []) hg) (by simp)).cT)
  have LG := Lib.hid (fun W (hg : w.grownBy W none) => rLarge_no (h.gr (Gr.new (L := []) hg) (by simp)).hh Q.len N (fun _ => by simpa using hf))
  obtain ⟨T, hT⟩ : ∃ T, y.T = T := ⟨_, rfl⟩
  rw [hT] at CT ht
  have t1 : decide ((t : Int) < 0) = false := by simp
  have t2 : ¬ ((T : Int) ≤ t) := by omega
  clear h Q hN hf hT hn
  go_enter Tryz.func30, Tryz.ntmps30
  go_wp2_with (first
    | (go_at_call 55; (with_reducible refine (OF.out _).mono ?_); rintro e w2 ⟨rfl, hb⟩; have G2 := Lib.hid (pg.below_grown hb); have c2 := CT.out _ G2.out; clear hb)
    | (go_at_call 57; (with_reducible refine (PG.out _).mono ?_); rintro e w3 ⟨rfl, hb⟩; have G3 := Lib.hid (G2.out.trans (pg.below_grown hb)); clear hb)
    | (go_at_call 56; (with_reducible refine (LG.out _ G3.out).mono ?_); rintro e w4 ⟨rfl, hg⟩; have G4 := Lib.hid (G3.out.trans hg); clear hg))
  go_ret2
  exact ⟨rfl, G4.out⟩
theorem rSlow_large (h : Ph w K V H vk vs vo os y) (Q : Qi y) {t n N p a : Nat} (ht : t < y.T) (hn : 16 ≤ n ∧ n ≤ 127) (hN : pgs n = N) (N1 : 1 ≤ N) (hf : pg.find N 0 y.ks = some p) (ha : a = p * 32) (hne : ∀ o ∈ y.ob, o.1 ≠ a) :
    Calls Tryz.prog 30 #[.pointer (some ⟨H, 0, none⟩), .int .i64 t, .int .i64 n] w (Pa K H (two a 0) (Hq.begun { y with ks := pg.spanN y.ks p N } a n) w) := by
  have OF := Lib.hid (fun W => rOf_any n W)
  rw [(cl_ofn5 (n := n) (by omega) (by omega)).1] at OF
  have PG := Lib.hid (fun W => rPages_any n W)
  rw [hN] at PG
  have CT := Lib.hid (fun W (hg : w.grownBy W none) => (h.gr (Gr.new (L := []) hg) (by simp)).cT)
  have HP := Lib.hid (fun W (hg : w.grownBy W none) => h.gr (Gr.new (L := []) hg) (by simp))
  have LG := Lib.hid (fun W (hg : w.grownBy W none) => rLarge_yes (h.gr (Gr.new (L := []) hg) (by simp)).hh Q.len N1 hf ha)
  have BG := Lib.hid (fun W K1 V1 vk1 vs1 (h1 : Ph W K1 V1 H vk1 vs1 vo os { y with ks := pg.spanN y.ks p N }) => rbegin_pl h1 (a := a) (n := n) (by omega) Q.cnt Q.few Q.up hne)
  obtain ⟨T, hT⟩ : ∃ T, y.T = T := ⟨_, rfl⟩
  rw [hT] at CT ht
  have t1 : decide ((t : Int) < 0) = false := by simp
  have t2 : ¬ ((T : Int) ≤ t) := by omega
  have t6 : (0 : Int) ≤ (a : Int) := by omega
  clear h Q hN hf hT hn ha hne
  go_enter Tryz.func30, Tryz.ntmps30
  go_wp2_with (first
    | (go_at_call 55; (with_reducible refine (OF.out _).mono ?_); rintro e w2 ⟨rfl, hb⟩; have G2 := Lib.hid (pg.below_grown hb); have c2 := CT.out _ G2.out; clear hb)
    | (go_at_call 57; (with_reducible refine (PG.out _).mono ?_); rintro e w3 ⟨rfl, hb⟩; have G3 := Lib.hid (G2.out.trans (pg.below_grown hb)); clear hb)
    | (go_at_call 56; (with_reducible refine (LG.out _ G3.out).mono ?_); rintro e w4 ⟨vk4, vs4, rfl, hh, hg⟩; have P4 := Lib.hid ((HP.out _ G3.out).heap hh hg); have G4 := Lib.hid ((Gr.new (L := K) G3.out).trans (hg.mono (fun q hq => by simp at hq; subst hq; exact (HP.out _ G3.out).hk))); have S4 := Lib.hid hg.size; clear hh hg)
    | (go_at_call 58; (with_reducible refine (BG.out _ _ _ _ _ P4.out).mono ?_); rintro e w5 ⟨rfl, hb⟩; have R5 := Lib.hid hb; clear hb))
  go_ret2
  exact Pa.after (fun q hq => (more_or S4.out hq).imp id (fun e => Nat.le_trans G3.out.size e)) G4.out ⟨rfl, R5.out⟩
/-- From the thread's own page. -/
theorem rSlow_fast (h : Ph w K V H vk vs vo os y) (Q : Qi y) {t n a : Nat} (ht : t < y.T) (hn : n ≤ 15)
    (FT : ∀ W, w.grownBy W none → Calls Tryz.prog 59 #[.pointer (some ⟨H, 0, none⟩), .int .i64 t, .int .i64 n] W (Pa K H (.int .i64 a) y' W)) :
    Calls Tryz.prog 30 #[.pointer (some ⟨H, 0, none⟩), .int .i64 t, .int .i64 n] w (Pa K H (two a 0) y' w) := by
  obtain ⟨⟨k1, k4⟩, _, _⟩ := cl_ofn (n := n) (by omega) (by omega)
  obtain ⟨k, hkk, _⟩ := ofn_nat n
  have OF := Lib.hid (fun W => rOf_any n W)
  rw [hkk] at OF
  have CT := Lib.hid (fun W (hg : w.grownBy W none) => (h.gr (Gr.new (L := []) hg) (by simp)).cT)
  have FF := Lib.hid FT
  obtain ⟨T, hT⟩ : ∃ T, y.T = T := ⟨_, rfl⟩
  rw [hT] at CT ht
  have t1 : decide ((t : Int) < 0) = false := by simp
  have t2 : ¬ ((T : Int) ≤ t) := by omega
  have t3 : ((k : Int) == 0) = false := by simp; omega
  have t4 : ((k : Int) == 5) = false := by simp; omega
  have t6 : (0 : Int) ≤ (a : Int) := by omega
  clear h Q hT hn FT hkk k1 k4
  go_enter Tryz.func30, Tryz.ntmps30
  go_wp2_with (first
    | (go_at_call 55; (with_reducible refine (OF.out _).mono ?_); rintro e w2 ⟨rfl, hb⟩; have G2 := Lib.hid (pg.below_grown hb); have c2 := CT.out _ G2.out; clear hb)
    | (go_at_call 59; (with_reducible refine (FF.out _ G2.out).mono ?_); rintro e w3 ⟨rfl, hb⟩; have R3 := Lib.hid hb; clear hb))
  go_ret2
  exact Pa.after (fun q hq => .inl hq) (Gr.new G2.out) ⟨rfl, R3.out⟩
/-- There is no page for it. -/
theorem rSlow_full (h : Ph w K V H vk vs vo os y) (Q : Qi y) {t n : Nat} (ht : t < y.T) (hn : n ≤ 15)
    (FT : ∀ W, w.grownBy W none → Calls Tryz.prog 59 #[.pointer (some ⟨H, 0, none⟩), .int .i64 t, .int .i64 n] W fun e w' => e = .returned (.int .i64 (-1)) ∧ W.grownBy w' none)
    (OP : ∀ W, w.grownBy W none → Calls Tryz.prog 60 #[.pointer (some ⟨H, 0, none⟩), .int .i64 (ofn n)] W (Pa K H (.int .i64 (-1)) y W)) :
    Calls Tryz.prog 30 #[.pointer (some ⟨H, 0, none⟩), .int .i64 t, .int .i64 n] w (Pa K H (two 0 10) y w) := by
  obtain ⟨⟨k1, k4⟩, _, _⟩ := cl_ofn (n := n) (by omega) (by omega)
  obtain ⟨k, hkk, _⟩ := ofn_nat n
  have OF := Lib.hid (fun W => rOf_any n W)
  rw [hkk] at OF OP
  have CT := Lib.hid (fun W (hg : w.grownBy W none) => (h.gr (Gr.new (L := []) hg) (by simp)).cT)
  have FF := Lib.hid FT
  have FO := Lib.hid OP
  obtain ⟨T, hT⟩ : ∃ T, y.T = T := ⟨_, rfl⟩
  rw [hT] at CT ht
  have t1 : decide ((t : Int) < 0) = false := by simp
  have t2 : ¬ ((T : Int) ≤ t) := by omega
  have t3 : ((k : Int) == 0) = false := by simp; omega
  have t4 : ((k : Int) == 5) = false := by simp; omega
  clear h Q hT hn FT OP hkk k1 k4
  go_enter Tryz.func30, Tryz.ntmps30
  go_wp2_with (first
    | (go_at_call 55; (with_reducible refine (OF.out _).mono ?_); rintro e w2 ⟨rfl, hb⟩; have G2 := Lib.hid (pg.below_grown hb); have c2 := CT.out _ G2.out; clear hb)
    | (go_at_call 59; (with_reducible refine (FF.out _ G2.out).mono ?_); rintro e w3 ⟨rfl, hb⟩; have G3 := Lib.hid (G2.out.trans hb); clear hb)
    | (go_at_call 60; (with_reducible refine (FO.out _ G3.out).mono ?_); rintro e w4 ⟨rfl, hb⟩; have R4 := Lib.hid hb; clear hb))
  go_ret2
  exact Pa.after (fun q hq => .inl hq) (Gr.new G3.out) ⟨rfl, R4.out⟩
/-- From another page, which is the thread's then. -/
theorem rSlow_more (h : Ph w K V H vk vs vo os y) (Q : Qi y) {t n p a z : Nat} {f : Int} {rest : List Int} (ht : t < y.T) (hn : n ≤ 15)
    (FT : ∀ W, w.grownBy W none → Calls Tryz.prog 59 #[.pointer (some ⟨H, 0, none⟩), .int .i64 t, .int .i64 n] W fun e w' => e = .returned (.int .i64 (-1)) ∧ W.grownBy w' none)
    (OP : ∀ W, w.grownBy W none → Calls Tryz.prog 60 #[.pointer (some ⟨H, 0, none⟩), .int .i64 (ofn n)] W (Pa K H (.int .i64 p) y' W))
    (p64 : p < 64) {y2 : Hq} (e2 : y2 = { y' with own := ca.rest y'.own t (ofn n) ++ [((t : Int), ofn n, (p : Int))] }) (Q2 : Qi y2) (hT2 : y2.T = y.T) (hp : ca.page y2.own t (ofn n) = p) (hk : pg.kind y2.ks p = ofn n) (hfr : y2.fr p = f :: rest) (hf : 0 ≤ f ∧ f < 16) (ha : (a : Int) = p * 32 + f * sz (ofn n)) (hz : sz (ofn n) = z) (hne : ∀ o ∈ y2.ob, o.1 ≠ a) :
    Calls Tryz.prog 30 #[.pointer (some ⟨H, 0, none⟩), .int .i64 t, .int .i64 n] w (Pa K H (two a 0) (Hq.begun { y2 with fr := upd y2.fr p rest } a n) w) := by
  obtain ⟨⟨k1, k4⟩, _, _⟩ := cl_ofn (n := n) (by omega) (by omega)
  obtain ⟨k, hkk, _⟩ := ofn_nat n
  have T9 : y.T ≤ 9 := Q.T
  have OF := Lib.hid (fun W => rOf_any n W)
  have F2 := Lib.hid (fun W K1 V1 vk1 vs1 vo1 os1 (h1 : Ph W K1 V1 H vk1 vs1 vo1 os1 y2) => rFast_yes h1 Q2 (t := t) (by omega) hn hp hk hfr hf ha hz hne)
  have OWN := Lib.hid (fun W K1 (h1 : Pl W K1 H y') => (show (W.cell? ⟨H, 65 + t * 5 + k, none⟩ = some (.int .i64 (ca.page y'.own t k + 1)) ∧ W.frozen? ⟨H, 65 + t * 5 + k, none⟩ = false ∧ H < W.heap.size) ∧ ∃ V1 vk1 vs1 vo1 os1, Ph (W.setCell ⟨H, 65 + t * 5 + k, none⟩ (.int .i64 ((p : Int) + 1))) K1 V1 H vk1 vs1 vo1 os1 y2 from by
    obtain ⟨V1, vk1, vs1, vo1, os1, h1⟩ := h1
    refine ⟨⟨h1.own_at (by omega) (by omega), h1.fz _, h1.HK⟩, V1, vk1, vs1, vo1, os1, ?_⟩
    rw [e2, hkk]
    exact h1.owned (t := t) (k := k) (by omega) (by omega) (by omega) p))
  rw [hkk] at OF OP
  have CT := Lib.hid (fun W (hg : w.grownBy W none) => (h.gr (Gr.new (L := []) hg) (by simp)).cT)
  have HK := Lib.hid h.hk
  have FF := Lib.hid FT
  have FO := Lib.hid OP
  obtain ⟨T, hT⟩ : ∃ T, y.T = T := ⟨_, rfl⟩
  rw [hT] at CT ht T9
  have t1 : decide ((t : Int) < 0) = false := by simp
  have t2 : ¬ ((T : Int) ≤ t) := by omega
  have t3 : ((k : Int) == 0) = false := by simp; omega
  have t4 : ((k : Int) == 5) = false := by simp; omega
  have l1 : (0 : Int) ≤ (t : Int) := by omega
  have l2 : (t : Int) < 9 := by omega
  have l3 : (0 : Int) ≤ (k : Int) := by omega
  have l4 : (k : Int) < 5 := by omega
  have t5 : (0 : Int) ≤ (p : Int) := by omega
  have t6 : (p : Int) < 64 := by omega
  clear h Q hT hn FT OP hkk k1 k4 hp hk hfr hf ha hz hne Q2 hT2 e2 p64
  go_enter Tryz.func30, Tryz.ntmps30
  go_wp2_with (first
    | (go_at_call 55; (with_reducible refine (OF.out _).mono ?_); rintro e w2 ⟨rfl, hb⟩; have G2 := Lib.hid (pg.below_grown hb); have c2 := CT.out _ G2.out; clear hb)
    | (have mark := R4; go_at_call 59; (with_reducible refine (F2.out _ _ _ _ _ _ _ R5.out).mono ?_); rintro e w6 ⟨rfl, hb⟩; have R6 := Lib.hid hb; clear hb)
    | (go_at_call 59; (with_reducible refine (FF.out _ G2.out).mono ?_); rintro e w3 ⟨rfl, hb⟩; have G3 := Lib.hid (G2.out.trans hb); clear hb)
    | (go_at_call 60; (with_reducible refine (FO.out _ G3.out).mono ?_); rintro e w4 ⟨rfl, K4, hk4, hp4, hg4⟩; have R4 := Lib.hid hk4; have G4 := Lib.hid hg4; obtain ⟨⟨d0, d1, d2⟩, V5, vk5, vs5, vo5, os5, h5⟩ := OWN.out _ _ hp4; have R5 := Lib.hid h5; clear hk4 hp4 hg4 h5))
  go_ret2
  refine Pa.after (K' := K4) (fun q hq => (R4.out q hq).imp id (fun e => Nat.le_trans G3.out.size e)) (((Gr.new G3.out).trans G4.out).trans (.set _ _ _ _ HK.out)) ⟨rfl, R6.out⟩
end
end Go.Proofs.YtfloleflcoiidaaGreatDoor.ph
