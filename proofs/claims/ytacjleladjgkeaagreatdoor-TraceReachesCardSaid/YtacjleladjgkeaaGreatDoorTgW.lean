/- Joined: TgL, TgM. -/
import Derived.Test.YtacjleladjgkeaaGreatDoorTgV
import Derived.Test.YtacjleladjgkeaaGreatDoorTcY
/- The plain grey over the plain heap: Unit that looks at a page. (Printed by genTgL.py.) -/
namespace Go.Proofs.YtacjleladjgkeaaGreatDoor.sh
open Go.ChangeShapes Go.WideShapes Go.ChangeAt Go.RowKit gen li en gr
set_option linter.unusedVariables false
set_option maxHeartbeats 16000000
set_option maxRecDepth 100000
section
variable {pp : Int} {w w' W w1 : World} {M r B H N c : Nat} {J J' L K V : List Nat} {s s' : Ps} {v v' : Value} {e : Ending} {y : ph.Hq}
/-- The plain heap's objects: where they lie, no address twice. -/
structure Yi (y : ph.Hq) : Prop where
  at_ : ∀ o ∈ y.ob, 0 ≤ o.1 ∧ o.1 ≤ 2047
  few : y.ob.length ≤ 2048
theorem inq_ob {l : List ph.Ob3} {p a : Int} (h : a ∈ ph.inq l p) : ∃ o ∈ l, o.1 = a := by
  unfold ph.inq at h
  rw [List.mem_map] at h
  obtain ⟨o, h1, h2⟩ := h
  exact ⟨o, (List.mem_filter.1 h1).1, h2⟩
theorem fq_some {l : List ph.Ob3} {a : Int} (h : ∃ o ∈ l, o.1 = a) : ∃ (i : Nat) (o : ph.Ob3), fq l a = some o.2.2 ∧ ph.Fnd l a i ∧ l[i]? = some o ∧ o.1 = a := by
  rcases fq_cases l a with ⟨_, h2⟩ | h2
  · rcases h2 with ⟨_, h2⟩ | ⟨i, h2, _⟩
    · obtain ⟨o, ho, e⟩ := h
      obtain ⟨j, hj, e2⟩ := List.mem_iff_getElem.1 ho
      exact absurd e (h2 j o (by rw [List.getElem?_eq_getElem hj, e2]))
    · omega
  · exact h2
theorem isb_nat (ws : List Nat) {a : Nat} (h : a < 2048) : isb ws a = bm.bit ws a := by
  unfold isb
  rw [decide_eq_true (by omega), decide_eq_true (by omega), Int.toNat_natCast]
  rfl
theorem lokq_yes {F : Int → Option (List (Int × Int))} {a : Int} {l : List (Int × Int)} (h1 : isb s.ws a = true) (h2 : F a = some l) : tc.lok r F s a = tc.shl r s l := by unfold tc.lok; rw [if_pos h1, h2]; rfl
theorem lokq_no {F : Int → Option (List (Int × Int))} {a : Int} (h1 : isb s.ws a = false) : tc.lok r F s a = s := by unfold tc.lok; rw [if_neg (by rw [h1]; decide)]
theorem rIn_pl (h : ph.Pl w K H y) (Y : Yi y) (p : Int) : Calls Tryz.prog 72 #[.pointer (some ⟨H, 0, none⟩), .int .i64 p] w (li.ListAns (ph.inq y.ob p) w) := by
  obtain ⟨V, vk, vs, vo, os, h⟩ := h
  exact ph.rIn_any h Y.at_ Y.few p
theorem rIn_n (h : ph.Pl w K H y) (Y : Yi y) {p : Int} {n : Nat} (hn : (ph.inq y.ob p).length = n) : Calls Tryz.prog 72 #[.pointer (some ⟨H, 0, none⟩), .int .i64 p] w fun e w' => ∃ A c, e = .returned (.slice A n c) ∧ w'.ownsRow w.heap.size 3 1 (.slice A n c) n (li.ints (ph.inq y.ob p)) ∧ w.grownBy w' none := by
  subst hn
  exact rIn_pl h Y p
theorem Bk.cells (h : Bk pp w J M r s) : w.cell? ⟨M, 2051, none⟩ = some (.int .i64 pp) ∧ (∀ k, w.frozen? ⟨M, k, none⟩ = false) ∧ M < w.heap.size ∧ (∀ i : Nat, i < 2048 → w.cell? ⟨M, i, none⟩ = some (.bool (bm.bit s.ws i))) ∧ w.cell? ⟨M, 2050, none⟩ = some (.bool s.b) := by
  obtain ⟨v, h, _⟩ := h
  exact ⟨h.c3, h.free, h.lt, fun i hi => h.mark hi, h.c2⟩
theorem Bk.page (h : Bk pp w J M r s) (p' : Int) : Bk p' (w.setCell ⟨M, 2051, none⟩ (.int .i64 p')) J M r s ∧ Gr J w (w.setCell ⟨M, 2051, none⟩ (.int .i64 p')) := by
  obtain ⟨v, h, rfl⟩ := h
  obtain ⟨h1, h2⟩ := h.put_page p'
  exact ⟨⟨v, h1, rfl⟩, h2⟩
theorem Bk.over (h : Bk pp w J M r s) (b : Bool) : Bk pp (w.setCell ⟨M, 2050, none⟩ (.bool b)) J M r ⟨s.ws, s.m, b⟩ ∧ Gr J w (w.setCell ⟨M, 2050, none⟩ (.bool b)) := by
  obtain ⟨v, h, rfl⟩ := h
  obtain ⟨h1, h2⟩ := h.put_over b
  exact ⟨⟨v, h1, rfl⟩, h2⟩
theorem Gp.bk' {p' : Int} (h : Gp w K H y J M r s pp) (hb : Bk p' w' J M r s') (hg : Gr J w w') : Gp w' K H y J M r s' p' := h.grey (fun q hq => .inl hq) hb hg
theorem rUnit_look (h : Gp w K H y J M r s pp) (Y : Yi y) (hm : s.m = []) (hp : 0 ≤ pp ∧ pp < N) (hN : 1 ≤ N ∧ N ≤ 64) (c : Int) :
    Calls Tryz.prog 36 #[.pointer (some ⟨M, 0, none⟩), .pointer (some ⟨H, 0, none⟩), .int .i64 N, .int .i64 c] w (Ba (tc.looked r N (fq y.ob) (ph.inq y.ob) s pp).p J M r (.bool true) (tc.looked r N (fq y.ob) (ph.inq y.ob) s pp).s w) := by
  have ID := Lib.hid (rIdle_any h.bk)
  rw [show tc.Ts.idle ⟨s, pp⟩ = false by unfold tc.Ts.idle; simp [hm]; omega] at ID
  have PO := Lib.hid (rPop_any h.bk)
  rw [show decide (s.m ≠ []) = false by simp [hm], show top s.m = (0, 0) by rw [hm]; rfl, tc.pop_nil hm] at PO
  have HG := Lib.hid h
  obtain ⟨k0, hk0⟩ : ∃ k0, (ph.inq y.ob pp).length = k0 := ⟨_, rfl⟩
  have IN := Lib.hid (fun W J1 s1 p1 (h1 : Gp W K H y J1 M r s1 p1) => rIn_n h1.pl Y hk0)
  have OBS := Lib.hid (fun a (ha : a ∈ ph.inq y.ob pp) => (show ∃ (A i : Nat) (o : ph.Ob3), a = A ∧ A < 2048 ∧ fq y.ob a = some o.2.2 ∧ ph.Fnd y.ob a i ∧ y.ob[i]? = some o ∧ o.2.2.length ≤ 127 from by
    obtain ⟨i, o, f1, f2, f3, f4⟩ := fq_some (inq_ob ha)
    have := Y.at_ o (List.mem_of_getElem? f3)
    exact ⟨a.toNat, i, o, by omega, by omega, f1, f2, f3, h.few o (List.mem_of_getElem? f3)⟩))
  have ML := Lib.hid (show k0 ≤ 2048 from by have := ph.inq_len y.ob pp; have := Y.few; omega)
  have GM := Lib.hid (fun k (hk : k < k0) => li.getD_mem (xs := ph.inq y.ob pp) (k := k) (by omega) 0)
  have TM := Lib.hid (fun k (hk : k < k0) => li.take_more (xs := ph.inq y.ob pp) (k := k) (by omega) 0)
  have FU := Lib.hid (show ph.inq y.ob pp = (ph.inq y.ob pp).take k0 by rw [List.take_of_length_le (by omega)])
  have p1 : decide (pp < 0) = false := decide_eq_false (by omega)
  have NP := Lib.hid (show (tc.looked r N (fq y.ob) (ph.inq y.ob) s pp).p = if pp + 1 < N then pp + 1 else -1 from rfl)
  have p2 : 0 ≤ pp := hp.1
  have p3 : pp < 64 := by omega
  have NS := Lib.hid (show (tc.looked r N (fq y.ob) (ph.inq y.ob) s pp).s = (ph.inq y.ob pp).foldl (tc.lok r (fq y.ob)) s from rfl)
  have KL := Lib.hid (fun W (h1 : ph.Pl W K H y) => h1.lt)
  have hN1 : (1 : Int) ≤ N := by omega
  have hN2 : (N : Int) ≤ 64 := by omega
  generalize ph.inq y.ob pp = l at *
  generalize fq y.ob = F at *
  generalize hlk : tc.looked r N F (ph.inq y.ob) s pp = lk at *
  have HLK := Lib.hid hlk
  clear h Y hm hk0 hp hN hlk
  go_enter Tryz.func36, Tryz.ntmps36
  go_wp2_with (first
    | (go_at_call 35; (with_reducible refine ID.out.mono ?_); rintro e w' ⟨rfl, rfl⟩)
    | (go_at_call 70; (with_reducible refine PO.out.mono ?_); rintro e w2 ⟨rfl, J2, h1, h2, h3⟩; have G2 := Lib.hid (World.grownBy_alloc w2 (.cells #[.int .i64 0, .int .i64 0] 115) none); have HJ2 := Lib.hid (fun q hq => (h1 q hq : q ∈ J ∨ w.heap.size ≤ q)); have T2 := Lib.hid ((HG.out.grey h1 h2 h3).new G2.out); have R2 := Lib.hid ((show ce.Gr J w w2 from h3).made G2.out); have d3 := T2.out.bk.cells.1; clear h1 h2 h3)
    | (go_at_call 72; (with_reducible refine (IN.out _ _ _ _ T2.out).mono ?_); rintro e w3 ⟨A, d, rfl, ho, hg⟩; have O3 := Lib.hid ho; have T3 := Lib.hid (T2.out.new hg); have R3 := Lib.hid (R2.out.made hg); have JL := Lib.hid T2.out.bk.lt; clear ho hg))
  go_loopw [12, 13, 14] (fun i _ _ wr => ∃ (k : Nat) (J1 : List Nat), k ≤ k0 ∧ i = .int .i64 k ∧ (∀ q, q ∈ J1 → q ∈ J2 ∨ w3.heap.size ≤ q) ∧ Gp wr K H y J1 M r ((l.take k).foldl (tc.lok r F) s) pp ∧ ce.Gr J2 w3 wr) (fun i _ _ _ => k0 - (intOf i).toNat)
  case atStart => exact ⟨0, J2, Nat.zero_le _, rfl, fun q hq => .inl hq, T3.out, ce.Gr.refl _ _⟩
  case round =>
    obtain ⟨k, J1, hk, rfl, hj1, hT1, hg1⟩ := hrel
    have T1 := Lib.hid hT1
    have HJ1 := Lib.hid hj1
    have G1 := Lib.hid hg1
    have ml := ML.out
    clear hT1 hj1 hg1
    by_cases hlt : k < k0
    · obtain ⟨b1, o1, rfl, g1⟩ := (li.rd_own (ph.row_gr O3.out G1.out (fun q hq hm => by have := JL.out q hm; have := own_base O3.out q hq; omega))).at_ hlt
      obtain ⟨a, i, o, ha, a2, f1, f2, f3, f4⟩ := OBS.out _ (GM.out k hlt)
      rw [ha] at g1 f1 f2
      have M1 := Lib.hid ((TM.out k hlt).trans (by rw [ha]))
      clear ha
      obtain ⟨_, _, m3, m4, _⟩ := T1.out.bk.cells
      have mk := m4 a a2
      have l1 : (0 : Int) ≤ (k : Int) := by omega
      have l2 : (k : Int) < k0 := by omega
      have a0 : (0 : Int) ≤ (a : Int) := by omega
      have a1 : (a : Int) < 2048 := by omega
      obtain ⟨n, hn⟩ : ∃ n, o.2.2.length = n := ⟨_, rfl⟩
      rw [hn] at f4
      have FD := Lib.hid (fun W (h1 : ph.Pl W K H y) => fields_n h1 f2 f3 hn)
      have IB := Lib.hid (isb_nat ((l.take k).foldl (tc.lok r F) s).ws a2)
      clear f2 f3 hn m4
      cases hbit : bm.bit ((l.take k).foldl (tc.lok r F) s).ws a with
      | true =>
        have FIN := Lib.hid (show (l.take (k + 1)).foldl (tc.lok r F) s = tc.shl r ((l.take k).foldl (tc.lok r F) s) o.2.2 by
          rw [M1.out, List.foldl_append, List.foldl_cons, List.foldl_nil]
          exact lokq_yes (by rw [IB.out]; exact hbit) f1)
        rw [hbit] at mk
        have SH := Lib.hid (fun W J5 (h1 : Gp W K H y J5 M r ((l.take k).foldl (tc.lok r F) s) pp) A5 c5 (hr : va.Rv W W.heap.size A5 n c5 o.2.2) (hK : ∀ ad, A5 = some ad → 0 < n → ad.block ∈ K) => rshade_any h1.bk hr (fun ad e h0 hm => h1.ap _ hm (hK ad e h0)) f4 (fun ad e h0 => KL.out _ h1.pl _ (hK ad e h0)))
        clear hbit M1 f1
        go_wp2
        go_quiet (fail)
        go_wp2_with (first
          | (go_at_call 30; (with_reducible refine (FD.out _ (T1.out.new (li.grown_drewN _ _ _)).pl).mono ?_); rintro e4 w4 ⟨A4, c4, rfl, hw, hr, hK⟩; subst hw; have HR := Lib.hid hr; have HK4 := Lib.hid hK; clear hr hK)
          | (go_at_call 73; (with_reducible refine (SH.out _ _ (T1.out.new (li.grown_drewN _ _ _)) _ _ HR.out HK4.out).mono ?_); rintro e5 w5 ⟨rfl, J5, p1, p2, p3⟩; have P1 := Lib.hid p1; have T5 := Lib.hid ((T1.out.new (li.grown_drewN _ _ _)).grey p1 p2 p3); have G5 := Lib.hid p3; clear p1 p2 p3))
        go_roundw
        case rel => exact ⟨k + 1, J5, by omega, by go_num, fun q hq => (P1.out q hq).elim (HJ1.out q) (fun e => .inr (Nat.le_trans G1.out.size e)), by rw [FIN.out]; exact T5.out, (G1.out.made (li.grown_drewN _ _ _)).own G5.out HJ1.out⟩
        case measure => first | (simp [intOf]; done) | (simp [intOf]; omega)
      | false =>
        have FIN := Lib.hid (show (l.take (k + 1)).foldl (tc.lok r F) s = (l.take k).foldl (tc.lok r F) s by
          rw [M1.out, List.foldl_append, List.foldl_cons, List.foldl_nil]
          exact lokq_no (by rw [IB.out]; exact hbit))
        rw [hbit] at mk
        clear hbit M1 f1
        go_wp2
        go_quiet (fail)
        go_wp2
        go_roundw
        case rel => exact ⟨k + 1, J1, by omega, by go_num, HJ1.out, by rw [FIN.out]; exact T1.out.new (li.grown_drewN _ _ _), G1.out.made (li.grown_drewN _ _ _)⟩
        case measure => first | (simp [intOf]; done) | (simp [intOf]; omega)
    · obtain rfl : k = k0 := by omega
      obtain ⟨m0, m1, m2, _, _⟩ := T1.out.bk.cells
      have m3 := m1 2051
      have HF := T1.out
      rw [← FU.out, ← NS.out] at HF
      have TF := Lib.hid HF
      have RF := Lib.hid ((R3.out.own G1.out HJ2.out))
      have HJF := Lib.hid (fun q (hq : q ∈ J1) => (show q ∈ J ∨ w.heap.size ≤ q from (HJ1.out q hq).elim (HJ2.out q) (fun e => .inr (Nat.le_trans R3.out.size e))))
      clear m1 HF
      by_cases hl : (pp : Int) + 1 < N
      · have NP2 := Lib.hid (NP.out.trans (if_pos hl))
        have t9 : ¬ ((N : Int) ≤ pp + 1) := by omega
        go_wp2
        go_ret
        rw [NP2.out]
        obtain ⟨q1, q2⟩ := TF.out.bk.page (pp + 1)
        exact ⟨rfl, J1, HJF.out, q1, RF.out.own q2 HJF.out⟩
      · have NP2 := Lib.hid (NP.out.trans (if_neg hl))
        have t9 : (N : Int) ≤ pp + 1 := by omega
        go_wp2
        go_ret
        rw [NP2.out]
        obtain ⟨q1, q2⟩ := TF.out.bk.page (pp + 1)
        obtain ⟨q3, q4⟩ := q1.page (-1)
        exact ⟨rfl, J1, HJF.out, q3, (RF.out.own q2 HJF.out).own q4 HJF.out⟩
theorem rUnit_settle (h : Gp w K H y J M r s pp) (Y : Yi y) (hm : s.m = []) (hp : pp < 0) (hb : s.b = true) (hN : 1 ≤ N ∧ N ≤ 64) (c : Int) :
    Calls Tryz.prog 36 #[.pointer (some ⟨M, 0, none⟩), .pointer (some ⟨H, 0, none⟩), .int .i64 N, .int .i64 c] w (Ba (tc.looked r N (fq y.ob) (ph.inq y.ob) s.settle 0).p J M r (.bool true) (tc.looked r N (fq y.ob) (ph.inq y.ob) s.settle 0).s w) := by
  have ID := Lib.hid (rIdle_any h.bk)
  rw [show tc.Ts.idle ⟨s, pp⟩ = false by unfold tc.Ts.idle; simp [hb]] at ID
  have PO := Lib.hid (rPop_any h.bk)
  rw [show decide (s.m ≠ []) = false by simp [hm], show top s.m = (0, 0) by rw [hm]; rfl, tc.pop_nil hm] at PO
  have HG := Lib.hid h
  obtain ⟨k0, hk0⟩ : ∃ k0, (ph.inq y.ob 0).length = k0 := ⟨_, rfl⟩
  have IN := Lib.hid (fun W J1 s1 p1 (h1 : Gp W K H y J1 M r s1 p1) => rIn_n h1.pl Y hk0)
  have OBS := Lib.hid (fun a (ha : a ∈ ph.inq y.ob 0) => (show ∃ (A i : Nat) (o : ph.Ob3), a = A ∧ A < 2048 ∧ fq y.ob a = some o.2.2 ∧ ph.Fnd y.ob a i ∧ y.ob[i]? = some o ∧ o.2.2.length ≤ 127 from by
    obtain ⟨i, o, f1, f2, f3, f4⟩ := fq_some (inq_ob ha)
    have := Y.at_ o (List.mem_of_getElem? f3)
    exact ⟨a.toNat, i, o, by omega, by omega, f1, f2, f3, h.few o (List.mem_of_getElem? f3)⟩))
  have ML := Lib.hid (show k0 ≤ 2048 from by have := ph.inq_len y.ob 0; have := Y.few; omega)
  have GM := Lib.hid (fun k (hk : k < k0) => li.getD_mem (xs := ph.inq y.ob 0) (k := k) (by omega) 0)
  have TM := Lib.hid (fun k (hk : k < k0) => li.take_more (xs := ph.inq y.ob 0) (k := k) (by omega) 0)
  have FU := Lib.hid (show ph.inq y.ob 0 = (ph.inq y.ob 0).take k0 by rw [List.take_of_length_le (by omega)])
  have p1 : decide (pp < 0) = true := decide_eq_true hp
  have NP := Lib.hid (show (tc.looked r N (fq y.ob) (ph.inq y.ob) s.settle 0).p = if (1 : Int) < N then 1 else -1 from by unfold tc.looked; dsimp only; rfl)
  have NS := Lib.hid (show (tc.looked r N (fq y.ob) (ph.inq y.ob) s.settle 0).s = (ph.inq y.ob 0).foldl (tc.lok r (fq y.ob)) s.settle from rfl)
  have KL := Lib.hid (fun W (h1 : ph.Pl W K H y) => h1.lt)
  have hN1 : (1 : Int) ≤ N := by omega
  have hN2 : (N : Int) ≤ 64 := by omega
  generalize ph.inq y.ob 0 = l at *
  generalize fq y.ob = F at *
  generalize hlk : tc.looked r N F (ph.inq y.ob) s.settle 0 = lk at *
  have HLK := Lib.hid hlk
  clear h Y hm hk0 hp hb hN hlk
  go_enter Tryz.func36, Tryz.ntmps36
  go_wp2_with (first
    | (go_at_call 35; (with_reducible refine ID.out.mono ?_); rintro e w' ⟨rfl, rfl⟩)
    | (go_at_call 70; (with_reducible refine PO.out.mono ?_); rintro e w2 ⟨rfl, J2, h1, h2, h3⟩; have G2 := Lib.hid (World.grownBy_alloc w2 (.cells #[.int .i64 0, .int .i64 0] 115) none); have HJ2 := Lib.hid (fun q hq => (h1 q hq : q ∈ J ∨ w.heap.size ≤ q)); have T2 := Lib.hid ((HG.out.grey h1 h2 h3).new G2.out); have R2 := Lib.hid ((show ce.Gr J w w2 from h3).made G2.out); obtain ⟨d3, d4, d5, d6, d7⟩ := T2.out.bk.cells; have d8 := d4 2050; have d9 := d4 2051; have T2b := Lib.hid (T2.out.bk' (T2.out.bk.over false).1 (T2.out.bk.over false).2); have T2c := Lib.hid (T2b.out.bk' (T2b.out.bk.page 0).1 (T2b.out.bk.page 0).2); have R2c := Lib.hid (((R2.out.own (T2.out.bk.over false).2 HJ2.out).own (T2b.out.bk.page 0).2 HJ2.out)); have d10 := T2c.out.bk.cells.1; clear h1 h2 h3 d4 d6)
    | (go_at_call 72; (with_reducible refine (IN.out _ _ _ _ T2c.out).mono ?_); rintro e w3 ⟨A, d, rfl, ho, hg⟩; have O3 := Lib.hid ho; have T3 := Lib.hid (T2c.out.new hg); have R3 := Lib.hid (R2c.out.made hg); have JL := Lib.hid T2c.out.bk.lt; clear ho hg))
  go_loopw [12, 13, 14] (fun i _ _ wr => ∃ (k : Nat) (J1 : List Nat), k ≤ k0 ∧ i = .int .i64 k ∧ (∀ q, q ∈ J1 → q ∈ J2 ∨ w3.heap.size ≤ q) ∧ Gp wr K H y J1 M r ((l.take k).foldl (tc.lok r F) s.settle) 0 ∧ ce.Gr J2 w3 wr) (fun i _ _ _ => k0 - (intOf i).toNat)
  case atStart => exact ⟨0, J2, Nat.zero_le _, rfl, fun q hq => .inl hq, T3.out, ce.Gr.refl _ _⟩
  case round =>
    obtain ⟨k, J1, hk, rfl, hj1, hT1, hg1⟩ := hrel
    have T1 := Lib.hid hT1
    have HJ1 := Lib.hid hj1
    have G1 := Lib.hid hg1
    have ml := ML.out
    clear hT1 hj1 hg1
    by_cases hlt : k < k0
    · obtain ⟨b1, o1, rfl, g1⟩ := (li.rd_own (ph.row_gr O3.out G1.out (fun q hq hm => by have := JL.out q hm; have := own_base O3.out q hq; omega))).at_ hlt
      obtain ⟨a, i, o, ha, a2, f1, f2, f3, f4⟩ := OBS.out _ (GM.out k hlt)
      rw [ha] at g1 f1 f2
      have M1 := Lib.hid ((TM.out k hlt).trans (by rw [ha]))
      clear ha
      obtain ⟨_, _, m3, m4, _⟩ := T1.out.bk.cells
      have mk := m4 a a2
      have l1 : (0 : Int) ≤ (k : Int) := by omega
      have l2 : (k : Int) < k0 := by omega
      have a0 : (0 : Int) ≤ (a : Int) := by omega
      have a1 : (a : Int) < 2048 := by omega
      obtain ⟨n, hn⟩ : ∃ n, o.2.2.length = n := ⟨_, rfl⟩
      rw [hn] at f4
      have FD := Lib.hid (fun W (h1 : ph.Pl W K H y) => fields_n h1 f2 f3 hn)
      have IB := Lib.hid (isb_nat ((l.take k).foldl (tc.lok r F) s.settle).ws a2)
      clear f2 f3 hn m4
      cases hbit : bm.bit ((l.take k).foldl (tc.lok r F) s.settle).ws a with
      | true =>
        have FIN := Lib.hid (show (l.take (k + 1)).foldl (tc.lok r F) s.settle = tc.shl r ((l.take k).foldl (tc.lok r F) s.settle) o.2.2 by
          rw [M1.out, List.foldl_append, List.foldl_cons, List.foldl_nil]
          exact lokq_yes (by rw [IB.out]; exact hbit) f1)
        rw [hbit] at mk
        have SH := Lib.hid (fun W J5 (h1 : Gp W K H y J5 M r ((l.take k).foldl (tc.lok r F) s.settle) 0) A5 c5 (hr : va.Rv W W.heap.size A5 n c5 o.2.2) (hK : ∀ ad, A5 = some ad → 0 < n → ad.block ∈ K) => rshade_any h1.bk hr (fun ad e h0 hm => h1.ap _ hm (hK ad e h0)) f4 (fun ad e h0 => KL.out _ h1.pl _ (hK ad e h0)))
        clear hbit M1 f1
        go_wp2
        go_quiet (fail)
        go_wp2_with (first
          | (go_at_call 30; (with_reducible refine (FD.out _ (T1.out.new (li.grown_drewN _ _ _)).pl).mono ?_); rintro e4 w4 ⟨A4, c4, rfl, hw, hr, hK⟩; subst hw; have HR := Lib.hid hr; have HK4 := Lib.hid hK; clear hr hK)
          | (go_at_call 73; (with_reducible refine (SH.out _ _ (T1.out.new (li.grown_drewN _ _ _)) _ _ HR.out HK4.out).mono ?_); rintro e5 w5 ⟨rfl, J5, p1, p2, p3⟩; have P1 := Lib.hid p1; have T5 := Lib.hid ((T1.out.new (li.grown_drewN _ _ _)).grey p1 p2 p3); have G5 := Lib.hid p3; clear p1 p2 p3))
        go_roundw
        case rel => exact ⟨k + 1, J5, by omega, by go_num, fun q hq => (P1.out q hq).elim (HJ1.out q) (fun e => .inr (Nat.le_trans G1.out.size e)), by rw [FIN.out]; exact T5.out, (G1.out.made (li.grown_drewN _ _ _)).own G5.out HJ1.out⟩
        case measure => first | (simp [intOf]; done) | (simp [intOf]; omega)
      | false =>
        have FIN := Lib.hid (show (l.take (k + 1)).foldl (tc.lok r F) s.settle = (l.take k).foldl (tc.lok r F) s.settle by
          rw [M1.out, List.foldl_append, List.foldl_cons, List.foldl_nil]
          exact lokq_no (by rw [IB.out]; exact hbit))
        rw [hbit] at mk
        clear hbit M1 f1
        go_wp2
        go_quiet (fail)
        go_wp2
        go_roundw
        case rel => exact ⟨k + 1, J1, by omega, by go_num, HJ1.out, by rw [FIN.out]; exact T1.out.new (li.grown_drewN _ _ _), G1.out.made (li.grown_drewN _ _ _)⟩
        case measure => first | (simp [intOf]; done) | (simp [intOf]; omega)
    · obtain rfl : k = k0 := by omega
      obtain ⟨m0, m1, m2, _, _⟩ := T1.out.bk.cells
      have m3 := m1 2051
      have HF := T1.out
      rw [← FU.out, ← NS.out] at HF
      have TF := Lib.hid HF
      have RF := Lib.hid ((R3.out.own G1.out HJ2.out))
      have HJF := Lib.hid (fun q (hq : q ∈ J1) => (show q ∈ J ∨ w.heap.size ≤ q from (HJ1.out q hq).elim (HJ2.out q) (fun e => .inr (Nat.le_trans R3.out.size e))))
      clear m1 HF
      by_cases hl : (0 : Int) + 1 < N
      · have NP2 := Lib.hid (NP.out.trans (if_pos hl))
        have t9 : ¬ ((N : Int) ≤ 1) := by omega
        go_wp2
        go_ret
        rw [NP2.out]
        obtain ⟨q1, q2⟩ := TF.out.bk.page (0 + 1)
        exact ⟨rfl, J1, HJF.out, q1, RF.out.own q2 HJF.out⟩
      · have NP2 := Lib.hid (NP.out.trans (if_neg hl))
        have t9 : (N : Int) ≤ 1 := by omega
        go_wp2
        go_ret
        rw [NP2.out]
        obtain ⟨q1, q2⟩ := TF.out.bk.page (0 + 1)
        obtain ⟨q3, q4⟩ := q1.page (-1)
        exact ⟨rfl, J1, HJF.out, q3, (RF.out.own q2 HJF.out).own q4 HJF.out⟩
end
end Go.Proofs.YtacjleladjgkeaaGreatDoor.sh

/- The plain grey's unit, whatever there is to do. -/
namespace Go.Proofs.YtacjleladjgkeaaGreatDoor.sh
open Go.ChangeShapes Go.WideShapes Go.ChangeAt Go.RowKit gen li en gr
set_option linter.unusedVariables false
section
variable {pp : Int} {w w' W w1 : World} {M r B H N c : Nat} {J J' L K V : List Nat} {s s' : Ps} {v v' : Value} {e : Ending} {y : ph.Hq}
theorem rUnit_any (h : Gp w K H y J M r s pp) (Y : Yi y) (hN : 1 ≤ N ∧ N ≤ 64) (hc : 1 ≤ c ∧ c ≤ 16) (hp : -1 ≤ pp ∧ pp < N) :
    Calls Tryz.prog 36 #[.pointer (some ⟨M, 0, none⟩), .pointer (some ⟨H, 0, none⟩), .int .i64 N, .int .i64 c] w (Ba (tc.Ts.unit r N c (fq y.ob) (ph.inq y.ob) ⟨s, pp⟩).p J M r (.bool (!tc.Ts.idle ⟨s, pp⟩)) (tc.Ts.unit r N c (fq y.ob) (ph.inq y.ob) ⟨s, pp⟩).s w) := by
  by_cases hm : s.m = []
  · by_cases h1 : 0 ≤ pp
    · have E1 : tc.Ts.unit r N c (fq y.ob) (ph.inq y.ob) ⟨s, pp⟩ = tc.looked r N (fq y.ob) (ph.inq y.ob) s pp := by unfold tc.Ts.unit; rw [if_neg (by simp [hm]), if_pos h1]
      have E2 : (!tc.Ts.idle ⟨s, pp⟩) = true := by unfold tc.Ts.idle; simp; exact .inl (.inr h1)
      rw [E1, E2]
      exact rUnit_look h Y hm ⟨h1, hp.2⟩ hN c
    · cases hb : s.b with
      | true =>
        have E1 : tc.Ts.unit r N c (fq y.ob) (ph.inq y.ob) ⟨s, pp⟩ = tc.looked r N (fq y.ob) (ph.inq y.ob) s.settle 0 := by unfold tc.Ts.unit; rw [if_neg (by simp [hm]), if_neg h1, if_pos hb]
        have E2 : (!tc.Ts.idle ⟨s, pp⟩) = true := by unfold tc.Ts.idle; simp [hb]
        rw [E1, E2]
        exact rUnit_settle h Y hm (by omega) hb hN c
      | false =>
        have E1 : tc.Ts.unit r N c (fq y.ob) (ph.inq y.ob) ⟨s, pp⟩ = ⟨s, pp⟩ := by unfold tc.Ts.unit; rw [if_neg (by simp [hm]), if_neg h1, if_neg (by rw [hb]; decide)]
        have E2 : tc.Ts.idle ⟨s, pp⟩ = true := by unfold tc.Ts.idle; simp [hb, hm]; omega
        rw [E1, E2]
        exact rUnit_none h E2 N c
  · have E1 : tc.Ts.unit r N c (fq y.ob) (ph.inq y.ob) ⟨s, pp⟩ = ⟨tc.ent r c (fq y.ob) s.pop (top s.m), pp⟩ := by unfold tc.Ts.unit; rw [if_pos hm]
    have E2 : (!tc.Ts.idle ⟨s, pp⟩) = true := by unfold tc.Ts.idle; simp [hm]
    rw [E1, E2]
    exact rUnit_take h hm hc N
theorem fq_obs (x : st.Hs) (a : Int) : fq (ph.obs x) a = tc.flo x a := by
  unfold fq ph.obs tc.flo
  rw [List.find?_map]
  by_cases h : a ∈ x.tk
  · rw [if_pos h]
    cases hf : x.tk.find? ((fun o : ph.Ob3 => decide (o.1 = a)) ∘ fun a => (a, x.xs.getD a.toNat 0 / 128, tc.fls x a)) with
    | none => exact absurd (List.find?_eq_none.1 hf a h) (by simp)
    | some b =>
      have := List.find?_some hf
      simp at this
      subst this
      rfl
  · rw [if_neg h]
    have : x.tk.find? ((fun o : ph.Ob3 => decide (o.1 = a)) ∘ fun a => (a, x.xs.getD a.toNat 0 / 128, tc.fls x a)) = none := List.find?_eq_none.2 (fun b hb h2 => by
      simp at h2
      exact h (h2 ▸ hb))
    rw [this]
    rfl
theorem inq_obs (x : st.Hs) (p : Int) : ph.inq (ph.obs x) p = tc.inp x p := by
  unfold ph.inq ph.obs tc.inp
  rw [List.filter_map, List.map_map]
  have : ((fun o : ph.Ob3 => o.1) ∘ fun a => (a, x.xs.getD a.toNat 0 / 128, tc.fls x a)) = id := rfl
  rw [this, List.map_id]
  rfl
end
end Go.Proofs.YtacjleladjgkeaaGreatDoor.sh
