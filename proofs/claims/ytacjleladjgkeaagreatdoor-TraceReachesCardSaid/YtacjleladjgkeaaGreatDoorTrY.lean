/- Joined: TrD, TrE. -/
import Derived.Test.YtacjleladjgkeaaGreatDoorTrX
/- The statement's own first look: the walk. -/
namespace Go.Proofs.YtacjleladjgkeaaGreatDoor.tr
open Go.ChangeShapes Go.WideShapes Go.ChangeAt Go.RowKit gen calls cls geos ce st sh
set_option linter.unusedVariables false
set_option maxHeartbeats 8000000
set_option maxRecDepth 100000
section
variable {w0 W W' : World} {I : Ids} {x x' : Hs} {L L' : List Nat} {g r t N c n n' : Nat} {s s' : Ps} {p : Int} {v : Value}
theorem unit_step (hT : bm.Tab w0) {u : tc.Ts} (hu : u.p = -1) (hu2 : (tc.Ts.unit 4 2 1 (tc.flo a3) (tc.inp a3) u).p = -1) (h : Aw w0 W I a3 L g 4 u.s t 2 1 0) :
    Calls Tryz.prog 14 #[.pointer (some ⟨t, 0, none⟩)] W fun e w' => e = .returned (.bool (!tc.Ts.idle u)) ∧ ∃ L', Aw w0 w' I a3 L' g 4 (tc.Ts.unit 4 2 1 (tc.flo a3) (tc.inp a3) u).s t 2 1 0 := by
  have e : (⟨u.s, -1⟩ : tc.Ts) = u := by rw [← hu]
  refine (Aw.unit hT h (p := -1) rfl (by decide)).mono fun e' w' ⟨k1, k2, k3⟩ => ?_
  rw [e] at k1 k3
  rw [hu2] at k3
  exact ⟨k1, k3⟩
theorem alive_any (w : World) (hT : bm.Tab w) : Calls Tryz.prog 6 #[] w fun e w' => e = .returned (.bool true) ∧ w.grownBy w' none := by
  obtain ⟨⟨i0, i1, i2, i3⟩, is, p0, p1, p2, p3, p4⟩ := u_facts
  have NW := Lib.hid (st.New_any 2 1 2 1 (by decide) (by decide) w)
  have NG := Lib.hid (fun W => sh.New_any 4 4 (by decide) (by decide) (by decide) W)
  have NT := Lib.hid (fun pS qg W => tnew_any pS qg 2 1 (N := 2) (c := 1) (by decide) (by decide) W)
  have S1 := Lib.hid (fun W I L g t (h : Aw w W I a0 L g 4 none0 t 2 1 0) => (show Calls Tryz.prog 24 #[.pointer (some ⟨I.S, 0, none⟩), .int .i64 0, .int .i64 2] W fun e w' => e = .returned (.tuple #[.int .i64 0, .int .i64 0]) ∧ Aw w w' I a1 L g 4 none0 t 2 1 0 from
    (Slo_prog h.tw.sr h.tw.iv h.tw.s8 ⟨by decide, by decide⟩ a1_slo).mono fun e w' ⟨k1, k2, k3⟩ => ⟨k1, h.store k2 a1_iv (by decide) k3⟩))
  have S2 := Lib.hid (fun W I L g t (h : Aw w W I a1 L g 4 none0 t 2 1 0) => (show Calls Tryz.prog 24 #[.pointer (some ⟨I.S, 0, none⟩), .int .i64 0, .int .i64 0] W fun e w' => e = .returned (.tuple #[.int .i64 32, .int .i64 0]) ∧ Aw w w' I a2 L g 4 none0 t 2 1 0 from
    (Slo_prog h.tw.sr h.tw.iv h.tw.s8 ⟨by decide, by decide⟩ a2_slo).mono fun e w' ⟨k1, k2, k3⟩ => ⟨k1, h.store k2 a2_iv (by decide) k3⟩))
  have S3 := Lib.hid (fun W I L g t (h : Aw w W I a2 L g 4 none0 t 2 1 0) => (show Calls Tryz.prog 25 #[.pointer (some ⟨I.S, 0, none⟩), .int .i64 0, .int .i64 1, .agg #[.int .i64 2, .int .i64 32]] W fun e w' => e = .returned (.bool true) ∧ Aw w w' I a3 L g 4 none0 t 2 1 0 from
    (Set_yes h.tw.sr a2_ob (j := 1) (k := 2) (m := 32) (by decide) a2_bz (by decide)).mono fun e w' ⟨k1, k2, k3⟩ => ⟨k1, h.store k2 a3_iv (by decide) k3⟩))
  have SH := Lib.hid (fun W I L g t (h : Aw w W I a3 L g 4 none0 t 2 1 0) => (show Calls Tryz.prog 13 #[.pointer (some ⟨g, 0, none⟩), .int .i64 0] W fun e w' => (∃ b, e = .returned (.bool b)) ∧ ∃ L', Aw w w' I a3 L' g 4 u0.s t 2 1 0 from
    (Shade_any h.tw.gy 0).mono fun e w' ⟨k1, k2⟩ => ⟨⟨_, k1⟩, h.grey k2⟩))
  have U0 := Lib.hid (fun W I L g t (h : Aw w W I a3 L g 4 u0.s t 2 1 0) => (show Calls Tryz.prog 14 #[.pointer (some ⟨t, 0, none⟩)] W fun e w' => e = .returned (.bool true) ∧ ∃ L', Aw w w' I a3 L' g 4 u1.s t 2 1 0 from
    by have := unit_step hT p0 p1 h; rwa [i0] at this))
  have U1 := Lib.hid (fun W I L g t (h : Aw w W I a3 L g 4 u1.s t 2 1 0) => (show Calls Tryz.prog 14 #[.pointer (some ⟨t, 0, none⟩)] W fun e w' => e = .returned (.bool true) ∧ ∃ L', Aw w w' I a3 L' g 4 u2.s t 2 1 0 from
    by have := unit_step hT p1 p2 h; rwa [i1] at this))
  have U2 := Lib.hid (fun W I L g t (h : Aw w W I a3 L g 4 u2.s t 2 1 0) => (show Calls Tryz.prog 14 #[.pointer (some ⟨t, 0, none⟩)] W fun e w' => e = .returned (.bool true) ∧ ∃ L', Aw w w' I a3 L' g 4 u3.s t 2 1 0 from
    by have := unit_step hT p2 p3 h; rwa [i2] at this))
  have U3 := Lib.hid (fun W I L g t (h : Aw w W I a3 L g 4 u3.s t 2 1 0) => (show Calls Tryz.prog 14 #[.pointer (some ⟨t, 0, none⟩)] W fun e w' => e = .returned (.bool false) ∧ ∃ L', Aw w w' I a3 L' g 4 u4.s t 2 1 0 from
    by have := unit_step hT p3 p4 h; rwa [i3] at this))
  have IS := Lib.hid (fun W I L g t (h : Aw w W I a3 L g 4 u2.s t 2 1 0) => (show Calls Tryz.prog 26 #[.pointer (some ⟨g, 0, none⟩), .int .i64 32] W fun e w' => e = .returned (.bool true) ∧ Aw w w' I a3 L g 4 u2.s t 2 1 0 from
    (Is_any h.tw.gy 32).mono fun e w' ⟨k1, k2⟩ => ⟨by rw [← is]; exact k1, h.new k2⟩))
  have ID2 := Lib.hid (fun W I L g t (h : Aw w W I a3 L g 4 u2.s t 2 1 0) => (show Calls Tryz.prog 18 #[.pointer (some ⟨t, 0, none⟩)] W fun e w' => e = .returned (.bool false) ∧ W = w' from
    by have := tc.Idle_any h.tw (p := -1) rfl (by decide); rwa [show (⟨u2.s, -1⟩ : tc.Ts) = u2 by rw [← p2], i2] at this))
  have ID3 := Lib.hid (fun W I L g t (h : Aw w W I a3 L g 4 u3.s t 2 1 0) => (show Calls Tryz.prog 18 #[.pointer (some ⟨t, 0, none⟩)] W fun e w' => e = .returned (.bool true) ∧ W = w' from
    by have := tc.Idle_any h.tw (p := -1) rfl (by decide); rwa [show (⟨u3.s, -1⟩ : tc.Ts) = u3 by rw [← p3], i3] at this))
  have PG := Lib.hid (fun W I L g t (h : Aw w W I a3 L g 4 u4.s t 2 1 0) => (show Calls Tryz.prog 21 #[.pointer (some ⟨t, 0, none⟩)] W fun e w' => e = .returned (.int .i64 (-1)) ∧ w.grownBy w' none from
    (tc.Page_any h.tw (p := -1) rfl (by decide)).mono fun e w' ⟨k1, k2⟩ => ⟨k1, h.gr.trans k2⟩))
  clear i0 i1 i2 i3 is p0 p1 p2 p3 p4
  go_enter Tryz.func6, Tryz.ntmps6
  go_wp2_with (first
    | (go_at_call 22; (with_reducible refine NW.out.mono ?_); rintro e w1 ⟨I, rfl, hs, hl, hg⟩; have H1 := Lib.hid (show Sr w1 I a0 from hs); have G1 := Lib.hid hg; have O := Lib.hid hl; clear hs hl hg)
    | (go_at_call 23; (with_reducible refine (NG.out _).mono ?_); rintro e w2 ⟨g, L, rfl, hs, hl, hg⟩; have Y2 := Lib.hid hs; have L2 := Lib.hid hl; have G2 := Lib.hid hg; clear hs hl hg)
    | (go_at_call 20; (with_reducible refine (NT.out _ _ _).mono ?_); rintro e w3 ⟨rfl, hs, hg⟩; have A3 := Lib.hid (show Aw w w3 I a0 L g 4 none0 w2.heap.size 2 1 0 from ⟨⟨(H1.out.new G2.out).new hg, a0_iv, Y2.out.new hg, hs, fun q hq hm => by have := L2.out q hq; have := H1.out.lt q hm; omega, by decide, by decide, by decide, by decide⟩, ⟨O.out, fun q hq => by
        rcases List.mem_cons.1 hq with rfl | hq
        · exact (G1.out.trans G2.out).size
        · exact Nat.le_trans G1.out.size (L2.out q hq)⟩, (G1.out.trans G2.out).trans hg⟩); clear hs hg)
    | (have mark := A4; go_at_call 24; (with_reducible refine (S2.out _ _ _ _ _ A4.out).mono ?_); rintro e w5 ⟨rfl, h⟩; have A5 := Lib.hid h; clear h)
    | (go_at_call 24; (with_reducible refine (S1.out _ _ _ _ _ A3.out).mono ?_); rintro e w4 ⟨rfl, h⟩; have A4 := Lib.hid h; clear h)
    | (go_at_call 25; (with_reducible refine (S3.out _ _ _ _ _ A5.out).mono ?_); rintro e w6 ⟨rfl, h⟩; have A6 := Lib.hid h; clear h)
    | (go_at_call 13; (with_reducible refine (SH.out _ _ _ _ _ A6.out).mono ?_); rintro e w7 ⟨⟨b7, rfl⟩, L7, h⟩; have A7 := Lib.hid h; clear h)
    | (have mark := A12; go_at_call 14; (with_reducible refine (U3.out _ _ _ _ _ A12.out).mono ?_); rintro e w13 ⟨rfl, L13, h⟩; have A13 := Lib.hid h; clear h)
    | (have mark := A10; go_at_call 14; (with_reducible refine (U2.out _ _ _ _ _ A10.out).mono ?_); rintro e w12 ⟨rfl, L12, h⟩; have A12 := Lib.hid h; clear h)
    | (have mark := A8; go_at_call 14; (with_reducible refine (U1.out _ _ _ _ _ A8.out).mono ?_); rintro e w9 ⟨rfl, L9, h⟩; have A9 := Lib.hid h; clear h)
    | (go_at_call 14; (with_reducible refine (U0.out _ _ _ _ _ A7.out).mono ?_); rintro e w8 ⟨rfl, L8, h⟩; have A8 := Lib.hid h; clear h)
    | (go_at_call 26; (with_reducible refine (IS.out _ _ _ _ _ A9.out).mono ?_); rintro e w10 ⟨rfl, h⟩; have A10 := Lib.hid h; clear h)
    | (have mark := A12; go_at_call 18; (with_reducible refine (ID3.out _ _ _ _ _ A12.out).mono ?_); rintro e w' ⟨rfl, rfl⟩)
    | (go_at_call 18; (with_reducible refine (ID2.out _ _ _ _ _ A10.out).mono ?_); rintro e w' ⟨rfl, rfl⟩)
    | (go_at_call 21; (with_reducible refine (PG.out _ _ _ _ _ A13.out).mono ?_); rintro e w14 ⟨rfl, hg⟩; have G14 := Lib.hid hg; clear hg))
  go_ret
  exact ⟨rfl, G14.out⟩
end
end Go.Proofs.YtacjleladjgkeaaGreatDoor.tr

/- Is all told as by lists? The statement's own look. -/
namespace Go.Proofs.YtacjleladjgkeaaGreatDoor.tr
open Go.ChangeShapes Go.WideShapes Go.ChangeAt Go.RowKit gen calls cls geos ce st sh
set_option linter.unusedVariables false
set_option maxHeartbeats 16000000
set_option maxRecDepth 100000
/-- The marked addresses below n. -/
def pre (ws : List Nat) (n : Nat) : List Int := ((List.range n).filter (bm.bit ws)).map fun i : Nat => (i : Int)
theorem pre_all (ws : List Nat) : pre ws 2048 = bm.nums ws := rfl
theorem pre_more (ws : List Nat) (n : Nat) : pre ws (n + 1) = pre ws n ++ if bm.bit ws n = true then [(n : Int)] else [] := by
  unfold pre
  rw [List.range_succ, List.filter_append, List.map_append]
  congr 1
  cases h : bm.bit ws n <;> simp [h]
theorem pre_len (ws : List Nat) (n : Nat) : (pre ws n).length ≤ n := by
  unfold pre
  rw [List.length_map]
  exact Nat.le_trans (List.length_filter_le _ _) (by simp)
theorem rd_new {w w' : World} {B n c : Nat} {A : Option Addr} {xs : List Int} (h : Rd w B A n c xs) (hg : w.grownBy w' none) : Rd w' B A n c xs := ⟨h.1, h.2.1, fun ad e i hi => ⟨(h.2.2 ad e i hi).1, hg.cell (h.2.2 ad e i hi).2 (by simp)⟩⟩
section
variable {w0 W W' : World} {B : Nat} {I : Ids} {x x' : Hs} {L L' K K' J J' X : List Nat} {g r t N c n n' H M : Nat} {s s' s2 s3 : Ps} {y y' : ph.Hq} {p p' : Int} {v : Value} {e : Ending}
theorem told_any (h : Wp w0 W B I x L g r s t N c n K H y J M s p) (hp : n = tc.left N p) (hr : -1 ≤ p ∧ p < N) (hT : bm.Tab W) : Calls Tryz.prog 10 #[.pointer (some ⟨B, 0, none⟩)] W fun e w' => e = .returned (.bool true) ∧ W.grownBy w' none := by
  obtain ⟨i0, hi, hz0, hz1, hz2⟩ := info_parts bm.info_int
  have E : Hid (i0.zero = some (.int .i64 0) ∧ i0.size = 1 ∧ i0.bytes = 8 ∧ Tryz.prog.info? 3 = some i0) := ⟨hz0, hz1, hz2, hi⟩
  have HW := Lib.hid (fun W2 (hg : W.grownBy W2 none) => h.new hg)
  have HT := Lib.hid hT
  obtain ⟨v, hb, _⟩ := h.gp.bk
  obtain ⟨A, m, d, rfl, hm, _, _⟩ := hb.li.shape
  have HB := Lib.hid (fun W2 (hg : W.grownBy W2 none) => hb.new hg)
  have hfit : m ≤ 256 := by rw [hm]; exact Nat.le_trans hb.fit hb.hi
  have HM := Lib.hid hm
  have HP := Lib.hid (⟨hp, hr⟩ : _ ∧ _)
  clear hi hz0 hz1 hz2 h hb hT hm hp
  go_enter Tryz.func10, Tryz.ntmps10
  go_wp2
  go_loopw [3, 4] (fun v i wr => ∃ (q k : Nat) (A' : Option Addr) (c' : Nat), q ≤ 2048 ∧ k = (pre s.ws q).length ∧ i = .int .i64 q ∧ v = .slice A' k c' ∧ wr.ownsRow W.heap.size 3 1 (.slice A' k c') k (bm.ints (pre s.ws q)) ∧ W.grownBy wr none) (fun _ i _ => 2048 - (intOf i).toNat)
  case atStart => exact ⟨0, 0, none, 0, by omega, rfl, rfl, rfl, World.ownsRow_nil _ _ _ _, World.grownBy.refl _ _⟩
  case round =>
    obtain ⟨q, k, A', c', hn, hk, rfl, rfl, ho, hg⟩ := hrel
    have HO := Lib.hid ho
    have GG := Lib.hid hg
    have HK := Lib.hid hk
    have hk2 : k ≤ q := by rw [hk]; exact pre_len _ _
    obtain ⟨_, d1, d2, _, d4, _⟩ := (HW.out _ hg).cells
    clear ho hg hk
    by_cases hlt : q < 2048
    · have c0 := (HB.out _ GG.out).mark hlt
      have mlt := (HB.out _ GG.out).lt
      have PM := Lib.hid (pre_more s.ws q)
      have l1 : (0 : Int) ≤ (q : Int) := by omega
      have l2 : (q : Int) < 2048 := by omega
      generalize bm.bit s.ws q = y at c0 PM
      cases y with
      | false =>
        go_wp2
        go_roundw
        case rel =>
          have := PM.out
          simp at this
          exact ⟨q + 1, k, A', c', by omega, by rw [this]; exact HK.out, by go_num, rfl, by rw [this]; exact HO.out, GG.out⟩
        case measure => first | (simp [intOf]; done) | (simp [intOf]; omega)
      | true =>
        go_wp2_with (refine wpList_append_rd rfl (.tmp 18) (.tmp 20) 31 rfl W.heap.size 3 i0 (.int .i64 0) 8 Tryz.underlying31 E.out.2.2.2 E.out.1 E.out.2.1 E.out.2.2.1 rfl _ k (pre s.ws q) rfl (HO.out.alloc _) (some ⟨wr.heap.size, 0, none⟩) 1 1 _ [(q : Int)] rfl (bm.Rd.one _ _ _) (by unfold maxLen; omega) (by omega) (by have := GG.out.size; simp; omega) ?_; intro A3 c3 w2 own1 rd1 gr1; have OWN1 := Lib.hid own1; have G1 := Lib.hid (bm.grown_one GG.out HO.out (Nat.le_refl _) gr1); clear own1 gr1 rd1)
        go_roundw
        case rel =>
          have := PM.out
          rw [if_pos rfl] at this
          exact ⟨q + 1, k + 1, A3, c3, by omega, by rw [this, List.length_append, ← HK.out]; rfl, by go_num, rfl, by rw [this]; exact OWN1.out, G1.out⟩
        case measure => first | (simp [intOf]; done) | (simp [intOf]; omega)
    · obtain rfl : q = 2048 := by omega
      have ho := HO.out
      have hk := HK.out
      rw [pre_all] at ho hk
      have HF := Lib.hid (fun W2 (hg : wr.grownBy W2 none) => (show W2.cell? ⟨B, 1, none⟩ = some (.pointer (some ⟨g, 0, none⟩)) ∧ W2.cell? ⟨B, 2, none⟩ = some (.pointer (some ⟨t, 0, none⟩)) ∧ W2.cell? ⟨B, 4, none⟩ = some (.pointer (some ⟨M, 0, none⟩)) ∧ W2.cell? ⟨M, 2048, none⟩ = some (.slice A m d) ∧ W2.cell? ⟨M, 2050, none⟩ = some (.bool s.b) ∧ W2.cell? ⟨M, 2051, none⟩ = some (.int .i64 p) from by
        obtain ⟨_, e1, e2, _, e4, _⟩ := (HW.out _ (GG.out.trans hg)).cells
        have hb := HB.out _ (GG.out.trans hg)
        exact ⟨e1, e2, e4, hb.c0, hb.c2, hb.c3⟩))
      have f := HF.out _ (World.grownBy.refl _ _)
      have mlt := (HB.out _ GG.out).lt
      have AL := Lib.hid (fun W2 (hg : wr.grownBy W2 none) => (All_any ((HW.out _ (GG.out.trans hg)).tw.gy) ((HT.out.kept GG.out (by simp)).kept hg (by simp))).mono (fun e w' (k : bm.ListAns (bm.nums s.ws) W2 e w') => (show ∃ A c, e = .returned (.slice A (bm.nums s.ws).length c) ∧ Rd w' w'.heap.size A (bm.nums s.ws).length c (bm.nums s.ws) ∧ wr.grownBy w' none from (by
        obtain ⟨A, c, h1, h2, h3⟩ := k
        exact ⟨A, c, h1, bm.rd_own h2, hg.trans h3⟩))))
      have IN := Lib.hid (fun W2 (hg : wr.grownBy W2 none) Y A2 c2 (hr : Rd W2 Y A2 (bm.nums s.ws).length c2 (bm.nums s.ws)) => (bm.Ints_true (bm.nums s.ws) A2 A' (bm.nums s.ws).length k c2 c' _ _ W2 (by rw [← hk]; omega) hk.symm hr (rd_new (bm.rd_own ho) hg)).mono (fun e w' h => (show e = .returned (.bool true) ∧ wr.grownBy w' none from ⟨h.1, hg.trans (drew_grown h.2 _)⟩)))
      have WA := Lib.hid (fun W2 (hg : wr.grownBy W2 none) => (Waiting_any ((HW.out _ (GG.out.trans hg)).tw.gy)).mono (fun e w' h => (show e = .returned (.int .i64 m) ∧ wr.grownBy w' none from ⟨by rw [HM.out]; exact h.1, h.2 ▸ hg⟩)))
      have OV := Lib.hid (fun W2 (hg : wr.grownBy W2 none) => (Over_any ((HW.out _ (GG.out.trans hg)).tw.gy)).mono (fun e w' h => (show e = .returned (.bool s.b) ∧ wr.grownBy w' none from ⟨h.1, h.2 ▸ hg⟩)))
      have PG := Lib.hid (fun W2 (hg : wr.grownBy W2 none) => (tc.Page_any ((HW.out _ (GG.out.trans hg)).tw) HP.out.1 HP.out.2).mono (fun e w' h => (show e = .returned (.int .i64 p) ∧ wr.grownBy w' none from ⟨h.1, hg.trans h.2⟩)))
      rw [← hk] at AL IN
      generalize bm.nums s.ws = xs at AL IN
      generalize s.b = b at OV HF f
      have pb : -9223372036854775808 ≤ p ∧ p ≤ 9223372036854775807 := by have := hr; have := (HW.out _ GG.out).tw.n1; omega
      clear ho hk HO HK HB hlt hn d1 d2 d4 HW
      go_wp2
      go_region_held3 (fun W2 => W2.cell? ⟨B, 1, none⟩ = some (.pointer (some ⟨g, 0, none⟩)) ∧ W2.cell? ⟨B, 2, none⟩ = some (.pointer (some ⟨t, 0, none⟩)) ∧ W2.cell? ⟨B, 4, none⟩ = some (.pointer (some ⟨M, 0, none⟩)) ∧ W2.cell? ⟨M, 2048, none⟩ = some (.slice A m d) ∧ W2.cell? ⟨M, 2050, none⟩ = some (.bool b) ∧ W2.cell? ⟨M, 2051, none⟩ = some (.int .i64 p)) (first | exact f | exact ff | go_keep) (first
        | (go_at_call 16; (with_reducible refine (AL.out _ (by first | exact World.grownBy.refl _ _ | exact gr.grown_drew _ _ | exact li.grown_drewN _ _ _)).mono ?_); rintro e w2 ⟨A2, c2, rfl, hr, hg⟩; have R2 := Lib.hid hr; have G2 := Lib.hid hg; have ff := HF.out _ hg; clear hr hg)
        | (go_at_call 15; (with_reducible refine (IN.out _ (by first | exact G2.out | exact G2.out.trans (gr.grown_drew _ _) | exact G2.out.trans (li.grown_drewN _ _ _)) _ _ _ (by first | exact R2.out | exact rd_new R2.out (gr.grown_drew _ none) | exact rd_new R2.out (li.grown_drewN _ _ none))).mono ?_); rintro e w3 ⟨rfl, hg⟩; have G3 := Lib.hid hg; have ff := HF.out _ hg; clear hg)
        | (go_at_call 19; (with_reducible refine (WA.out _ (by first | exact G3.out | exact G3.out.trans (gr.grown_drew _ _) | exact G3.out.trans (li.grown_drewN _ _ _))).mono ?_); rintro e w5 ⟨rfl, hg⟩; have G5 := Lib.hid hg; have ff := HF.out _ hg; clear hg)
        | (go_at_call 37; (with_reducible refine (OV.out _ (by first | exact G5.out | exact G5.out.trans (gr.grown_drew _ _) | exact G5.out.trans (li.grown_drewN _ _ _))).mono ?_); rintro e w6 ⟨rfl, hg⟩; have G6 := Lib.hid hg; have ff := HF.out _ hg; clear hg)
        | (go_at_call 21; (with_reducible refine (PG.out _ (by first | exact G6.out | exact G6.out.trans (gr.grown_drew _ _) | exact G6.out.trans (li.grown_drewN _ _ _))).mono ?_); rintro e w7 ⟨rfl, hg⟩; have G7 := Lib.hid hg; have ff := HF.out _ hg; clear hg))
      go_wp2
      go_ret
      first | exact ⟨by simp, GG.out.trans G7.out⟩ | exact ⟨by simp, GG.out.trans (G7.out.trans (gr.grown_drew _ _))⟩ | exact ⟨by simp, GG.out.trans (G7.out.trans (li.grown_drewN _ _ _))⟩
end
end Go.Proofs.YtacjleladjgkeaaGreatDoor.tr
