/- Texts that this claim stands on. -/
import Derived.Test.YtfhebjkoojodiaaDoorPGqY
namespace Go.Proofs.YtfhebjkoojodiaaDoor.gq
open Go.ChangeShapes Go.WideShapes Go.ChangeAt Go.RowKit gen va cd gp
set_option linter.unusedVariables false
set_option linter.unusedSimpArgs false
set_option maxHeartbeats 2000000
set_option maxRecDepth 100000
theorem stz_0 {σ : Gs} {k t i f j c n no : Int} (h : stz σ k t i f j c n no = 0) : stz σ k t i f j c n 0 = 0 ∧ sta σ k t i f j c n 0 = sta σ k t i f j c n no ∧ stg σ k t i f j c n 0 = stg σ k t i f j c n no := by
  have e : stz σ k t i f j c n 0 = 0 := by
    unfold stz at h ⊢
    by_cases hc : codz σ k t i f j c n = 0
    · rw [if_neg (by simpa using hc)]
      split <;> rfl
    · rw [if_pos hc] at h
      exact absurd h hc
  obtain ⟨a1, a2⟩ := st_y e
  obtain ⟨b1, b2⟩ := st_y h
  exact ⟨e, a1.trans b1.symm, a2.trans b2.symm⟩
theorem stg_M {σ : Gs} (k t i f j c n no : Int) : (stg σ k t i f j c n no).M ≤ σ.M + 1 := by
  unfold stg
  split
  · omega
  · unfold ef
    (repeat' split) <;> simp
theorem zero5' (w : World) : Z5 (w.alloc (.cells #[.int .i64 0, .int .i64 0, .int .i64 0, .int .i64 0, .int .i64 0] 36)) w.heap.size := zero5 w _
def St7 (w : World) (b o : Nat) (k t i f j c n : Int) : Prop := w.cell? ⟨b, o, none⟩ = some (.int .i64 k) ∧ w.cell? ⟨b, o + 1, none⟩ = some (.int .i64 t) ∧ w.cell? ⟨b, o + 2, none⟩ = some (.int .i64 i) ∧ w.cell? ⟨b, o + 3, none⟩ = some (.int .i64 f) ∧ w.cell? ⟨b, o + 4, none⟩ = some (.int .i64 j) ∧ w.cell? ⟨b, o + 5, none⟩ = some (.int .i64 c) ∧ w.cell? ⟨b, o + 6, none⟩ = some (.int .i64 n)
theorem St7.gr {w w' : World} {L : List Nat} {b o : Nat} {k t i f j c n : Int} (h : St7 w b o k t i f j c n) (hg : gr.Gr L w w') (hL : b ∉ L) : St7 w' b o k t i f j c n := ⟨hg.cell h.1 hL, hg.cell h.2.1 hL, hg.cell h.2.2.1 hL, hg.cell h.2.2.2.1 hL, hg.cell h.2.2.2.2.1 hL, hg.cell h.2.2.2.2.2.1 hL, hg.cell h.2.2.2.2.2.2 hL⟩
theorem St7.new {w w' : World} {b o : Nat} {k t i f j c n : Int} (h : St7 w b o k t i f j c n) (hg : w.grownBy w' none) : St7 w' b o k t i f j c n := h.gr (L := []) (.new hg) (by simp)
theorem steps_at {w : World} {B : Nat} {A : Option Addr} {n : Nat} {f : Nat → Nat → Int} (h : Rws w B A n 7 f) {i : Nat} (hi : i < n) : ∃ b off, A = some ⟨b, off, none⟩ ∧ b < B ∧ St7 w b (off + i * 7) (f i 0) (f i 1) (f i 2) (f i 3) (f i 4) (f i 5) (f i 6) := by
  obtain ⟨b, off, e, hb, hc, _⟩ := h i hi
  exact ⟨b, off, e, hb, hc 0 (by omega), hc 1 (by omega), hc 2 (by omega), hc 3 (by omega), hc 4 (by omega), hc 5 (by omega), hc 6 (by omega)⟩
section
variable (c0 c2 q c4 c5 c6 c7 c8 c9 : Int)
theorem refuses_no {w : World} (c1 : Int) (v1 v2 : Value) {n : Int} (h0 : (n == 0) = false) (hT : cf.Table w) (hn : cf.wrongN [c0, c1, c2, q, c4, c5, c6, c7, c8, c9] = n) : Calls Tryd.prog 4 #[.agg #[.int .i64 c0, .int .i64 c1, .int .i64 c2, .int .i64 q, .int .i64 c4, .int .i64 c5, .int .i64 c6, .int .i64 c7, .int .i64 c8, .int .i64 c9], v1, v2] w
    fun e w' => e = .returned (.bool true) ∧ w.grownBy w' none := by
  have G0 := Lib.hid (grown_alloc w (.cells #[.int .i64 c0, .int .i64 c1, .int .i64 c2, .int .i64 q, .int .i64 c4, .int .i64 c5, .int .i64 c6, .int .i64 c7, .int .i64 c8, .int .i64 c9] 23))
  have TN := Lib.hid (cf.Ten.new w 23 c0 c1 c2 q c4 c5 c6 c7 c8 c9)
  have AL := Lib.hid (fun W (hg : w.grownBy W none) => alive_any (tab_new hT hg))
  have CK := Lib.hid (fun W (hg : w.grownBy W none) => cf.Check_no c0 c1 c2 q c4 c5 c6 c7 c8 c9 W h0 (tab_new hT hg) hn)
  clear hn hT h0
  go_enter Tryd.func4, Tryd.ntmps4
  go_wp2_with (first
    | (go_at_call 6; (with_reducible refine (AL.out _ G0.out).mono ?_); rintro e w1 ⟨rfl, hg⟩; have G1 := Lib.hid (G0.out.trans hg); obtain ⟨y0, y1, y2, y3, y4, y5, y6, y7, y8, y9⟩ := TN.out.below (li.grown_below hg); clear hg)
    | (go_at_call 8; (with_reducible refine (CK.out _ G1.out).mono ?_); rintro e w2 ⟨rfl, hb⟩; have G2 := Lib.hid (G1.out.trans (of_below hb)); clear hb))
  go_ret
  exact ⟨rfl, G2.out⟩
theorem two_new {w W1 W2 W3 : World} {K K2 : List Nat} {g h : Nat} {σ : Gs} {R tc : Nat} {A : Option Addr} {nc : Nat} {vs : Nat → Value} {bs : Nat → Nat} {R2 tc2 : Nat} {A2 : Option Addr} {nc2 : Nat} {vs2 : Nat → Value} {bs2 : Nat → Nat} (h1 : w.grownBy W1 none) (p1 : PwI W2 K g σ R tc A nc vs bs) (k1 : ∀ k, k ∈ K → W1.heap.size ≤ k) (g1 : W1.grownBy W2 none) (p2 : PwI W3 K2 h σ R2 tc2 A2 nc2 vs2 bs2) (k2 : ∀ k, k ∈ K2 → W2.heap.size ≤ k) (g2 : W2.grownBy W3 none) : Pr w g h σ σ W3 :=
  ⟨K, R, tc, A, nc, vs, bs, K2, R2, tc2, A2, nc2, vs2, bs2, p1.new g2, p2, fun k hk => Nat.le_trans h1.size (k1 k hk), fun k hk => Nat.le_trans h1.size (Nat.le_trans g1.size (k2 k hk)), fun k hk hk2 => by have := p1.lt k hk; have := k2 k hk2; omega, (h1.trans g1).trans g2⟩
theorem refuses_yes {w : World} (N : Nat) (hT : cf.Table w) (hn : cf.wrongN [c0, (N : Int), c2, q, c4, c5, c6, c7, c8, c9] = 0) (hN : 0 < N) (hN8 : N ≤ 8) (q1 : 1 ≤ q) (q2 : q ≤ 16)
    {B : Nat} {A1 : Option Addr} {n1 d1 : Nat} {ff : Nat → Nat → Int} (hs : Rws w B A1 n1 7 ff) (hB : B ≤ w.heap.size) (hd : n1 ≤ d1) (hd2 : d1 ≤ maxLen) (hA1 : 0 < n1 → ∃ ad, A1 = some ad) {B2 : Nat} {A2 : Option Addr} {n2 d2 : Nat} {xs : List Int} (hr : Rd w B2 A2 n2 d2 xs) :
    Calls Tryd.prog 4 #[.agg #[.int .i64 c0, .int .i64 (N : Int), .int .i64 c2, .int .i64 q, .int .i64 c4, .int .i64 c5, .int .i64 c6, .int .i64 c7, .int .i64 c8, .int .i64 c9], .slice A1 n1 d1, .slice A2 n2 d2] w
    fun e w' => e = .returned (.bool true) ∧ w.grownBy w' none := by
  have G0 := Lib.hid (grown_alloc w (.cells #[.int .i64 c0, .int .i64 (N : Int), .int .i64 c2, .int .i64 q, .int .i64 c4, .int .i64 c5, .int .i64 c6, .int .i64 c7, .int .i64 c8, .int .i64 c9] 23))
  have TN := Lib.hid (cf.Ten.new w 23 c0 (N : Int) c2 q c4 c5 c6 c7 c8 c9)
  have AL := Lib.hid (fun W (hg : w.grownBy W none) => alive_any (tab_new hT hg))
  have CK := Lib.hid (fun W (hg : w.grownBy W none) => cf.Check_yes c0 (N : Int) c2 q c4 c5 c6 c7 c8 c9 W (tab_new hT hg) hn)
  have NY := Lib.hid (fun W (hg : w.grownBy W none) => New_yes c0 c2 q c4 c5 c6 c7 c8 c9 (w := W) N (tab_new hT hg) hn hN hN8 q1 q2)
  have FW := Lib.hid (fun W => few_any A1 n1 d1 W hd hd2 hA1)
  have HS := Lib.hid hs
  have HR := Lib.hid hr
  clear hn hT hd hd2 hA1 hs hr
  go_enter Tryd.func4, Tryd.ntmps4
  go_wp2_with (first
    | (go_at_call 6; (with_reducible refine (AL.out _ G0.out).mono ?_); rintro e w1 ⟨rfl, hg⟩; have G1 := Lib.hid (G0.out.trans hg); have T1 := Lib.hid (cf.Ten.below (li.grown_below hg) TN.out); obtain ⟨y0, y1, y2, y3, y4, y5, y6, y7, y8, y9⟩ := T1.out; clear hg)
    | (go_at_call 8; (with_reducible refine (CK.out _ G1.out).mono ?_); rintro e w2 ⟨rfl, hb⟩; have G2 := Lib.hid (G1.out.trans (of_below hb)); have T2 := Lib.hid (cf.Ten.below hb T1.out); obtain ⟨z0, z1, z2, z3, z4, z5, z6, z7, z8, z9⟩ := T2.out; clear hb)
    | (go_at_call 7; (first
        | (have mark := S4; fail)
        | ((with_reducible refine (NY.out _ G2.out).mono ?_); rintro e w3 ⟨g, K, R, A, nc, vs, bs, rfl, hp, hk, hg⟩; have G3 := Lib.hid (G2.out.trans hg); have P3 := Lib.hid hp; have K3 := Lib.hid hk; have D3 := Lib.hid hg; have T3 := Lib.hid (cf.Ten.below (li.grown_below hg) T2.out); obtain ⟨u0, u1, u2, u3, u4, u5, u6, u7, u8, u9⟩ := T3.out; clear hp hk hg)
        | ((with_reducible refine (NY.out _ G3.out).mono ?_); rintro e w4 ⟨h, K', R', A', nc', vs', bs', rfl, hp, hk, hg⟩; have P4 := Lib.hid (two_new G2.out P3.out K3.out D3.out hp hk hg); clear hp hk hg)))
    | (go_at_call 10; (with_reducible refine (FW.out _).mono ?_); rintro e w5 ⟨⟨l, d3, hl, hl2, rfl⟩, hw⟩; subst hw))
  go_loopw [11] (fun x wr => ∃ i : Nat, i ≤ l ∧ x = .int .i64 (i : Int) ∧ ∃ σ, Pr w g h σ σ wr ∧ σ.M ≤ i + 1) (fun x _ => l - (intOf x).toNat)
  case atStart => exact ⟨0, Nat.zero_le _, rfl, _, P4.out, Nat.le_refl _⟩
  case round =>
    obtain ⟨i, hi, rfl, σ, hp, hm⟩ := hrel
    have PX := Lib.hid hp
    have OK := Lib.hid hp.ok
    by_cases hlt : i < l
    · obtain ⟨b, off, rfl, hb, h7⟩ := steps_at (HS.out.less hl2) hlt
      have H7 := Lib.hid (h7.new hp.grow)
      obtain ⟨k, hk⟩ : ∃ k, ff i 0 = k := ⟨_, rfl⟩
      obtain ⟨t, ht⟩ : ∃ t, ff i 1 = t := ⟨_, rfl⟩
      obtain ⟨ii, hii⟩ : ∃ ii, ff i 2 = ii := ⟨_, rfl⟩
      obtain ⟨f, hf⟩ : ∃ f, ff i 3 = f := ⟨_, rfl⟩
      obtain ⟨j, hj⟩ : ∃ j, ff i 4 = j := ⟨_, rfl⟩
      obtain ⟨c, hc⟩ : ∃ c, ff i 5 = c := ⟨_, rfl⟩
      obtain ⟨n, hn⟩ : ∃ n, ff i 6 = n := ⟨_, rfl⟩
      rw [hk, ht, hii, hf, hj, hc, hn] at H7
      have CO := Lib.hid (fun W (hg : w.grownBy W none) => code_any (Rd.grow_ HR.out hg) i)
      obtain ⟨no, hno⟩ : ∃ no, xs.getD i 0 = no := ⟨_, rfl⟩
      rw [hno] at CO
      have M1000 : σ.M < 1000 := by omega
      have GX := Lib.hid hp.grow
      obtain ⟨s0, s1, s2, s3, s4, s5, s6⟩ := H7.out
      obtain ⟨z, hz⟩ : ∃ z, stz σ k t ii f j c n no = z := ⟨_, rfl⟩
      obtain ⟨⟨v1, v2⟩, hv⟩ : ∃ v, sta σ k t ii f j c n no = v := ⟨_, rfl⟩
      have DO := Lib.hid (fun X (hX : wr.grownBy X none) => PX.out.do_ M1000 hX k t ii f j c n no)
      rw [hz, hv] at DO
      have l1 : (0 : Int) ≤ (i : Int) := by omega
      have l2 : (i : Int) < (l : Int) := by omega
      have sw := GX.out.size
      have ZA := Lib.hid (zero5' wr)
      have nb : b ≠ wr.heap.size := by omega
      have nb' := nb.symm
      clear hp h7 hk ht hii hf hj hc hn hno
      go_wp2
      go_region_held3 (fun W => W.cell? ⟨b, off + i * 7, none⟩ = some (.int .i64 k) ∧ W.cell? ⟨b, off + i * 7 + 1, none⟩ = some (.int .i64 t) ∧ W.cell? ⟨b, off + i * 7 + 2, none⟩ = some (.int .i64 ii) ∧ W.cell? ⟨b, off + i * 7 + 3, none⟩ = some (.int .i64 f) ∧ W.cell? ⟨b, off + i * 7 + 4, none⟩ = some (.int .i64 j) ∧ W.cell? ⟨b, off + i * 7 + 5, none⟩ = some (.int .i64 c) ∧ W.cell? ⟨b, off + i * 7 + 6, none⟩ = some (.int .i64 n)) (first | go_keep | with_reducible exact ⟨r0, r1, r2, r3, r4, r5, r6⟩) (first
        | (go_at_call 12; (with_reducible refine (CO.out _ (by first | exact GX.out.trans (gr.grown_drew _ _) | exact GX.out.trans ((grown_alloc _ _).trans (gr.grown_drew _ _)) | exact (GX.out.trans (gr.grown_drew _ _)).trans (grown_alloc _ _))).mono ?_); rintro e w6 ⟨rfl, hw⟩; subst hw)
        | (go_at_call 11; (first
            | ((with_reducible refine (DO.out _ (gr.grown_drew _ _)).mono ?_); rintro e wf ⟨rfl, hP, hF, L, hL, hB⟩; have QQ := Lib.hid ((H7.out.new (gr.grown_drew _ _)).gr hL (fun hm => by have := (hB _ hm).1; omega)); have PF := Lib.hid hP; obtain ⟨r0, r1, r2, r3, r4, r5, r6⟩ := QQ.out; clear hP hL hB hF)
            | ((with_reducible refine (DO.out _ ((grown_alloc _ _).trans (gr.grown_drew _ _))).mono ?_); rintro e wf ⟨rfl, hP, hF, L, hL, hB⟩; have QQ := Lib.hid ((H7.out.new ((grown_alloc _ _).trans (gr.grown_drew _ _))).gr hL (fun hm => by have := (hB _ hm).1; omega)); have ZF := Lib.hid ((Z5.gr (L := []) ZA.out (.new (gr.grown_drew _ _)) (by simp) (by simp)).gr hL (by simp) (fun hm => by have := (hB _ hm).2; omega)); obtain ⟨⟨a0, a1, a2, a3, a4⟩, f0, f1, f2, f3, f4⟩ := ZF.out.at_; have PF := Lib.hid (fun w'' (hg : gr.Gr [wr.heap.size] wf w'') => hF wr.heap.size w'' (Nat.le_refl _) (by simp) hg); have FS := Lib.hid hL.size; obtain ⟨r0, r1, r2, r3, r4, r5, r6⟩ := QQ.out; clear hP hL hB hF))))
      all_goals first
      | (obtain ⟨wz, hzw⟩ : ∃ wz, wz = ((((wf.setCell ⟨wr.heap.size, 0, none⟩ (.int .i64 z)).setCell ⟨wr.heap.size, 1, none⟩ (.int .i64 v1)).setCell ⟨wr.heap.size, 2, none⟩ (.int .i64 v2)).setCell ⟨wr.heap.size, 3, none⟩ (.int .i64 0)).setCell ⟨wr.heap.size, 4, none⟩ (.int .i64 0) := ⟨_, rfl⟩
         obtain ⟨pp, hpp⟩ : ∃ pp, pp = wr.heap.size := ⟨_, rfl⟩
         have BZ := Lib.hid (show B5 wz pp z v1 v2 by rw [hzw, hpp]; refine ⟨?_, ?_, ?_, ?_, ?_⟩ <;> simp [go_sem, a0, a1, a2, a3, a4])
         have PB := Lib.hid (show PrB w g h (stg σ k t ii f j c n no) σ pp wz by rw [hzw, hpp]; exact PF.out _ (.one (gp.setA _ _ _ _ _ _ _) (by simp)))
         have PZ := Lib.hid PB.out.pr
         have HZ := Lib.hid (show St7 wz b (off + i * 7) k t ii f j c n by rw [hzw]; exact QQ.out.gr (L := [wr.heap.size]) (.one (gp.setA _ _ _ _ _ _ _) (by simp)) (by simpa using nb))
         rw [← hzw, ← hpp]
         clear hzw hpp
         obtain ⟨x0, x1, x2, x3, x4⟩ := BZ.out
         clear s0 s1 s2 s3 s4 s5 s6 r0 r1 r2 r3 r4 r5 r6
         by_cases h0 : z = 0
         · subst h0
           obtain ⟨z1, z2, z3⟩ := stz_0 hz
           rw [hv] at z2
           have DO2 := Lib.hid (fun X (hX : wz.grownBy X none) => PB.out.do2 M1000 hX k t ii f j c n 0)
           rw [z1, z2, z3] at DO2
           have MM := stg_M (σ := σ) k t ii f j c n no
           obtain ⟨s0, s1, s2, s3, s4, s5, s6⟩ := HZ.out
           have nW := PZ.out.size
           clear hz hv z1 z2 z3
           go_wp2
           go_region_held3 (fun W => W.cell? ⟨b, off + i * 7, none⟩ = some (.int .i64 k) ∧ W.cell? ⟨b, off + i * 7 + 1, none⟩ = some (.int .i64 t) ∧ W.cell? ⟨b, off + i * 7 + 2, none⟩ = some (.int .i64 ii) ∧ W.cell? ⟨b, off + i * 7 + 3, none⟩ = some (.int .i64 f) ∧ W.cell? ⟨b, off + i * 7 + 4, none⟩ = some (.int .i64 j) ∧ W.cell? ⟨b, off + i * 7 + 5, none⟩ = some (.int .i64 c) ∧ W.cell? ⟨b, off + i * 7 + 6, none⟩ = some (.int .i64 n) ∧ W.cell? ⟨pp, 0, none⟩ = some (.int .i64 0) ∧ W.cell? ⟨pp, 1, none⟩ = some (.int .i64 v1) ∧ W.cell? ⟨pp, 2, none⟩ = some (.int .i64 v2) ∧ W.cell? ⟨pp, 3, none⟩ = some (.int .i64 0) ∧ W.cell? ⟨pp, 4, none⟩ = some (.int .i64 0)) (first | go_keep | with_reducible exact ⟨r0, r1, r2, r3, r4, r5, r6, t0, t1, t2, t3, t4⟩) (first
             | (go_at_call 11; (with_reducible refine (DO2.out _ (gr.grown_drew _ _)).mono ?_); rintro e wg ⟨rfl, hP, L, hL, hB, hb2⟩; have QQ := Lib.hid ((HZ.out.new (gr.grown_drew _ _)).gr hL (fun hm => by have := hB _ hm; omega)); have BB := Lib.hid ((BZ.out.new (gr.grown_drew _ _)).gr hL hb2); have P9 := Lib.hid hP; obtain ⟨r0, r1, r2, r3, r4, r5, r6⟩ := QQ.out; obtain ⟨t0, t1, t2, t3, t4⟩ := BB.out; clear hP hL hB hb2))
           go_wp2
           exact ⟨⟨i + 1, by omega, by go_num, _, P9.out, by omega⟩, by simp [intOf]; omega⟩
         · obtain ⟨e1, e2, e3⟩ := st_e hz h0
           rw [hv] at e1 e2
           dsimp only at e1 e2
           subst e1 e2
           rw [e3] at PZ
           have hzb : (z != 0) = true := by simpa using h0
           clear hz hv e3
           go_wp2_with (first
             | (go_at_call 15; (first
                | (have mark := V7; ((with_reducible refine P7.out.swap.view.mono ?_); rintro e w8 ⟨A3, m3, e3, A4, m4, e4, rfl, hv2, hg⟩; have U8 := Lib.hid hv2; have V8 := Lib.hid (V7.out.far hg); have P8 := Lib.hid (P7.out.new hg); clear hv2 hg))
                | ((with_reducible refine PZ.out.view.mono ?_); rintro e w7 ⟨A1, m1, e1, A2', m2, e2, rfl, hv2, hg⟩; have V7 := Lib.hid hv2; have P7 := Lib.hid (PZ.out.new hg); clear hv2 hg)))
             | (go_at_call 14; (with_reducible refine (alike OK.out V8.out U8.out).mono ?_); rintro e w9 ⟨rfl, hg⟩; have P9 := Lib.hid (P8.out.new hg); clear hg))
           exact ⟨⟨i + 1, by omega, by go_num, σ, P9.out, by omega⟩, by simp [intOf]; omega⟩
        )
      | (obtain ⟨wz, hzw⟩ : ∃ wz, wz = wf.alloc (.cells #[.int .i64 z, .int .i64 v1, .int .i64 v2, .int .i64 0, .int .i64 0] 36) := ⟨_, rfl⟩
         obtain ⟨pp, hpp⟩ : ∃ pp, pp = wf.heap.size := ⟨_, rfl⟩
         have BZ := Lib.hid (show B5 wz pp z v1 v2 by rw [hzw, hpp]; exact B5.made _ _ _ _ _)
         have PB := Lib.hid (show PrB w g h (stg σ k t ii f j c n no) σ pp wz by rw [hzw, hpp]; exact PF.out.box _)
         have PZ := Lib.hid PB.out.pr
         have HZ := Lib.hid (show St7 wz b (off + i * 7) k t ii f j c n by rw [hzw]; exact QQ.out.new (grown_alloc _ _))
         rw [← hzw, ← hpp]
         clear hzw hpp
         obtain ⟨x0, x1, x2, x3, x4⟩ := BZ.out
         clear s0 s1 s2 s3 s4 s5 s6 r0 r1 r2 r3 r4 r5 r6
         by_cases h0 : z = 0
         · subst h0
           obtain ⟨z1, z2, z3⟩ := stz_0 hz
           rw [hv] at z2
           have DO2 := Lib.hid (fun X (hX : wz.grownBy X none) => PB.out.do2 M1000 hX k t ii f j c n 0)
           rw [z1, z2, z3] at DO2
           have MM := stg_M (σ := σ) k t ii f j c n no
           obtain ⟨s0, s1, s2, s3, s4, s5, s6⟩ := HZ.out
           have nW := PZ.out.size
           clear hz hv z1 z2 z3
           go_wp2
           go_region_held3 (fun W => W.cell? ⟨b, off + i * 7, none⟩ = some (.int .i64 k) ∧ W.cell? ⟨b, off + i * 7 + 1, none⟩ = some (.int .i64 t) ∧ W.cell? ⟨b, off + i * 7 + 2, none⟩ = some (.int .i64 ii) ∧ W.cell? ⟨b, off + i * 7 + 3, none⟩ = some (.int .i64 f) ∧ W.cell? ⟨b, off + i * 7 + 4, none⟩ = some (.int .i64 j) ∧ W.cell? ⟨b, off + i * 7 + 5, none⟩ = some (.int .i64 c) ∧ W.cell? ⟨b, off + i * 7 + 6, none⟩ = some (.int .i64 n) ∧ W.cell? ⟨pp, 0, none⟩ = some (.int .i64 0) ∧ W.cell? ⟨pp, 1, none⟩ = some (.int .i64 v1) ∧ W.cell? ⟨pp, 2, none⟩ = some (.int .i64 v2) ∧ W.cell? ⟨pp, 3, none⟩ = some (.int .i64 0) ∧ W.cell? ⟨pp, 4, none⟩ = some (.int .i64 0)) (first | go_keep | with_reducible exact ⟨r0, r1, r2, r3, r4, r5, r6, t0, t1, t2, t3, t4⟩) (first
             | (go_at_call 11; (with_reducible refine (DO2.out _ (gr.grown_drew _ _)).mono ?_); rintro e wg ⟨rfl, hP, L, hL, hB, hb2⟩; have QQ := Lib.hid ((HZ.out.new (gr.grown_drew _ _)).gr hL (fun hm => by have := hB _ hm; omega)); have BB := Lib.hid ((BZ.out.new (gr.grown_drew _ _)).gr hL hb2); have P9 := Lib.hid hP; obtain ⟨r0, r1, r2, r3, r4, r5, r6⟩ := QQ.out; obtain ⟨t0, t1, t2, t3, t4⟩ := BB.out; clear hP hL hB hb2))
           go_wp2
           exact ⟨⟨i + 1, by omega, by go_num, _, P9.out, by omega⟩, by simp [intOf]; omega⟩
         · obtain ⟨e1, e2, e3⟩ := st_e hz h0
           rw [hv] at e1 e2
           dsimp only at e1 e2
           subst e1 e2
           rw [e3] at PZ
           have hzb : (z != 0) = true := by simpa using h0
           clear hz hv e3
           go_wp2_with (first
             | (go_at_call 15; (first
                | (have mark := V7; ((with_reducible refine P7.out.swap.view.mono ?_); rintro e w8 ⟨A3, m3, e3, A4, m4, e4, rfl, hv2, hg⟩; have U8 := Lib.hid hv2; have V8 := Lib.hid (V7.out.far hg); have P8 := Lib.hid (P7.out.new hg); clear hv2 hg))
                | ((with_reducible refine PZ.out.view.mono ?_); rintro e w7 ⟨A1, m1, e1, A2', m2, e2, rfl, hv2, hg⟩; have V7 := Lib.hid hv2; have P7 := Lib.hid (PZ.out.new hg); clear hv2 hg)))
             | (go_at_call 14; (with_reducible refine (alike OK.out V8.out U8.out).mono ?_); rintro e w9 ⟨rfl, hg⟩; have P9 := Lib.hid (P8.out.new hg); clear hg))
           exact ⟨⟨i + 1, by omega, by go_num, σ, P9.out, by omega⟩, by simp [intOf]; omega⟩
        )
    · have ei : i = l := by omega
      subst ei
      clear hp
      go_wp2_with (first
        | (go_at_call 15; (first
           | (have mark := V7; ((with_reducible refine P7.out.swap.view.mono ?_); rintro e w8 ⟨A3, m3, e3, A4, m4, e4, rfl, hv2, hg⟩; have U8 := Lib.hid hv2; have V8 := Lib.hid (V7.out.far hg); have P8 := Lib.hid (P7.out.new hg); clear hv2 hg))
           | ((with_reducible refine PX.out.view.mono ?_); rintro e w7 ⟨A1', m1, e1, A2', m2, e2, rfl, hv2, hg⟩; have V7 := Lib.hid hv2; have P7 := Lib.hid (PX.out.new hg); clear hv2 hg)))
        | (go_at_call 14; (with_reducible refine (alike OK.out V8.out U8.out).mono ?_); rintro e w9 ⟨rfl, hg⟩; have P9 := Lib.hid (P8.out.new hg); clear hg)
        | (go_at_call 17; (first
           | ((with_reducible refine P9.out.made.mono ?_); rintro e w10 ⟨rfl, hw⟩; subst hw)
           | ((with_reducible refine P9.out.swap.made.mono ?_); rintro e w10 ⟨rfl, hw⟩; subst hw))))
      go_ret
      exact ⟨by simp, P9.out.grow⟩
end
theorem refuses_any (a0 a1 a2 a3 a4 a5 a6 a7 a8 a9 : Int) (w : World) (hT : cf.Table w) {A1 : Option Addr} {n1 d1 : Nat} {ff : Nat → Nat → Int} (hs : Rws w w.heap.size A1 n1 7 ff) (hd : n1 ≤ d1) (hd2 : d1 ≤ maxLen) {A2 : Option Addr} {n2 d2 : Nat} {xs : List Int} (hr : Rd w w.heap.size A2 n2 d2 xs) :
    Calls Tryd.prog 4 #[.agg #[.int .i64 a0, .int .i64 a1, .int .i64 a2, .int .i64 a3, .int .i64 a4, .int .i64 a5, .int .i64 a6, .int .i64 a7, .int .i64 a8, .int .i64 a9], .slice A1 n1 d1, .slice A2 n2 d2] w
    fun e w' => e = .returned (.bool true) ∧ w.grownBy w' none := by
  by_cases h : cf.wrongN [a0, a1, a2, a3, a4, a5, a6, a7, a8, a9] = 0
  · obtain ⟨-, ⟨b1, b2⟩, -, ⟨b3, b4⟩, -⟩ := cf.fine (cf.wrong_zero h).1
    obtain ⟨N, rfl⟩ : ∃ N : Nat, a1 = (N : Int) := ⟨a1.toNat, by omega⟩
    exact refuses_yes a0 a2 a3 a4 a5 a6 a7 a8 a9 N hT h (by omega) (by omega) b3 b4 hs (Nat.le_refl _) hd hd2 (fun h0 => by obtain ⟨b, off, e, _⟩ := hs 0 h0; exact ⟨_, e⟩) hr
  · exact refuses_no a0 a2 a3 a4 a5 a6 a7 a8 a9 a1 _ _ (n := cf.wrongN [a0, a1, a2, a3, a4, a5, a6, a7, a8, a9]) (by simpa using h) hT rfl
end Go.Proofs.YtfhebjkoojodiaaDoor.gq
