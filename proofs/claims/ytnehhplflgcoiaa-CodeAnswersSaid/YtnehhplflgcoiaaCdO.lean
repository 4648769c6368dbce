/- Layer 24: the walk of the statement on answers: one that may be told. -/
import Derived.Test.YtnehhplflgcoiaaCdN
import Derived.StillTailTactics
namespace Go.Proofs.Ytnehhplflgcoiaa.cd
open Go.ChangeShapes Go.WideShapes Go.ChangeAt Go.RowKit gen yb
set_option linter.unusedVariables false
set_option maxHeartbeats 1000000
set_option maxRecDepth 100000

theorem own_prefix {w : World} {base g n cap : Nat} {m : List UInt8} (h : Ly w base (.slice (some ⟨g, 0, none⟩) n cap) m) (hn : n = m.length) {k : Nat} (hk : k ≤ n) : w.ownsRow base 5 1 (.slice (some ⟨g, 0, none⟩) k cap) k (u8s (m.take k)) := by
  subst hn
  refine ⟨by rw [u8s_length, List.length_take]; omega, ?_⟩
  rcases h.2 with ⟨e, _⟩ | ⟨g', cap', cur, e, hb, hg, h1, h2, h3, h4⟩
  · cases e
  · injection e with e1 e2 e3
    injection e1 with e1
    injection e1 with e1 _ _
    subst e1 e3
    refine .inr ⟨g, cap, cur, rfl, hb, hg, by omega, h2, h3, ?_⟩
    have h5 := congrArg (List.take (k * 1)) h4
    rw [List.take_take, Nat.min_eq_left (by omega)] at h5
    rw [h5]
    simp [u8s, List.map_take]
theorem anss_octs (c k n d r : Int) (hd : 0 ≤ d ∧ d ≤ 65535) (hr : 0 ≤ r ∧ r ≤ 65535) : ((octs [c, k, 0, 0, 0, 0] n).take 2 ++ (octs [c, k, 0, 0, 0, 0] n).drop 6) ++ [b8 (d / 256), b8 d, b8 (r / 256), b8 r] = anss c k n d r := by
  simp [octs, anss, be]
theorem in_len {c k n d r : Int} (w : World) {A : Option Addr} {q e : Nat} (hn : ¬ q = 14) (h1' : inr c 255 = true) (h2' : inr k 255 = true) (h3' : inr d 65535 = true) (h4' : inr r 65535 = true) (hnn : -9223372036854775808 ≤ n ∧ n ≤ 9223372036854775807) : Calls Try.prog 5 #[.agg #[.int .i64 c, .int .i64 k, .int .i64 n, .int .i64 d, .int .i64 r], .slice A q e] w fun e w' => e = .returned (.bool true) ∧ w.grownBy w' none := by
  have G0 := Lib.hid (grown_alloc w (.cells #[.int .i64 c, .int .i64 k, .int .i64 n, .int .i64 d, .int .i64 r] 38))
  have S0 := Lib.hid (Av.new w 38 c k n d r)
  have ZW := Lib.hid (fun w : World => Av.new w 38 0 0 0 0 0)
  have h1 : ((q : Int) == 14) = false := by simp; omega
  have h2 : ((q : Int) != 14) = true := by simp; omega
  have TE := Lib.hid (fun w => Tell_yes w h1' h2' h3' h4' hnn)
  have OC := Lib.hid (fun w => octets_any c k 0 0 0 0 n w)
  have LO := Lib.hid (octs_length (l := [c, k, 0, 0, 0, 0]) n rfl)
  have p3 := inr_true h3'
  have p4 := inr_true h4'
  have AO := Lib.hid (anss_octs c k n d r p3 p4)
  have LA := Lib.hid (anss_length c k n d r)
  obtain ⟨n1, n2, n3, n4, n5⟩ := nv_anss h1' h2' h3' h4' hnn
  have TB := Lib.hid (fun W g (hH : Hw W g (anss c k n d r)) => Told_yes (hH.ry LA.out (by unfold maxLen; omega)))
  rw [n1, n2, n3, n4, n5] at TB
  clear n1 n2 n3 n4 n5
  have t1 : decide (c < 0) = false := decide_eq_false (by have := inr_true h1'; omega)
  have t2 : decide (255 < c) = false := decide_eq_false (by have := inr_true h1'; omega)
  have t3 : decide (k < 0) = false := decide_eq_false (by have := inr_true h2'; omega)
  have t4 : decide (255 < k) = false := decide_eq_false (by have := inr_true h2'; omega)
  have t5 : decide (d < 0) = false := decide_eq_false (by omega)
  have t6 : decide (65535 < d) = false := decide_eq_false (by omega)
  have t7 : decide (r < 0) = false := decide_eq_false (by omega)
  have t8 : decide (65535 < r) = false := decide_eq_false (by omega)
  have d0 : 0 ≤ d := p3.1
  have r0 : 0 ≤ r := p4.1
  have D1 := Lib.hid p3.2
  have R1 := Lib.hid p4.2
  have V8 := Lib.hid (fun x => (show Value.int .u8 (x % 256) = yb.u8 (b8 x) by unfold yb.u8; rw [b8_nat]))
  clear h1' h2' h3' h4' hnn p3 p4
  generalize hm : octs [c, k, 0, 0, 0, 0] n = mo at OC LO AO
  have HM := Lib.hid hm
  clear hm
  obtain ⟨sy, hsy⟩ : ∃ sy : ByteArray, ByteArray.mk (anss c k n d r).toArray = sy := ⟨_, rfl⟩
  have SY := Lib.hid hsy
  clear hsy
  go_enter Try.func5, Try.ntmps5
  go_wp2_with (first
    | (go_at_call 6; (with_reducible refine (alive_any _).mono ?_); rintro e w1 ⟨rfl, hg⟩; have G1 := Lib.hid (G0.out.trans hg); have S1 := Lib.hid (S0.out.made hg); obtain ⟨c0, c1, c2, c3, c4⟩ := S1.out; clear hg)
    | (go_at_call 13; (with_reducible refine (TE.out _).mono ?_); rintro e w2 ⟨g2, rfl, hgb, hh, hg⟩; have G2 := Lib.hid (G1.out.trans hg); have S2 := Lib.hid (S1.out.made hg); have H2 := Lib.hid hh; have Z2 := Lib.hid (Nat.le_trans G1.out.size hgb); clear c0 c1 c2 c3 c4; obtain ⟨c0, c1, c2, c3, c4⟩ := S2.out; clear hg hh hgb)
    | (go_at_call 10; (with_reducible refine (OC.out _).mono ?_); rintro e w3 ⟨A3, N3, k3, rfl, hN, hl, hg⟩; obtain rfl : N3 = 14 := hN.trans LO.out; have G3 := Lib.hid (G2.out.trans hg); have S3 := Lib.hid (S2.out.made hg); have H3 := Lib.hid (H2.out.new hg); have L3 := Lib.hid hl; have Z3 := Lib.hid (G2.out.size); clear c0 c1 c2 c3 c4 hg hl hN))
  obtain ⟨g3, rfl⟩ : ∃ g3, A3 = some ⟨g3, 0, none⟩ := by
    rcases L3.out.head with ⟨_, h0, _⟩ | h0
    · omega
    · exact h0
  have k14 : 14 ≤ k3 := (L3.out.ry LO.out.symm).2.1
  have i14 : (14 : Int) ≤ (k3 : Int) := by omega
  have i2 : (2 : Int) ≤ (k3 : Int) := by omega
  have i6 : ¬ (k3 = 6) := by omega
  have gb3 := L3.out.from_ g3 rfl
  have gl3 := L3.out.lt g3 rfl
  obtain ⟨i0, hi, hz0, hz1, hz2⟩ := info_parts info_u8
  have OP := Lib.hid (show w3.drew.ownsRow w2.heap.size 5 1 (.slice (some ⟨g3, 0, none⟩) 2 k3) 2 (u8s (mo.take 2)) from own_prefix L3.out LO.out.symm (by omega))
  have CP := Lib.hid (show ∀ j u, (u8s (mo.drop 6))[j]? = some u → w3.drew.cell? ((⟨g3, 6, none⟩ : Addr).add j) = some u from ((L3.out.ry LO.out.symm).part (k := 6) (j := 8) (c' := k3 - 6) (by omega) (by omega) (by have := (L3.out.ry LO.out.symm).2.2.1; omega)).cells ⟨g3, 6, none⟩ (by simp) |> fun h => by
    rw [List.take_of_length_le (by rw [List.length_drop, LO.out]; omega)] at h
    exact h)
  have LD := Lib.hid (show (u8s (mo.drop 6)).length = 8 * 1 by rw [u8s_length, List.length_drop, LO.out])
  clear hz0 hz2
  go_still_tail 4, (by kernel_rfl)
  change wpList _ _ _ _ _ w3.drew
  refine wpList_append_fits _ rfl (.tmp 75) (.tmp 77) 26 rfl w2.heap.size 5 i0 1 Try.underlying26 hi hz1 g3 2 k3 _ rfl OP.out ⟨g3, 6, none⟩ 8 (k3 - 6) (u8s (mo.drop 6)) rfl LD.out CP.out (u8s_one _) (by omega) ?_
  intro w4 own4 gr4
  have L4 := Lib.hid (show Ly w4 w2.heap.size (.slice (some ⟨g3, 0, none⟩) 10 k3) (mo.take 2 ++ mo.drop 6) by
    unfold Ly
    rw [u8s_append]
    have e10 : (mo.take 2 ++ mo.drop 6).length = 10 := by rw [List.length_append, List.length_take, List.length_drop, LO.out]; rfl
    rw [e10]
    exact own4)
  have L10 := Lib.hid (show (mo.take 2 ++ mo.drop 6).length = 10 by rw [List.length_append, List.length_take, List.length_drop, LO.out]; rfl)
  have G4 := Lib.hid (li.grown_new G3.out ((gr.grown_drew w3 (some g3)).trans gr4) (Nat.le_trans Z3.out gb3))
  have S4 := Lib.hid (S3.out.kept ((gr.grown_drew w3 (some g3)).trans gr4) (by have := Z3.out; have := Z2.out; have := H2.out.lt; simp; omega))
  have H4 := Lib.hid (H3.out.kept ((gr.grown_drew w3 (some g3)).trans gr4) (by have := H2.out.lt; simp; omega))
  obtain ⟨c0, c1, c2, c3, c4⟩ := S4.out
  clear own4 gr4
  have q1 : wrap64 (d.tdiv 256) = d / 256 := by rw [Int.tdiv_eq_ediv_of_nonneg d0]; have := D1.out; unfold wrap64; omega
  have q2 : wrap64 (r.tdiv 256) = r / 256 := by rw [Int.tdiv_eq_ediv_of_nonneg r0]; have := R1.out; unfold wrap64; omega
  have E4 : #[Value.int .u8 (d / 256 % 256), .int .u8 (d % 256), .int .u8 (r / 256 % 256), .int .u8 (r % 256)] = (u8s [b8 (d / 256), b8 d, b8 (r / 256), b8 r]).toArray := by simp [u8s, yb.u8, b8_nat]
  have Y4 := Lib.hid (show Ry (w4.alloc (.cells #[Value.int .u8 (d / 256 % 256), .int .u8 (d % 256), .int .u8 (r / 256 % 256), .int .u8 (r % 256)] 5)) (some ⟨w4.heap.size, 0, none⟩) 4 4 [b8 (d / 256), b8 d, b8 (r / 256), b8 r] by
    rw [E4]
    exact (Hw.made w4 _).ry rfl (by unfold maxLen; omega))
  have GA := Lib.hid (grown_alloc w4 (.cells #[Value.int .u8 (d / 256 % 256), .int .u8 (d % 256), .int .u8 (r / 256 % 256), .int .u8 (r % 256)] 5))
  clear E4
  have g34 : w2.heap.size ≤ w4.heap.size := by have := G4.out.size; have := L4.out.lt g3 rfl; omega
  have X5 := Lib.hid (fun W (hg : (w4.alloc (.cells #[Value.int .u8 (d / 256 % 256), .int .u8 (d % 256), .int .u8 (r / 256 % 256), .int .u8 (r % 256)] 5)).grownBy W (some g3)) => (show w.grownBy W none ∧ Av W w.heap.size c k n d r ∧ Hw W g2 (anss c k n d r) from
    ⟨li.grown_new (G4.out.trans GA.out) hg (Nat.le_trans Z3.out gb3), (S4.out.made GA.out).kept hg (by have := Z3.out; have := Z2.out; have := H2.out.lt; simp; omega), (H4.out.new GA.out).kept hg (by have := H2.out.lt; simp; omega)⟩))
  have WA := Lib.hid (fun w : World => Av.new w 38 c k n d r)
  go_wp2_with (first
    | (refine append_u8s rfl (.tmp 79) (.tmp 96) rfl w2.heap.size _ _ rfl (L4.out.new GA.out) _ 4 4 _ rfl Y4.out (by rw [L10.out]; omega) (by simp; omega) ?_; intro A5 N5 k5 w5 hn5 own5 gr5; rw [AO.out] at hn5 own5; obtain rfl : N5 = 14 := hn5.trans LA.out; have L5 := Lib.hid own5; have V5 := Lib.hid (X5.out _ gr5); have G5 := Lib.hid V5.out.1; clear hn5 own5 gr5 c0 c1 c2 c3 c4)
    | (have mark := G6; go_at_call 14; (with_reducible refine (Told_len hn).mono ?_); rintro e w8 ⟨rfl, hg⟩; have G8 := Lib.hid ((G6.out.trans hg).trans (grown_alloc w8 (.cells #[.int .i64 0, .int .i64 0, .int .i64 0, .int .i64 0, .int .i64 0] 38))); clear c0 c1 c2 c3 c4; obtain ⟨c0, c1, c2, c3, c4⟩ := ZW.out w8; clear hg)
    | (go_at_call 14; (with_reducible refine (TB.out _ _ V5.out.2.2).mono ?_); rintro e w6 ⟨rfl, hg⟩; have hga := hg.trans (grown_alloc w6 (.cells #[.int .i64 c, .int .i64 k, .int .i64 n, .int .i64 d, .int .i64 r] 38)); have G6 := Lib.hid (G5.out.trans hga); have e3 := hw_str2 (V5.out.2.2.new hga) LA.out; have e4 := ((L5.out.new hga).ry LA.out.symm).str (by omega); rw [SY.out] at e3 e4; have S6 := Lib.hid (V5.out.2.1.made hga); have W6 := Lib.hid (WA.out w6); obtain ⟨c0, c1, c2, c3, c4⟩ := S6.out; obtain ⟨x0, x1, x2, x3, x4⟩ := W6.out; clear hg hga))
  go_ret
  exact ⟨rfl, G8.out⟩
theorem in_yes {c k n d r : Int} (w : World) {b off e : Nat} {m : List UInt8} (h : Ry w (some ⟨b, off, none⟩) 14 e m) (h1' : inr c 255 = true) (h2' : inr k 255 = true) (h3' : inr d 65535 = true) (h4' : inr r 65535 = true) (hnn : -9223372036854775808 ≤ n ∧ n ≤ 9223372036854775807) : Calls Try.prog 5 #[.agg #[.int .i64 c, .int .i64 k, .int .i64 n, .int .i64 d, .int .i64 r], .slice (some ⟨b, off, none⟩) 14 e] w fun e w' => e = .returned (.bool true) ∧ w.grownBy w' none := by
  have G0 := Lib.hid (grown_alloc w (.cells #[.int .i64 c, .int .i64 k, .int .i64 n, .int .i64 d, .int .i64 r] 38))
  have S0 := Lib.hid (Av.new w 38 c k n d r)
  have ZW := Lib.hid (fun w : World => Av.new w 38 0 0 0 0 0)
  have TY := Lib.hid (fun W (hg : w.grownBy W none) => Told_yes (h.made hg))
  have TN := Lib.hid (fun W => Tell_yes (c := nv m 0 1) (k := nv m 1 1) (n := nv m 2 8) (d := nv m 10 2) (r := nv m 12 2) W (nv_in1 m 0) (nv_in1 m 1) (nv_in2 m 10) (nv_in2 m 12) (wrap_bd _))
  have NW := Lib.hid (fun w : World => Av.new w 38 (nv m 0 1) (nv m 1 1) (nv m 2 8) (nv m 10 2) (nv m 12 2))
  have AE := Lib.hid (anss_nv h.1)
  have HL := Lib.hid h.1
  have HH := Lib.hid h
  obtain ⟨sx, hsx⟩ : ∃ sx : ByteArray, ByteArray.mk m.toArray = sx := ⟨_, rfl⟩
  have SX := Lib.hid hsx
  clear h hsx
  have TE := Lib.hid (fun w => Tell_yes w h1' h2' h3' h4' hnn)
  have OC := Lib.hid (fun w => octets_any c k 0 0 0 0 n w)
  have LO := Lib.hid (octs_length (l := [c, k, 0, 0, 0, 0]) n rfl)
  have p3 := inr_true h3'
  have p4 := inr_true h4'
  have AO := Lib.hid (anss_octs c k n d r p3 p4)
  have LA := Lib.hid (anss_length c k n d r)
  obtain ⟨n1, n2, n3, n4, n5⟩ := nv_anss h1' h2' h3' h4' hnn
  have TB := Lib.hid (fun W g (hH : Hw W g (anss c k n d r)) => Told_yes (hH.ry LA.out (by unfold maxLen; omega)))
  rw [n1, n2, n3, n4, n5] at TB
  clear n1 n2 n3 n4 n5
  have t1 : decide (c < 0) = false := decide_eq_false (by have := inr_true h1'; omega)
  have t2 : decide (255 < c) = false := decide_eq_false (by have := inr_true h1'; omega)
  have t3 : decide (k < 0) = false := decide_eq_false (by have := inr_true h2'; omega)
  have t4 : decide (255 < k) = false := decide_eq_false (by have := inr_true h2'; omega)
  have t5 : decide (d < 0) = false := decide_eq_false (by omega)
  have t6 : decide (65535 < d) = false := decide_eq_false (by omega)
  have t7 : decide (r < 0) = false := decide_eq_false (by omega)
  have t8 : decide (65535 < r) = false := decide_eq_false (by omega)
  have d0 : 0 ≤ d := p3.1
  have r0 : 0 ≤ r := p4.1
  have D1 := Lib.hid p3.2
  have R1 := Lib.hid p4.2
  have V8 := Lib.hid (fun x => (show Value.int .u8 (x % 256) = yb.u8 (b8 x) by unfold yb.u8; rw [b8_nat]))
  clear h1' h2' h3' h4' hnn p3 p4
  generalize hm : octs [c, k, 0, 0, 0, 0] n = mo at OC LO AO
  have HM := Lib.hid hm
  clear hm
  obtain ⟨sy, hsy⟩ : ∃ sy : ByteArray, ByteArray.mk (anss c k n d r).toArray = sy := ⟨_, rfl⟩
  have SY := Lib.hid hsy
  clear hsy
  go_enter Try.func5, Try.ntmps5
  go_wp2_with (first
    | (go_at_call 6; (with_reducible refine (alive_any _).mono ?_); rintro e w1 ⟨rfl, hg⟩; have G1 := Lib.hid (G0.out.trans hg); have S1 := Lib.hid (S0.out.made hg); obtain ⟨c0, c1, c2, c3, c4⟩ := S1.out; clear hg)
    | (go_at_call 13; (with_reducible refine (TE.out _).mono ?_); rintro e w2 ⟨g2, rfl, hgb, hh, hg⟩; have G2 := Lib.hid (G1.out.trans hg); have S2 := Lib.hid (S1.out.made hg); have H2 := Lib.hid hh; have Z2 := Lib.hid (Nat.le_trans G1.out.size hgb); clear c0 c1 c2 c3 c4; obtain ⟨c0, c1, c2, c3, c4⟩ := S2.out; clear hg hh hgb)
    | (go_at_call 10; (with_reducible refine (OC.out _).mono ?_); rintro e w3 ⟨A3, N3, k3, rfl, hN, hl, hg⟩; obtain rfl : N3 = 14 := hN.trans LO.out; have G3 := Lib.hid (G2.out.trans hg); have S3 := Lib.hid (S2.out.made hg); have H3 := Lib.hid (H2.out.new hg); have L3 := Lib.hid hl; have Z3 := Lib.hid (G2.out.size); clear c0 c1 c2 c3 c4 hg hl hN))
  obtain ⟨g3, rfl⟩ : ∃ g3, A3 = some ⟨g3, 0, none⟩ := by
    rcases L3.out.head with ⟨_, h0, _⟩ | h0
    · omega
    · exact h0
  have k14 : 14 ≤ k3 := (L3.out.ry LO.out.symm).2.1
  have i14 : (14 : Int) ≤ (k3 : Int) := by omega
  have i2 : (2 : Int) ≤ (k3 : Int) := by omega
  have i6 : ¬ (k3 = 6) := by omega
  have gb3 := L3.out.from_ g3 rfl
  have gl3 := L3.out.lt g3 rfl
  obtain ⟨i0, hi, hz0, hz1, hz2⟩ := info_parts info_u8
  have OP := Lib.hid (show w3.drew.ownsRow w2.heap.size 5 1 (.slice (some ⟨g3, 0, none⟩) 2 k3) 2 (u8s (mo.take 2)) from own_prefix L3.out LO.out.symm (by omega))
  have CP := Lib.hid (show ∀ j u, (u8s (mo.drop 6))[j]? = some u → w3.drew.cell? ((⟨g3, 6, none⟩ : Addr).add j) = some u from ((L3.out.ry LO.out.symm).part (k := 6) (j := 8) (c' := k3 - 6) (by omega) (by omega) (by have := (L3.out.ry LO.out.symm).2.2.1; omega)).cells ⟨g3, 6, none⟩ (by simp) |> fun h => by
    rw [List.take_of_length_le (by rw [List.length_drop, LO.out]; omega)] at h
    exact h)
  have LD := Lib.hid (show (u8s (mo.drop 6)).length = 8 * 1 by rw [u8s_length, List.length_drop, LO.out])
  clear hz0 hz2
  go_still_tail 4, (by kernel_rfl)
  change wpList _ _ _ _ _ w3.drew
  refine wpList_append_fits _ rfl (.tmp 75) (.tmp 77) 26 rfl w2.heap.size 5 i0 1 Try.underlying26 hi hz1 g3 2 k3 _ rfl OP.out ⟨g3, 6, none⟩ 8 (k3 - 6) (u8s (mo.drop 6)) rfl LD.out CP.out (u8s_one _) (by omega) ?_
  intro w4 own4 gr4
  have L4 := Lib.hid (show Ly w4 w2.heap.size (.slice (some ⟨g3, 0, none⟩) 10 k3) (mo.take 2 ++ mo.drop 6) by
    unfold Ly
    rw [u8s_append]
    have e10 : (mo.take 2 ++ mo.drop 6).length = 10 := by rw [List.length_append, List.length_take, List.length_drop, LO.out]; rfl
    rw [e10]
    exact own4)
  have L10 := Lib.hid (show (mo.take 2 ++ mo.drop 6).length = 10 by rw [List.length_append, List.length_take, List.length_drop, LO.out]; rfl)
  have G4 := Lib.hid (li.grown_new G3.out ((gr.grown_drew w3 (some g3)).trans gr4) (Nat.le_trans Z3.out gb3))
  have S4 := Lib.hid (S3.out.kept ((gr.grown_drew w3 (some g3)).trans gr4) (by have := Z3.out; have := Z2.out; have := H2.out.lt; simp; omega))
  have H4 := Lib.hid (H3.out.kept ((gr.grown_drew w3 (some g3)).trans gr4) (by have := H2.out.lt; simp; omega))
  obtain ⟨c0, c1, c2, c3, c4⟩ := S4.out
  clear own4 gr4
  have q1 : wrap64 (d.tdiv 256) = d / 256 := by rw [Int.tdiv_eq_ediv_of_nonneg d0]; have := D1.out; unfold wrap64; omega
  have q2 : wrap64 (r.tdiv 256) = r / 256 := by rw [Int.tdiv_eq_ediv_of_nonneg r0]; have := R1.out; unfold wrap64; omega
  have E4 : #[Value.int .u8 (d / 256 % 256), .int .u8 (d % 256), .int .u8 (r / 256 % 256), .int .u8 (r % 256)] = (u8s [b8 (d / 256), b8 d, b8 (r / 256), b8 r]).toArray := by simp [u8s, yb.u8, b8_nat]
  have Y4 := Lib.hid (show Ry (w4.alloc (.cells #[Value.int .u8 (d / 256 % 256), .int .u8 (d % 256), .int .u8 (r / 256 % 256), .int .u8 (r % 256)] 5)) (some ⟨w4.heap.size, 0, none⟩) 4 4 [b8 (d / 256), b8 d, b8 (r / 256), b8 r] by
    rw [E4]
    exact (Hw.made w4 _).ry rfl (by unfold maxLen; omega))
  have GA := Lib.hid (grown_alloc w4 (.cells #[Value.int .u8 (d / 256 % 256), .int .u8 (d % 256), .int .u8 (r / 256 % 256), .int .u8 (r % 256)] 5))
  clear E4
  have g34 : w2.heap.size ≤ w4.heap.size := by have := G4.out.size; have := L4.out.lt g3 rfl; omega
  have X5 := Lib.hid (fun W (hg : (w4.alloc (.cells #[Value.int .u8 (d / 256 % 256), .int .u8 (d % 256), .int .u8 (r / 256 % 256), .int .u8 (r % 256)] 5)).grownBy W (some g3)) => (show w.grownBy W none ∧ Av W w.heap.size c k n d r ∧ Hw W g2 (anss c k n d r) from
    ⟨li.grown_new (G4.out.trans GA.out) hg (Nat.le_trans Z3.out gb3), (S4.out.made GA.out).kept hg (by have := Z3.out; have := Z2.out; have := H2.out.lt; simp; omega), (H4.out.new GA.out).kept hg (by have := H2.out.lt; simp; omega)⟩))
  have WA := Lib.hid (fun w : World => Av.new w 38 c k n d r)
  go_wp2_with (first
    | (refine append_u8s rfl (.tmp 79) (.tmp 96) rfl w2.heap.size _ _ rfl (L4.out.new GA.out) _ 4 4 _ rfl Y4.out (by rw [L10.out]; omega) (by simp; omega) ?_; intro A5 N5 k5 w5 hn5 own5 gr5; rw [AO.out] at hn5 own5; obtain rfl : N5 = 14 := hn5.trans LA.out; have L5 := Lib.hid own5; have V5 := Lib.hid (X5.out _ gr5); have G5 := Lib.hid V5.out.1; clear hn5 own5 gr5 c0 c1 c2 c3 c4)
    | (have mark := G6; go_at_call 14; (with_reducible refine (TY.out _ G6.out).mono ?_); rintro e w8 ⟨rfl, hg⟩; have G8 := Lib.hid ((G6.out.trans hg).trans (grown_alloc w8 (.cells #[.int .i64 (nv m 0 1), .int .i64 (nv m 1 1), .int .i64 (nv m 2 8), .int .i64 (nv m 10 2), .int .i64 (nv m 12 2)] 38))); clear c0 c1 c2 c3 c4; obtain ⟨c0, c1, c2, c3, c4⟩ := NW.out w8; clear hg)
    | (go_at_call 13; (with_reducible refine (TN.out _).mono ?_); rintro e w9 ⟨g9, rfl, hgb, hh, hg⟩; rw [AE.out] at hh; have G9 := Lib.hid (G8.out.trans hg); have e1 := hw_str2 hh HL.out; have e2 := (HH.out.made G9.out).str (by omega); rw [SX.out] at e1 e2; clear hg hh hgb)
    | (go_at_call 14; (with_reducible refine (TB.out _ _ V5.out.2.2).mono ?_); rintro e w6 ⟨rfl, hg⟩; have hga := hg.trans (grown_alloc w6 (.cells #[.int .i64 c, .int .i64 k, .int .i64 n, .int .i64 d, .int .i64 r] 38)); have G6 := Lib.hid (G5.out.trans hga); have e3 := hw_str2 (V5.out.2.2.new hga) LA.out; have e4 := ((L5.out.new hga).ry LA.out.symm).str (by omega); rw [SY.out] at e3 e4; have S6 := Lib.hid (V5.out.2.1.made hga); have W6 := Lib.hid (WA.out w6); obtain ⟨c0, c1, c2, c3, c4⟩ := S6.out; obtain ⟨x0, x1, x2, x3, x4⟩ := W6.out; clear hg hga))
  go_ret
  exact ⟨rfl, G9.out⟩
end Go.Proofs.Ytnehhplflgcoiaa.cd
