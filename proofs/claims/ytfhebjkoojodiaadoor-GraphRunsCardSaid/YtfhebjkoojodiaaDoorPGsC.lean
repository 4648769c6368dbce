/- Texts that this claim stands on. -/
import Derived.Test.YtfhebjkoojodiaaDoorPGqY
namespace Go.Proofs.YtfhebjkoojodiaaDoor.gq
open Go.ChangeShapes Go.WideShapes Go.ChangeAt Go.RowKit gen va cd gp
set_option linter.unusedVariables false
set_option linter.unusedSimpArgs false
set_option maxHeartbeats 2000000
set_option maxRecDepth 100000
section
variable (c0 c2 q c4 c5 c6 c7 c8 c9 : Int)
theorem runs_no {w : World} (c1 : Int) (v1 v2 : Value) {n : Int} (h0 : (n == 0) = false) (hT : cf.Table w) (hn : cf.wrongN [c0, c1, c2, q, c4, c5, c6, c7, c8, c9] = n) : Calls Tryd.prog 3 #[.agg #[.int .i64 c0, .int .i64 c1, .int .i64 c2, .int .i64 q, .int .i64 c4, .int .i64 c5, .int .i64 c6, .int .i64 c7, .int .i64 c8, .int .i64 c9], v1, v2] w
    fun e w' => e = .returned (.bool true) ∧ w.grownBy w' none := by
  have G0 := Lib.hid (grown_alloc w (.cells #[.int .i64 c0, .int .i64 c1, .int .i64 c2, .int .i64 q, .int .i64 c4, .int .i64 c5, .int .i64 c6, .int .i64 c7, .int .i64 c8, .int .i64 c9] 23))
  have TN := Lib.hid (cf.Ten.new w 23 c0 c1 c2 q c4 c5 c6 c7 c8 c9)
  have AL := Lib.hid (fun W (hg : w.grownBy W none) => alive_any (tab_new hT hg))
  have NN := Lib.hid (fun W (hg : w.grownBy W none) => New_no c0 c2 q c4 c5 c6 c7 c8 c9 (w := W) c1 h0 (tab_new hT hg) hn)
  have CK := Lib.hid (fun W (hg : w.grownBy W none) => cf.Check_no c0 c1 c2 q c4 c5 c6 c7 c8 c9 W h0 (tab_new hT hg) hn)
  clear hn hT h0
  go_enter Tryd.func3, Tryd.ntmps3
  go_wp2_with (first
    | (go_at_call 6; (with_reducible refine (AL.out _ G0.out).mono ?_); rintro e w1 ⟨rfl, hg⟩; have G1 := Lib.hid (G0.out.trans hg); have T1 := Lib.hid (cf.Ten.below (li.grown_below hg) TN.out); obtain ⟨y0, y1, y2, y3, y4, y5, y6, y7, y8, y9⟩ := T1.out; clear hg)
    | (go_at_call 7; (with_reducible refine (NN.out _ G1.out).mono ?_); rintro e w2 ⟨rfl, hg⟩; have G2 := Lib.hid (G1.out.trans hg); have T2 := Lib.hid (cf.Ten.below (li.grown_below hg) T1.out); obtain ⟨z0, z1, z2, z3, z4, z5, z6, z7, z8, z9⟩ := T2.out; clear hg)
    | (go_at_call 8; (with_reducible refine (CK.out _ G2.out).mono ?_); rintro e w3 ⟨rfl, hb⟩; have G3 := Lib.hid (G2.out.trans (of_below hb)); clear hb))
  go_ret
  exact ⟨rfl, G3.out⟩
theorem runs_yes {w : World} (N : Nat) (hT : cf.Table w) (hn : cf.wrongN [c0, (N : Int), c2, q, c4, c5, c6, c7, c8, c9] = 0) (hN : 0 < N) (hN8 : N ≤ 8) (q1 : 1 ≤ q) (q2 : q ≤ 16)
    {B : Nat} {A1 : Option Addr} {n1 d1 : Nat} {ff : Nat → Nat → Int} (hs : Rws w B A1 n1 7 ff) (hB : B ≤ w.heap.size) (hd : n1 ≤ d1) (hd2 : d1 ≤ maxLen) (hA1 : 0 < n1 → ∃ ad, A1 = some ad) {B2 : Nat} {A2 : Option Addr} {n2 d2 : Nat} {xs : List Int} (hr : Rd w B2 A2 n2 d2 xs) :
    Calls Tryd.prog 3 #[.agg #[.int .i64 c0, .int .i64 (N : Int), .int .i64 c2, .int .i64 q, .int .i64 c4, .int .i64 c5, .int .i64 c6, .int .i64 c7, .int .i64 c8, .int .i64 c9], .slice A1 n1 d1, .slice A2 n2 d2] w
    fun e w' => e = .returned (.bool true) ∧ w.grownBy w' none := by
  have G0 := Lib.hid (grown_alloc w (.cells #[.int .i64 c0, .int .i64 (N : Int), .int .i64 c2, .int .i64 q, .int .i64 c4, .int .i64 c5, .int .i64 c6, .int .i64 c7, .int .i64 c8, .int .i64 c9] 23))
  have TN := Lib.hid (cf.Ten.new w 23 c0 (N : Int) c2 q c4 c5 c6 c7 c8 c9)
  have AL := Lib.hid (fun W (hg : w.grownBy W none) => alive_any (tab_new hT hg))
  have CK := Lib.hid (fun W (hg : w.grownBy W none) => cf.Check_yes c0 (N : Int) c2 q c4 c5 c6 c7 c8 c9 W (tab_new hT hg) hn)
  have NY := Lib.hid (fun W (hg : w.grownBy W none) => New_yes c0 c2 q c4 c5 c6 c7 c8 c9 (w := W) N (tab_new hT hg) hn hN hN8 q1 q2)
  have FW := Lib.hid (fun W => few_any A1 n1 d1 W hd hd2 hA1)
  have HS := Lib.hid hs
  have HR := Lib.hid hr
  have RN := Lib.hid (fun W => gp.New_any W c0 c2 q c4 c5 c6 c7 c8 c9 N hN hN8 q1 q2)
  clear hn hT hd hd2 hA1 hs hr
  go_enter Tryd.func3, Tryd.ntmps3
  go_wp2_with (first
    | (go_at_call 6; (with_reducible refine (AL.out _ G0.out).mono ?_); rintro e w1 ⟨rfl, hg⟩; have G1 := Lib.hid (G0.out.trans hg); have T1 := Lib.hid (cf.Ten.below (li.grown_below hg) TN.out); obtain ⟨y0, y1, y2, y3, y4, y5, y6, y7, y8, y9⟩ := T1.out; clear hg)
    | (go_at_call 7; (with_reducible refine (NY.out _ G1.out).mono ?_); rintro e w2 ⟨g, K, R, A, nc, vs, bs, rfl, hp, hk, hg⟩; have G2 := Lib.hid (G1.out.trans hg); have P2 := Lib.hid hp; have K2 := Lib.hid hk; have D2 := Lib.hid hg; have T2 := Lib.hid (cf.Ten.below (li.grown_below hg) T1.out); obtain ⟨z0, z1, z2, z3, z4, z5, z6, z7, z8, z9⟩ := T2.out; clear hp hk hg)
    | (go_at_call 8; (with_reducible refine (CK.out _ G2.out).mono ?_); rintro e w3 ⟨rfl, hb⟩; have D3 := Lib.hid (of_below hb); have G3 := Lib.hid (G2.out.trans (of_below hb)); have T3 := Lib.hid (cf.Ten.below hb T2.out); obtain ⟨u0, u1, u2, u3, u4, u5, u6, u7, u8, u9⟩ := T3.out; clear hb)
    | (go_at_call 9; (with_reducible refine (RN.out _).mono ?_); rintro e w4 ⟨m, K', rfl, hp, hk, hg⟩; have P4 := Lib.hid (Pq.start G1.out P2.out K2.out D2.out D3.out hp hk hg); clear hp hk hg)
    | (go_at_call 10; (with_reducible refine (FW.out _).mono ?_); rintro e w5 ⟨⟨l, d3, hl, hl2, rfl⟩, hw⟩; subst hw))
  go_loopw [10] (fun x wr => ∃ i : Nat, i ≤ l ∧ x = .int .i64 (i : Int) ∧ ∃ σ, Pq w g m (fun i => [c0, (N : Int), c2, q, c4, c5, c6, c7, c8, c9].getD i 0) σ σ wr ∧ σ.M ≤ i + 1) (fun x _ => l - (intOf x).toNat)
  case atStart => exact ⟨0, Nat.zero_le _, rfl, _, P4.out, Nat.le_refl _⟩
  case round =>
    obtain ⟨i, hi, rfl, σ, hp, hm⟩ := hrel
    have PX := Lib.hid hp
    have OK := Lib.hid hp.ok
    by_cases hlt : i < l
    · obtain ⟨b, off, rfl, hb, h7⟩ := steps_at (HS.out.less hl2) hlt
      have H7 := Lib.hid (h7.new hp.grow)
      obtain ⟨k, hk⟩ : ∃ k, ff i 0 = k := ⟨_, rfl⟩
      obtain ⟨t, ht⟩ : ∃ t, ff i 1 = t := ⟨_, rfl⟩
      obtain ⟨ii, hii⟩ : ∃ ii, ff i 2 = ii := ⟨_, rfl⟩
      obtain ⟨f, hf⟩ : ∃ f, ff i 3 = f := ⟨_, rfl⟩
      obtain ⟨j, hj⟩ : ∃ j, ff i 4 = j := ⟨_, rfl⟩
      obtain ⟨c, hc⟩ : ∃ c, ff i 5 = c := ⟨_, rfl⟩
      obtain ⟨n, hn⟩ : ∃ n, ff i 6 = n := ⟨_, rfl⟩
      rw [hk, ht, hii, hf, hj, hc, hn] at H7
      have CO := Lib.hid (fun W (hg : w.grownBy W none) => code_any (Rd.grow_ HR.out hg) i)
      obtain ⟨no, hno⟩ : ∃ no, xs.getD i 0 = no := ⟨_, rfl⟩
      rw [hno] at CO
      have M1000 : σ.M < 1000 := by omega
      obtain ⟨s0, s1, s2, s3, s4, s5, s6⟩ := H7.out
      obtain ⟨z, hz⟩ : ∃ z, stz σ k t ii f j c n no = z := ⟨_, rfl⟩
      obtain ⟨⟨v1, v2⟩, hv⟩ : ∃ v, sta σ k t ii f j c n no = v := ⟨_, rfl⟩
      have DO := Lib.hid (PX.out.new (gr.grown_drew _ _) |>.do_ M1000 k t ii f j c n no)
      rw [hz, hv] at DO
      have HZV := Lib.hid (And.intro hz hv)
      have MM := stg_M (σ := σ) k t ii f j c n no
      have l1 : (0 : Int) ≤ (i : Int) := by omega
      have l2 : (i : Int) < (l : Int) := by omega
      clear hp h7 hk ht hii hf hj hc hn hno
      go_wp2
      refine wp_region_held_drew (S := (fun W => W.cell? ⟨b, off + i * 7, none⟩ = some (.int .i64 k) ∧ W.cell? ⟨b, off + i * 7 + 1, none⟩ = some (.int .i64 t) ∧ W.cell? ⟨b, off + i * 7 + 2, none⟩ = some (.int .i64 ii) ∧ W.cell? ⟨b, off + i * 7 + 3, none⟩ = some (.int .i64 f) ∧ W.cell? ⟨b, off + i * 7 + 4, none⟩ = some (.int .i64 j) ∧ W.cell? ⟨b, off + i * 7 + 5, none⟩ = some (.int .i64 c) ∧ W.cell? ⟨b, off + i * 7 + 6, none⟩ = some (.int .i64 n))) (by kernel_rfl) (by first | go_keep | with_reducible exact ⟨r0, r1, r2, r3, r4, r5, r6⟩ | with_reducible exact ⟨s0, s1, s2, s3, s4, s5, s6⟩) (fun hHeld => ?_)
      refine wpAnyH_take (i := 0) (v := ?v1) rfl (by kernel_rfl) (by kernel_rfl) (by kernel_rfl) (fun _ _ _ h => h) (Or.inl ⟨by rfl, ?hy1⟩) (by assumption) ?rest1
      case hy1 =>
        intro W hS; (try dsimp only at hS); go_simp; (try with_reducible rfl)
      try simp only [Act.put, List.setIfInBounds_toArray, List.set_cons_zero, List.set_cons_succ]
      refine wpAnyH_take (i := 1) (v := ?v2) rfl (by kernel_rfl) (by kernel_rfl) (by kernel_rfl) (fun _ _ _ h => h) (Or.inl ⟨by rfl, ?hy2⟩) (by assumption) ?rest2
      case hy2 =>
        intro W hS; (try dsimp only at hS); go_simp; (try with_reducible rfl)
      try simp only [Act.put, List.setIfInBounds_toArray, List.set_cons_zero, List.set_cons_succ]
      refine wpAnyH_take (i := 2) (v := ?v3) rfl (by kernel_rfl) (by kernel_rfl) (by kernel_rfl) (fun _ _ _ h => h) (Or.inl ⟨by rfl, ?hy3⟩) (by assumption) ?rest3
      case hy3 =>
        intro W hS; (try dsimp only at hS); go_simp; (try with_reducible rfl)
      try simp only [Act.put, List.setIfInBounds_toArray, List.set_cons_zero, List.set_cons_succ]
      refine wpAnyH_take (i := 3) (v := ?v4) rfl (by kernel_rfl) (by kernel_rfl) (by kernel_rfl) (fun _ _ _ h => h) (Or.inl ⟨by rfl, ?hy4⟩) (by assumption) ?rest4
      case hy4 =>
        intro W hS; (try dsimp only at hS); go_simp; (try with_reducible rfl)
      try simp only [Act.put, List.setIfInBounds_toArray, List.set_cons_zero, List.set_cons_succ]
      refine wpAnyH_take (i := 4) (v := ?v5) rfl (by kernel_rfl) (by kernel_rfl) (by kernel_rfl) (fun _ _ _ h => h) (Or.inl ⟨by rfl, ?hy5⟩) (by assumption) ?rest5
      case hy5 =>
        intro W hS; (try dsimp only at hS); go_simp; (try with_reducible rfl)
      try simp only [Act.put, List.setIfInBounds_toArray, List.set_cons_zero, List.set_cons_succ]
      refine wpAnyH_take (i := 5) (v := ?v6) rfl (by kernel_rfl) (by kernel_rfl) (by kernel_rfl) (fun _ _ _ h => h) (Or.inl ⟨by rfl, ?hy6⟩) (by assumption) ?rest6
      case hy6 =>
        intro W hS; (try dsimp only at hS); go_simp; (try with_reducible rfl)
      try simp only [Act.put, List.setIfInBounds_toArray, List.set_cons_zero, List.set_cons_succ]
      refine wpAnyH_take (i := 6) (v := ?v7) rfl (by kernel_rfl) (by kernel_rfl) (by kernel_rfl) (fun _ _ _ h => h) (Or.inl ⟨by rfl, ?hy7⟩) (by assumption) ?rest7
      case hy7 =>
        intro W hS; (try dsimp only at hS); go_simp; (try with_reducible rfl)
      try simp only [Act.put, List.setIfInBounds_toArray, List.set_cons_zero, List.set_cons_succ]
      refine wpAnyH_take (i := 9) (v := ?v8) rfl (by kernel_rfl) (by kernel_rfl) (by kernel_rfl) (fun _ _ _ h => h) (Or.inl ⟨by rfl, ?hy8⟩) (by assumption) ?rest8
      case hy8 =>
        intro W hS; (try dsimp only at hS); go_simp; (try with_reducible rfl)
      try simp only [Act.put, List.setIfInBounds_toArray, List.set_cons_zero, List.set_cons_succ]
      refine wpAnyH_take (i := 10) (v := ?v9) rfl (by kernel_rfl) (by kernel_rfl) (by kernel_rfl) (fun _ _ _ h => h) (Or.inl ⟨by rfl, ?hy9⟩) (by assumption) ?rest9
      case hy9 =>
        intro W hS; (try dsimp only at hS); go_simp; (try with_reducible rfl)
      try simp only [Act.put, List.setIfInBounds_toArray, List.set_cons_zero, List.set_cons_succ]
      refine wpAnyH_take (i := 11) (v := ?v10) rfl (by kernel_rfl) (by kernel_rfl) (by kernel_rfl) (fun _ _ _ h => h) (Or.inl ⟨by rfl, ?hy10⟩) (by assumption) ?rest10
      case hy10 =>
        intro W hS; (try dsimp only at hS); go_simp; (try with_reducible rfl)
      try simp only [Act.put, List.setIfInBounds_toArray, List.set_cons_zero, List.set_cons_succ]
      refine wpAnyH_take (i := 12) (v := ?v11) rfl (by kernel_rfl) (by kernel_rfl) (by kernel_rfl) (fun _ _ _ h => h) (Or.inl ⟨by rfl, ?hy11⟩) (by assumption) ?rest11
      case hy11 =>
        intro W hS; (try dsimp only at hS); go_simp; (try with_reducible rfl)
      try simp only [Act.put, List.setIfInBounds_toArray, List.set_cons_zero, List.set_cons_succ]
      refine wpAnyH_take (i := 13) (v := ?v12) rfl (by kernel_rfl) (by kernel_rfl) (by kernel_rfl) (fun _ _ _ h => h) (Or.inl ⟨by rfl, ?hy12⟩) (by assumption) ?rest12
      case hy12 =>
        intro W hS; (try dsimp only at hS); go_simp; (try with_reducible rfl)
      try simp only [Act.put, List.setIfInBounds_toArray, List.set_cons_zero, List.set_cons_succ]
      refine wpAnyH_take (i := 14) (v := ?v13) rfl (by kernel_rfl) (by kernel_rfl) (by kernel_rfl) (fun _ _ _ h => h) (Or.inl ⟨by rfl, ?hy13⟩) (by assumption) ?rest13
      case hy13 =>
        intro W hS; (try dsimp only at hS); go_simp; (try with_reducible rfl)
      try simp only [Act.put, List.setIfInBounds_toArray, List.set_cons_zero, List.set_cons_succ]
      refine wpAnyH_take (i := 15) (v := ?v14) rfl (by kernel_rfl) (by kernel_rfl) (by kernel_rfl) (fun _ _ _ h => h) (Or.inl ⟨by rfl, ?hy14⟩) (by assumption) ?rest14
      case hy14 =>
        intro W hS; (try dsimp only at hS); go_simp; (try with_reducible rfl)
      try simp only [Act.put, List.setIfInBounds_toArray, List.set_cons_zero, List.set_cons_succ]
      refine wpAnyH_ready (rs := [7]) (by kernel_rfl) (by simp) (AllReadyH.cons rfl (fun K hK => ?_) AllReadyH.nil)
      go_simp
      go_at_call 12; (with_reducible refine (CO.out _ (PX.out.grow.trans (gr.grown_drew _ _))).mono ?_); rintro e w6 ⟨rfl, hw⟩; subst hw
      refine hK.out _ _ (by (try dsimp only); first | go_keep | with_reducible exact ⟨r0, r1, r2, r3, r4, r5, r6⟩ | with_reducible exact ⟨s0, s1, s2, s3, s4, s5, s6⟩) (fun hHeld => ?_)
      clear hK K
      try simp only [Act.put, List.setIfInBounds_toArray, List.set_cons_zero, List.set_cons_succ]
      refine wpAnyH_ready (rs := [8]) (by kernel_rfl) (by simp) (AllReadyH.cons rfl (fun K hK => ?_) AllReadyH.nil)
      go_simp
      go_at_call 11; (with_reducible refine DO.out.mono ?_); rintro e w7 ⟨rfl, hP, L, hL, hB⟩; have Q7 := Lib.hid ((H7.out.new (gr.grown_drew _ _)).gr hL (fun hm => by have := hB _ hm; omega)); have P7 := Lib.hid hP; have QG := Lib.hid hP.grow; obtain ⟨r0, r1, r2, r3, r4, r5, r6⟩ := Q7.out; clear hP hL hB
      refine hK.out _ _ (by (try dsimp only); first | go_keep | with_reducible exact ⟨r0, r1, r2, r3, r4, r5, r6⟩ | with_reducible exact ⟨s0, s1, s2, s3, s4, s5, s6⟩) (fun hHeld => ?_)
      clear hK K
      try simp only [Act.put, List.setIfInBounds_toArray, List.set_cons_zero, List.set_cons_succ]
      refine wpAnyH_ready (rs := [16]) (by kernel_rfl) (by simp) (AllReadyH.cons rfl (fun K hK => ?_) AllReadyH.nil)
      go_simp
      go_at_call 12; (with_reducible refine (CO.out _ QG.out).mono ?_); rintro e w6 ⟨rfl, hw⟩; subst hw
      refine hK.out _ _ (by (try dsimp only); first | go_keep | with_reducible exact ⟨r0, r1, r2, r3, r4, r5, r6⟩ | with_reducible exact ⟨s0, s1, s2, s3, s4, s5, s6⟩) (fun hHeld => ?_)
      clear hK K
      try simp only [Act.put, List.setIfInBounds_toArray, List.set_cons_zero, List.set_cons_succ]
      refine wpAnyH_ready (rs := [17]) (by kernel_rfl) (by simp) (AllReadyH.cons rfl (fun K hK => ?_) AllReadyH.nil)
      go_simp
      go_at_call 13; have ST := P7.out.step M1000 k t ii f j c n no; rw [HZV.out.1, HZV.out.2] at ST; (with_reducible refine ST.mono ?_); clear ST; rintro e w8 ⟨rfl, hP, L, hL, hB⟩; have Q8 := Lib.hid (Q7.out.gr hL (fun hm => by have := hB _ hm; omega)); have P8 := Lib.hid hP; have OK8 := Lib.hid hP.ok; clear r0 r1 r2 r3 r4 r5 r6; obtain ⟨r0, r1, r2, r3, r4, r5, r6⟩ := Q8.out; clear hP hL hB
      refine hK.out _ _ (by (try dsimp only); first | go_keep | with_reducible exact ⟨r0, r1, r2, r3, r4, r5, r6⟩ | with_reducible exact ⟨s0, s1, s2, s3, s4, s5, s6⟩) (fun hHeld => ?_)
      clear hK K
      try simp only [Act.put, List.setIfInBounds_toArray, List.set_cons_zero, List.set_cons_succ]
      refine wpAnyH_take (i := 18) (v := ?v15) rfl (by kernel_rfl) (by kernel_rfl) (by kernel_rfl) (fun _ _ _ h => h) (Or.inl ⟨by rfl, ?hy15⟩) (by assumption) ?rest15
      case hy15 =>
        intro W hS; (try dsimp only at hS); go_simp; (try with_reducible rfl)
      try simp only [Act.put, List.setIfInBounds_toArray, List.set_cons_zero, List.set_cons_succ]
      refine wpAnyH_take (i := 19) (v := ?v16) rfl (by kernel_rfl) (by kernel_rfl) (by kernel_rfl) (fun _ _ _ h => h) (Or.inl ⟨by rfl, ?hy16⟩) (by assumption) ?rest16
      case hy16 =>
        intro W hS; (try dsimp only at hS); go_simp; (try with_reducible rfl)
      try simp only [Act.put, List.setIfInBounds_toArray, List.set_cons_zero, List.set_cons_succ]
      refine wpAnyH_take (i := 20) (v := ?v17) rfl (by kernel_rfl) (by kernel_rfl) (by kernel_rfl) (fun _ _ _ h => h) (Or.inl ⟨by rfl, ?hy17⟩) (by assumption) ?rest17
      case hy17 =>
        intro W hS; (try dsimp only at hS); go_simp; (try with_reducible rfl)
      try simp only [Act.put, List.setIfInBounds_toArray, List.set_cons_zero, List.set_cons_succ]
      refine wpAnyH_take (i := 22) (v := ?v18) rfl (by kernel_rfl) (by kernel_rfl) (by kernel_rfl) (fun _ _ _ h => h) (Or.inl ⟨by rfl, ?hy18⟩) (by assumption) ?rest18
      case hy18 =>
        intro W hS; (try dsimp only at hS); go_simp; (try with_reducible rfl)
      try simp only [Act.put, List.setIfInBounds_toArray, List.set_cons_zero, List.set_cons_succ]
      refine wpAnyH_ready (rs := [21]) (by kernel_rfl) (by simp) (AllReadyH.cons rfl (fun K hK => ?_) AllReadyH.nil)
      go_simp
      go_at_call 15; (with_reducible refine P8.out.view.mono ?_); rintro e w9 ⟨A1', m1, e1, A2', m2, e2, rfl, hv2, hg⟩; have V9 := Lib.hid hv2; have P9 := Lib.hid (P8.out.new hg); have Q9 := Lib.hid (Q8.out.new hg); clear r0 r1 r2 r3 r4 r5 r6; obtain ⟨r0, r1, r2, r3, r4, r5, r6⟩ := Q9.out; clear hv2 hg
      refine hK.out _ _ (by (try dsimp only); first | go_keep | with_reducible exact ⟨r0, r1, r2, r3, r4, r5, r6⟩ | with_reducible exact ⟨s0, s1, s2, s3, s4, s5, s6⟩) (fun hHeld => ?_)
      clear hK K
      try simp only [Act.put, List.setIfInBounds_toArray, List.set_cons_zero, List.set_cons_succ]
      refine wpAnyH_ready (rs := [23]) (by kernel_rfl) (by simp) (AllReadyH.cons rfl (fun K hK => ?_) AllReadyH.nil)
      go_simp
      go_at_call 16; (with_reducible refine P9.out.rview.mono ?_); rintro e w10 ⟨A3, m3, e3, A4, m4, e4, rfl, hv2, hg⟩; have U10 := Lib.hid hv2; have V10 := Lib.hid (V9.out.far hg); have P10 := Lib.hid (P9.out.new hg); have Q10 := Lib.hid (Q9.out.new hg); clear r0 r1 r2 r3 r4 r5 r6; obtain ⟨r0, r1, r2, r3, r4, r5, r6⟩ := Q10.out; clear hv2 hg
      refine hK.out _ _ (by (try dsimp only); first | go_keep | with_reducible exact ⟨r0, r1, r2, r3, r4, r5, r6⟩ | with_reducible exact ⟨s0, s1, s2, s3, s4, s5, s6⟩) (fun hHeld => ?_)
      clear hK K
      try simp only [Act.put, List.setIfInBounds_toArray, List.set_cons_zero, List.set_cons_succ]
      refine wpAnyH_ready (rs := [24]) (by kernel_rfl) (by simp) (AllReadyH.cons rfl (fun K hK => ?_) AllReadyH.nil)
      go_simp
      go_at_call 14; (with_reducible refine (alike OK8.out V10.out U10.out).mono ?_); rintro e w11 ⟨rfl, hg⟩; have P11 := Lib.hid (P10.out.new hg); have Q11 := Lib.hid (Q10.out.new hg); obtain ⟨BB, cc, x11⟩ := P11.out.c11; clear r0 r1 r2 r3 r4 r5 r6; obtain ⟨r0, r1, r2, r3, r4, r5, r6⟩ := Q11.out; clear hg
      refine hK.out _ _ (by (try dsimp only); first | go_keep | with_reducible exact ⟨r0, r1, r2, r3, r4, r5, r6⟩ | with_reducible exact ⟨s0, s1, s2, s3, s4, s5, s6⟩) (fun hHeld => ?_)
      clear hK K
      try simp only [Act.put, List.setIfInBounds_toArray, List.set_cons_zero, List.set_cons_succ]
      refine wpAnyH_take (i := 25) (v := ?v19) rfl (by kernel_rfl) (by kernel_rfl) (by kernel_rfl) (fun _ _ _ h => h) (Or.inl ⟨by rfl, ?hy19⟩) (by assumption) ?rest19
      case hy19 =>
        intro W hS; (try dsimp only at hS); go_simp; (try with_reducible rfl)
      try simp only [Act.put, List.setIfInBounds_toArray, List.set_cons_zero, List.set_cons_succ]
      refine wpAnyH_take (i := 26) (v := ?v20) rfl (by kernel_rfl) (by kernel_rfl) (by kernel_rfl) (fun _ _ _ h => h) (Or.inl ⟨by rfl, ?hy20⟩) (by assumption) ?rest20
      case hy20 =>
        intro W hS; (try dsimp only at hS); go_simp; (try with_reducible rfl)
      try simp only [Act.put, List.setIfInBounds_toArray, List.set_cons_zero, List.set_cons_succ]
      refine wpAnyH_take (i := 27) (v := ?v21) rfl (by kernel_rfl) (by kernel_rfl) (by kernel_rfl) (fun _ _ _ h => h) (Or.inl ⟨by rfl, ?hy21⟩) (by assumption) ?rest21
      case hy21 =>
        intro W hS; (try dsimp only at hS); go_simp; (try with_reducible rfl)
      try simp only [Act.put, List.setIfInBounds_toArray, List.set_cons_zero, List.set_cons_succ]
      refine wpAnyH_take (i := 28) (v := ?v22) rfl (by kernel_rfl) (by kernel_rfl) (by kernel_rfl) (fun _ _ _ h => h) (Or.inl ⟨by rfl, ?hy22⟩) (by assumption) ?rest22
      case hy22 =>
        intro W hS; (try dsimp only at hS); go_simp; (try with_reducible rfl)
      try simp only [Act.put, List.setIfInBounds_toArray, List.set_cons_zero, List.set_cons_succ]
      refine wpAnyH_take (i := 30) (v := ?v23) rfl (by kernel_rfl) (by kernel_rfl) (by kernel_rfl) (fun _ _ _ h => h) (Or.inl ⟨by rfl, ?hy23⟩) (by assumption) ?rest23
      case hy23 =>
        intro W hS; (try dsimp only at hS); go_simp; (try with_reducible rfl)
      try simp only [Act.put, List.setIfInBounds_toArray, List.set_cons_zero, List.set_cons_succ]
      refine wpAnyH_take (i := 31) (v := ?v24) rfl (by kernel_rfl) (by kernel_rfl) (by kernel_rfl) (fun _ _ _ h => h) (Or.inl ⟨by rfl, ?hy24⟩) (by assumption) ?rest24
      case hy24 =>
        intro W hS; (try dsimp only at hS); go_simp; (try with_reducible rfl)
      try simp only [Act.put, List.setIfInBounds_toArray, List.set_cons_zero, List.set_cons_succ]
      refine wpAnyH_take (i := 32) (v := ?v25) rfl (by kernel_rfl) (by kernel_rfl) (by kernel_rfl) (fun _ _ _ h => h) (Or.inl ⟨by rfl, ?hy25⟩) (by assumption) ?rest25
      case hy25 =>
        intro W hS; (try dsimp only at hS); go_simp; (try with_reducible rfl)
      try simp only [Act.put, List.setIfInBounds_toArray, List.set_cons_zero, List.set_cons_succ]
      refine wpAnyH_ready (rs := [29, 33]) (by kernel_rfl) (by simp) (AllReadyH.cons rfl (fun K hK => ?_) (AllReadyH.cons rfl (fun K hK => ?_) AllReadyH.nil))
      · skip
        go_simp
        go_at_call 17; (with_reducible refine P11.out.made.mono ?_); rintro e w12 ⟨rfl, hw⟩; subst hw
        refine hK.out _ _ (by (try dsimp only); first | go_keep | with_reducible exact ⟨r0, r1, r2, r3, r4, r5, r6⟩ | with_reducible exact ⟨s0, s1, s2, s3, s4, s5, s6⟩) (fun hHeld => ?_)
        clear hK K
        try simp only [Act.put, List.setIfInBounds_toArray, List.set_cons_zero, List.set_cons_succ]
        refine wpAnyH_ready (rs := [33]) (by kernel_rfl) (by simp) (AllReadyH.cons rfl (fun K hK => ?_) AllReadyH.nil)
        go_simp
        refine hK.out _ _ (by (try dsimp only); first | go_keep | with_reducible exact ⟨r0, r1, r2, r3, r4, r5, r6⟩ | with_reducible exact ⟨s0, s1, s2, s3, s4, s5, s6⟩) (fun hHeld => ?_)
        clear hK K
        try simp only [Act.put, List.setIfInBounds_toArray, List.set_cons_zero, List.set_cons_succ]
        refine wpAnyH_take (i := 34) (v := ?v26) rfl (by kernel_rfl) (by kernel_rfl) (by kernel_rfl) (fun _ _ _ h => h) (Or.inl ⟨by rfl, ?hy26⟩) (by assumption) ?rest26
        case hy26 =>
          intro W hS; (try dsimp only at hS); go_simp; (try with_reducible rfl)
        try simp only [Act.put, List.setIfInBounds_toArray, List.set_cons_zero, List.set_cons_succ]
        refine wpAnyH_take (i := 35) (v := ?v27) rfl (by kernel_rfl) (by kernel_rfl) (by kernel_rfl) (fun _ _ _ h => h) (Or.inl ⟨by rfl, ?hy27⟩) (by assumption) ?rest27
        case hy27 =>
          intro W hS; (try dsimp only at hS); go_simp; (try with_reducible rfl)
        try simp only [Act.put, List.setIfInBounds_toArray, List.set_cons_zero, List.set_cons_succ]
        refine wpAnyH_take (i := 36) (v := ?v28) rfl (by kernel_rfl) (by kernel_rfl) (by kernel_rfl) (fun _ _ _ h => h) (Or.inl ⟨by rfl, ?hy28⟩) (by assumption) ?rest28
        case hy28 =>
          intro W hS; (try dsimp only at hS); go_simp; (try with_reducible rfl)
        try simp only [Act.put, List.setIfInBounds_toArray, List.set_cons_zero, List.set_cons_succ]
        refine wpAnyH_done (by kernel_rfl) ?_ _
        all_goals go_wp2
        all_goals exact ⟨⟨i + 1, by omega, by go_num, _, P11.out, by omega⟩, by simp [intOf]; omega⟩
      · skip
        go_simp
        refine hK.out _ _ (by (try dsimp only); first | go_keep | with_reducible exact ⟨r0, r1, r2, r3, r4, r5, r6⟩ | with_reducible exact ⟨s0, s1, s2, s3, s4, s5, s6⟩) (fun hHeld => ?_)
        clear hK K
        try simp only [Act.put, List.setIfInBounds_toArray, List.set_cons_zero, List.set_cons_succ]
        refine wpAnyH_take (i := 34) (v := ?v29) rfl (by kernel_rfl) (by kernel_rfl) (by kernel_rfl) (fun _ _ _ h => h) (Or.inl ⟨by rfl, ?hy29⟩) (by assumption) ?rest29
        case hy29 =>
          intro W hS; (try dsimp only at hS); go_simp; (try with_reducible rfl)
        try simp only [Act.put, List.setIfInBounds_toArray, List.set_cons_zero, List.set_cons_succ]
        refine wpAnyH_ready (rs := [29]) (by kernel_rfl) (by simp) (AllReadyH.cons rfl (fun K hK => ?_) AllReadyH.nil)
        go_simp
        go_at_call 17; (with_reducible refine P11.out.made.mono ?_); rintro e w12 ⟨rfl, hw⟩; subst hw
        refine hK.out _ _ (by (try dsimp only); first | go_keep | with_reducible exact ⟨r0, r1, r2, r3, r4, r5, r6⟩ | with_reducible exact ⟨s0, s1, s2, s3, s4, s5, s6⟩) (fun hHeld => ?_)
        clear hK K
        try simp only [Act.put, List.setIfInBounds_toArray, List.set_cons_zero, List.set_cons_succ]
        refine wpAnyH_take (i := 35) (v := ?v30) rfl (by kernel_rfl) (by kernel_rfl) (by kernel_rfl) (fun _ _ _ h => h) (Or.inl ⟨by rfl, ?hy30⟩) (by assumption) ?rest30
        case hy30 =>
          intro W hS; (try dsimp only at hS); go_simp; (try with_reducible rfl)
        try simp only [Act.put, List.setIfInBounds_toArray, List.set_cons_zero, List.set_cons_succ]
        refine wpAnyH_take (i := 36) (v := ?v31) rfl (by kernel_rfl) (by kernel_rfl) (by kernel_rfl) (fun _ _ _ h => h) (Or.inl ⟨by rfl, ?hy31⟩) (by assumption) ?rest31
        case hy31 =>
          intro W hS; (try dsimp only at hS); go_simp; (try with_reducible rfl)
        try simp only [Act.put, List.setIfInBounds_toArray, List.set_cons_zero, List.set_cons_succ]
        refine wpAnyH_done (by kernel_rfl) ?_ _
        all_goals go_wp2
        all_goals exact ⟨⟨i + 1, by omega, by go_num, _, P11.out, by omega⟩, by simp [intOf]; omega⟩
    · have ei : i = l := by omega
      subst ei
      clear hp
      go_wp2_with (first
        | (go_at_call 15; (with_reducible refine PX.out.view.mono ?_); rintro e w9 ⟨A1', m1, e1, A2', m2, e2, rfl, hv2, hg⟩; have V9 := Lib.hid hv2; have P9 := Lib.hid (PX.out.new hg); clear hv2 hg)
        | (go_at_call 16; (with_reducible refine P9.out.rview.mono ?_); rintro e w10 ⟨A3, m3, e3, A4, m4, e4, rfl, hv2, hg⟩; have U10 := Lib.hid hv2; have V10 := Lib.hid (V9.out.far hg); have P10 := Lib.hid (P9.out.new hg); clear hv2 hg)
        | (go_at_call 14; (with_reducible refine (alike OK.out V10.out U10.out).mono ?_); rintro e w11 ⟨rfl, hg⟩; have P11 := Lib.hid (P10.out.new hg); clear hg))
      go_ret
      exact ⟨rfl, P11.out.grow⟩
end
theorem runs_any (a0 a1 a2 a3 a4 a5 a6 a7 a8 a9 : Int) (w : World) (hT : cf.Table w) {A1 : Option Addr} {n1 d1 : Nat} {ff : Nat → Nat → Int} (hs : Rws w w.heap.size A1 n1 7 ff) (hd : n1 ≤ d1) (hd2 : d1 ≤ maxLen) {A2 : Option Addr} {n2 d2 : Nat} {xs : List Int} (hr : Rd w w.heap.size A2 n2 d2 xs) :
    Calls Tryd.prog 3 #[.agg #[.int .i64 a0, .int .i64 a1, .int .i64 a2, .int .i64 a3, .int .i64 a4, .int .i64 a5, .int .i64 a6, .int .i64 a7, .int .i64 a8, .int .i64 a9], .slice A1 n1 d1, .slice A2 n2 d2] w
    fun e w' => e = .returned (.bool true) ∧ w.grownBy w' none := by
  by_cases h : cf.wrongN [a0, a1, a2, a3, a4, a5, a6, a7, a8, a9] = 0
  · obtain ⟨-, ⟨b1, b2⟩, -, ⟨b3, b4⟩, -⟩ := cf.fine (cf.wrong_zero h).1
    obtain ⟨N, rfl⟩ : ∃ N : Nat, a1 = (N : Int) := ⟨a1.toNat, by omega⟩
    exact runs_yes a0 a2 a3 a4 a5 a6 a7 a8 a9 N hT h (by omega) (by omega) b3 b4 hs (Nat.le_refl _) hd hd2 (fun h0 => by obtain ⟨b, off, e, _⟩ := hs 0 h0; exact ⟨_, e⟩) hr
  · exact runs_no a0 a2 a3 a4 a5 a6 a7 a8 a9 a1 _ _ (n := cf.wrongN [a0, a1, a2, a3, a4, a5, a6, a7, a8, a9]) (by simpa using h) hT rfl
end Go.Proofs.YtfhebjkoojodiaaDoor.gq
