/- Texts that this claim stands on. -/
import Derived.Test.YtkgdcgmbapchcaaGreatDoorQCzL
namespace Go.Proofs.YtkgdcgmbapchcaaGreatDoor.cy
open Go.ChangeShapes Go.WideShapes Go.ChangeAt Go.RowKit gen calls cls geos ce st sh
set_option linter.unusedVariables false
set_option maxHeartbeats 4000000
set_option maxRecDepth 100000
section
variable {w W w1 w' : World} {k : Kn} {c : Cb} {L K : List Nat} {y : Hs} {a0 a1 a2 a3 a4 a5 a6 a7 a8 a9 : Int}
def s0 (k : Kn) (y : Hs) : Cy := ⟨y, none0, -1, k.N, 0, 0, List.replicate k.n (-1), List.replicate k.n [], List.replicate 8 [], 0, 0, 0⟩
theorem enear {n : Nat} {a b : Int} (h : a ≤ n ∧ (n : Int) ≤ b) : ep.near n a b = n := by unfold ep.near; rw [if_neg (by omega), if_neg (by omega)]
theorem fnear {n : Nat} {a b : Int} (h : a ≤ n ∧ (n : Int) ≤ b) : bf.near n a b = n := by unfold bf.near; rw [if_neg (by omega), if_neg (by omega)]
theorem New_no {n : Int} (h0 : (n == 0) = false) (hT : cf.Table w) (hn : cf.wrongN [a0, a1, a2, a3, a4, a5, a6, a7, a8, a9] = n) : Calls Tryz.prog 10 #[.agg #[.int .i64 a0, .int .i64 a1, .int .i64 a2, .int .i64 a3, .int .i64 a4, .int .i64 a5, .int .i64 a6, .int .i64 a7, .int .i64 a8, .int .i64 a9]] w fun e w' => e = .returned (.tuple #[.pointer none, .int .i64 6]) ∧ w.grownBy w' none := by
  have G0 := Lib.hid (World.grownBy_alloc w (.cells #[.int .i64 a0, .int .i64 a1, .int .i64 a2, .int .i64 a3, .int .i64 a4, .int .i64 a5, .int .i64 a6, .int .i64 a7, .int .i64 a8, .int .i64 a9] 23) none)
  have CK := Lib.hid (cf.Check_no _ _ _ _ _ _ _ _ _ _ _ h0 (hT.below (((Below.refl w.heap.size w)).alloc (Nat.le_refl _) (.cells #[.int .i64 a0, .int .i64 a1, .int .i64 a2, .int .i64 a3, .int .i64 a4, .int .i64 a5, .int .i64 a6, .int .i64 a7, .int .i64 a8, .int .i64 a9] 23))) hn)
  obtain ⟨c0, c1, c2, c3, c4, c5, c6, c7, c8, c9⟩ := cf.Ten.new w 23 a0 a1 a2 a3 a4 a5 a6 a7 a8 a9
  clear hT hn h0
  go_enter Tryz.func10, Tryz.ntmps10
  go_wp2_with (go_at_call 11; (with_reducible refine CK.out.mono ?_); rintro e w2 ⟨rfl, hb⟩; have G2 := Lib.hid (G0.out.trans (ro.grown_of hb)); clear hb)
  go_ret2
  exact ⟨rfl, G2.out⟩
theorem box0 (c : Cb) (gl : Nat) : ((((((Tryz.zeroCells65.setIfInBounds 0 (.pointer (some ⟨c.I.S, 0, none⟩))).setIfInBounds 1 (.pointer (some ⟨c.g, 0, none⟩))).setIfInBounds 2 (.pointer (some ⟨c.t, 0, none⟩))).setIfInBounds 3 (.pointer (some ⟨c.v, 0, none⟩))).setIfInBounds 4 (.int .i64 gl)).setIfInBounds 5 (.pointer (some ⟨c.e, 0, none⟩))).setIfInBounds 6 (.pointer (some ⟨c.b, 0, none⟩)) = (bxc c gl (List.replicate 8 []) 0 0 0).toArray := by kernel_rfl
theorem made_cw (k : Kn) (y : Hs) {w3 w4 w5 W : World} {I : Ids} {g t v ge gb B : Nat} {L K : List Nat} (B4 : w3.grownBy w4 none) (B5 : w4.grownBy w5 none) (h1 : tc.Tw w3 I y L g k.r none0 t k.N k.c 0) (h2 : sw.So w3 v I.S g k.N k.N 0) (r1 : ep.Rg w4 ge true 0 (List.replicate k.n (-1))) (q1 : bf.Bf w5 K gb (List.replicate k.n [])) (q2 : ∀ q, q ∈ K → w4.heap.size ≤ q) (ga : w5.grownBy W none) (hb : W.heap[B]? = some (.cells (((((((Tryz.zeroCells65.setIfInBounds 0 (.pointer (some ⟨I.S, 0, none⟩))).setIfInBounds 1 (.pointer (some ⟨g, 0, none⟩))).setIfInBounds 2 (.pointer (some ⟨t, 0, none⟩))).setIfInBounds 3 (.pointer (some ⟨v, 0, none⟩))).setIfInBounds 4 (.int .i64 k.gl)).setIfInBounds 5 (.pointer (some ⟨ge, 0, none⟩))).setIfInBounds 6 (.pointer (some ⟨gb, 0, none⟩))) 65 (0, 0))) : Cw W k ⟨B, I, g, t, v, ge, gb⟩ L K (s0 k y) := by
  have g3 := (B4.trans B5).trans ga
  have s4 := B4.size
  rw [box0 ⟨B, I, g, t, v, ge, gb⟩ k.gl] at hb
  refine ⟨h1.new g3, h2.new g3, ⟨(Gr.new (L := []) (B5.trans ga)).heap r1.1 (by simp), r1.2⟩, q1.gr (bf.Gr.new (L := []) ga) (by simp), hb, ⟨by simp [s0], fun l hl => by
    have : l = [] := List.eq_of_mem_replicate hl
    subst this
    simp⟩, fun q hq hm => ?_, fun q hq hm => ?_⟩
  · have := h1.sr.lt q hm
    have := q2 q hq
    omega
  · have := h1.gy.lt q hm
    have := q2 q hq
    omega
theorem made_fr {w : World} {B : Nat} {I : Ids} {g t v ge gb : Nat} {L K : List Nat} (hB : w.heap.size ≤ B) (h4 : ∀ q, q ∈ I.all → w.heap.size ≤ q) (h5 : ∀ q, q ∈ L → w.heap.size ≤ q) (h6 : w.heap.size ≤ t) (h7 : w.heap.size ≤ v) (r2 : w.heap.size ≤ ge) (q2 : ∀ q, q ∈ K → w.heap.size ≤ q) : ∀ q, q ∈ al ⟨B, I, g, t, v, ge, gb⟩ L K → w.heap.size ≤ q := fun q hq => by
  rcases in_al.1 hq with rfl | rfl | rfl | rfl | e | e | e
  · exact hB
  · exact h6
  · exact h7
  · exact r2
  · exact h5 q e
  · exact q2 q e
  · exact h4 q e
theorem New_yes (hT : cf.Table w) (hn : cf.wrongN [a0, a1, a2, a3, a4, a5, a6, a7, a8, a9] = 0) (hk : Kok k) (e0 : a0 = k.N) (e1 : a1 = k.n) (e7 : a7 = k.c) (e8 : a8 = k.r) (S : Slo (x0 k.N (k.n + 1)) k.n 4 y k.gl) : Calls Tryz.prog 10 #[.agg #[.int .i64 a0, .int .i64 a1, .int .i64 a2, .int .i64 a3, .int .i64 a4, .int .i64 a5, .int .i64 a6, .int .i64 a7, .int .i64 a8, .int .i64 a9]] w fun e w' => ∃ (c : Cb) (L K : List Nat), e = .returned (.tuple #[.pointer (some ⟨c.B, 0, none⟩), .int .i64 0]) ∧ Cw w' k c L K (s0 k y) ∧ w.grownBy w' none ∧ ∀ q, q ∈ al c L K → w.heap.size ≤ q := by
  have hn1 := hk.n
  have G0 := Lib.hid (World.grownBy_alloc w (.cells #[.int .i64 a0, .int .i64 a1, .int .i64 a2, .int .i64 a3, .int .i64 a4, .int .i64 a5, .int .i64 a6, .int .i64 a7, .int .i64 a8, .int .i64 a9] 23) none)
  have CK := Lib.hid (cf.Check_yes _ _ _ _ _ _ _ _ _ _ _ (hT.below (((Below.refl w.heap.size w)).alloc (Nat.le_refl _) (.cells #[.int .i64 a0, .int .i64 a1, .int .i64 a2, .int .i64 a3, .int .i64 a4, .int .i64 a5, .int .i64 a6, .int .i64 a7, .int .i64 a8, .int .i64 a9] 23))) hn)
  have NH := Lib.hid (fun w => newHeap_any (a2 := a2) (a3 := a3) (a4 := a4) (a5 := a5) (a6 := a6) (a9 := a9) hk e0 e1 e7 e8 S w)
  have NE := Lib.hid (fun w => ep.New_any a1 k.n (by rw [e1]; exact enear (by omega)) (by omega) w)
  have NB := Lib.hid (fun w => bf.New_any a1 k.n (by rw [e1]; exact fnear (by omega)) (by omega) w)
  have KT := Lib.hid (fun W (hg : (w.alloc (.cells #[.int .i64 a0, .int .i64 a1, .int .i64 a2, .int .i64 a3, .int .i64 a4, .int .i64 a5, .int .i64 a6, .int .i64 a7, .int .i64 a8, .int .i64 a9] 23)).grownBy W none) => (show cf.Ten W w.heap.size a0 a1 a2 a3 a4 a5 a6 a7 a8 a9 from (cf.Ten.new w 23 a0 a1 a2 a3 a4 a5 a6 a7 a8 a9).below (li.grown_below hg)))
  have A0 := Lib.hid (World.grownBy.refl (w.alloc (.cells #[.int .i64 a0, .int .i64 a1, .int .i64 a2, .int .i64 a3, .int .i64 a4, .int .i64 a5, .int .i64 a6, .int .i64 a7, .int .i64 a8, .int .i64 a9] 23)) none)
  obtain ⟨c0, c1, c2, c3, c4, c5, c6, c7, c8, c9⟩ := cf.Ten.new w 23 a0 a1 a2 a3 a4 a5 a6 a7 a8 a9
  clear hT hn hk S hn1 e0 e1 e7 e8
  go_enter Tryz.func10, Tryz.ntmps10
  go_wp2_with (go_at_call 11; (with_reducible refine CK.out.mono ?_); rintro e w2 ⟨rfl, hb⟩; have A2 := Lib.hid (show (w.alloc (.cells #[.int .i64 a0, .int .i64 a1, .int .i64 a2, .int .i64 a3, .int .i64 a4, .int .i64 a5, .int .i64 a6, .int .i64 a7, .int .i64 a8, .int .i64 a9] 23)).grownBy w2 none from ro.grown_of hb); obtain ⟨d0, d1, d2, d3, d4, d5, d6, d7, d8, d9⟩ := KT.out _ A2.out; clear hb)
  go_region_held3 (fun W => W.cell? ⟨w.heap.size, 0, none⟩ = some (.int .i64 a0) ∧ W.cell? ⟨w.heap.size, 1, none⟩ = some (.int .i64 a1) ∧ W.cell? ⟨w.heap.size, 2, none⟩ = some (.int .i64 a2) ∧ W.cell? ⟨w.heap.size, 3, none⟩ = some (.int .i64 a3) ∧ W.cell? ⟨w.heap.size, 4, none⟩ = some (.int .i64 a4) ∧ W.cell? ⟨w.heap.size, 5, none⟩ = some (.int .i64 a5) ∧ W.cell? ⟨w.heap.size, 6, none⟩ = some (.int .i64 a6) ∧ W.cell? ⟨w.heap.size, 7, none⟩ = some (.int .i64 a7) ∧ W.cell? ⟨w.heap.size, 8, none⟩ = some (.int .i64 a8) ∧ W.cell? ⟨w.heap.size, 9, none⟩ = some (.int .i64 a9)) (first | with_reducible exact ⟨d0, d1, d2, d3, d4, d5, d6, d7, d8, d9⟩ | with_reducible exact KT.out _ A3.out | with_reducible exact KT.out _ A4.out | with_reducible exact KT.out _ A5.out | with_reducible exact KT.out _ (A5.out.trans (World.grownBy_alloc _ _ _)) | go_keep) (first
    | (go_at_call 46; (with_reducible refine (NH.out _).mono ?_); rintro e w3 ⟨I, g, t, v, L, rfl, h1, h2, hg, h3⟩; have A3 := Lib.hid (show (w.alloc (.cells #[.int .i64 a0, .int .i64 a1, .int .i64 a2, .int .i64 a3, .int .i64 a4, .int .i64 a5, .int .i64 a6, .int .i64 a7, .int .i64 a8, .int .i64 a9] 23)).grownBy w3 none from World.grownBy.trans (by first | exact A2.out | exact World.grownBy.trans A2.out (li.grown_drewN _ _ _) | exact World.grownBy.trans A2.out (gr.grown_drew _ _)) hg); have H3 := Lib.hid (And.intro h1 (And.intro h2 (And.intro hg.size h3))); clear h1 h2 hg h3)
    | (go_at_call 47; (with_reducible refine (NE.out _).mono ?_); rintro e w4 ⟨ge, rfl, h1, h2, hg⟩; have A4 := Lib.hid (show (w.alloc (.cells #[.int .i64 a0, .int .i64 a1, .int .i64 a2, .int .i64 a3, .int .i64 a4, .int .i64 a5, .int .i64 a6, .int .i64 a7, .int .i64 a8, .int .i64 a9] 23)).grownBy w4 none from World.grownBy.trans (by first | exact A3.out | exact World.grownBy.trans A3.out (li.grown_drewN _ _ _) | exact World.grownBy.trans A3.out (gr.grown_drew _ _)) hg); have B4 := Lib.hid (show w3.grownBy w4 none from (by first | exact hg | exact World.grownBy.trans (gr.grown_drew _ _) hg | exact World.grownBy.trans (li.grown_drewN _ _ _) hg)); have H4 := Lib.hid (And.intro h1 h2); clear h1 h2 hg)
    | (go_at_call 48; (with_reducible refine (NB.out _).mono ?_); rintro e w5 ⟨gb, K, rfl, h1, h2, hg⟩; have A5 := Lib.hid (show (w.alloc (.cells #[.int .i64 a0, .int .i64 a1, .int .i64 a2, .int .i64 a3, .int .i64 a4, .int .i64 a5, .int .i64 a6, .int .i64 a7, .int .i64 a8, .int .i64 a9] 23)).grownBy w5 none from World.grownBy.trans (by first | exact A4.out | exact World.grownBy.trans A4.out (li.grown_drewN _ _ _) | exact World.grownBy.trans A4.out (gr.grown_drew _ _)) hg); have B5 := Lib.hid (show w4.grownBy w5 none from (by first | exact hg | exact World.grownBy.trans (gr.grown_drew _ _) hg | exact World.grownBy.trans (li.grown_drewN _ _ _) hg)); have H5 := Lib.hid (And.intro h1 h2); clear h1 h2 hg))
  go_wp2
  go_ret2
  have Z : ∀ {X : World}, (w.alloc (.cells #[.int .i64 a0, .int .i64 a1, .int .i64 a2, .int .i64 a3, .int .i64 a4, .int .i64 a5, .int .i64 a6, .int .i64 a7, .int .i64 a8, .int .i64 a9] 23)).grownBy X none → w.heap.size ≤ X.heap.size := fun h => Nat.le_trans (sza _ _) h.size
  obtain ⟨h1, h2, h3, h4, h5, h6, h7⟩ := H3.out
  obtain ⟨r1, r2⟩ := H4.out
  obtain ⟨q1, q2⟩ := H5.out
  have ga := World.grownBy_alloc w5 (.cells (((((((Tryz.zeroCells65.setIfInBounds 0 (.pointer (some ⟨I.S, 0, none⟩))).setIfInBounds 1 (.pointer (some ⟨g, 0, none⟩))).setIfInBounds 2 (.pointer (some ⟨t, 0, none⟩))).setIfInBounds 3 (.pointer (some ⟨v, 0, none⟩))).setIfInBounds 4 (.int .i64 k.gl)).setIfInBounds 5 (.pointer (some ⟨ge, 0, none⟩))).setIfInBounds 6 (.pointer (some ⟨gb, 0, none⟩))) 65) none
  exact ⟨⟨w5.heap.size, I, g, t, v, ge, gb⟩, L, K, rfl, made_cw k y B4.out B5.out h1 h2 r1 q1 q2 ga (heap_alloc_new _ _), (G0.out.trans A5.out).trans ga, made_fr (Z A5.out) (fun q hq => Nat.le_trans (Z A2.out) (h4 q hq)) (fun q hq => Nat.le_trans (Z A2.out) (h5 q hq)) (Nat.le_trans (Z A2.out) h6) (Nat.le_trans (Z A2.out) h7) (Nat.le_trans (Z A3.out) r2) (fun q hq => Nat.le_trans (Z A4.out) (q2 q hq))⟩
end
end Go.Proofs.YtkgdcgmbapchcaaGreatDoor.cy
namespace Go.Proofs.YtkgdcgmbapchcaaGreatDoor.cy
open Go.ChangeShapes Go.WideShapes Go.ChangeAt Go.RowKit gen calls cls geos ce st sh
set_option linter.unusedVariables false
set_option maxHeartbeats 4000000
set_option maxRecDepth 100000
section
variable {k : Kn} {σ : Cy} {x y : Hs} {a n : Nat} {t : Int}
theorem rdv_zero : tc.rdv 0 = (0, 0) := by unfold tc.rdv; decide
structure Nw (x y : Hs) (a n : Nat) : Prop where
  iv : st.Iv y
  T : y.T = x.T
  ks : y.ks.length = x.ks.length
  tk : ∀ b, b ∈ y.tk ↔ b ∈ x.tk ∨ b = a
  no : (a : Int) ∉ x.tk
  old : ∀ b ∈ x.tk, tc.fls y b = tc.fls x b
  len : (tc.fls y a).length = n
  zero : ∀ j, j < n → (tc.fls y a).getD j (0, 0) = (0, 0)
  cnt : y.cnt = x.cnt + 1
  ser : ser y a = x.cnt ∧ ∀ b ∈ x.tk, ser y b = ser x b
  wk : wok x → wok y
theorem Slo_nw (V : st.Iv x) (s8 : x.cnt < 1099511627776) (ht : 0 ≤ t ∧ t < x.T) (S : Slo x t n y a) : Nw x y a n := by
  obtain ⟨V1, K1, M1, T1⟩ := Slo_iv V s8 ht S
  have n7 := Slo_le S
  have tke : y.tk = bm.rising (x.tk ++ [(a : Int)]) := by
    clear V1 K1 M1 T1
    rcases S with ⟨_, p, N, m, _, _, _, _, _, rfl⟩ | ⟨_, p, m, f, rest, _, _, rfl⟩ | ⟨_, _, p, m, f, rest, _, _, _, _, rfl⟩ | ⟨_, _, _, p, m, m0, n0, f, rest, _, _, _, _, rfl⟩
    all_goals rfl
  have tk : ∀ b, b ∈ y.tk ↔ b ∈ x.tk ∨ b = a := fun b => by rw [tke, bm.mem_rising, List.mem_append, List.mem_singleton]
  have ks : y.ks.length = x.ks.length := by
    clear V1 K1 M1 T1 tk tke
    rcases S with ⟨_, p, N, m, _, _, _, _, _, rfl⟩ | ⟨_, p, m, f, rest, _, _, rfl⟩ | ⟨_, _, p, m, f, rest, _, _, _, _, rfl⟩ | ⟨_, _, _, p, m, m0, n0, f, rest, _, _, _, _, rfl⟩
    · show (pg.spanN x.ks p N).length = _; exact pg.spanN_length _ _ _
    · rfl
    · rfl
    · show (x.ks.set p _).length = _; exact List.length_set
  have old : ∀ b ∈ x.tk, tc.fls y b = tc.fls x b := fun b hb => (ph.fls_keep V K1 hb trivial).2
  have old1 : ∀ b ∈ x.tk, ser y b = ser x b := fun b hb => by unfold ser; rw [(ph.fls_keep V K1 hb trivial).1]
  have e0 := M1.ob.2
  have ob : Ob y a x.cnt n := ⟨M1.ob.1, e0, by omega, s8⟩
  obtain ⟨len, at_⟩ := tc.fls_ob ob
  have zero : ∀ j, j < n → (tc.fls y a).getD j (0, 0) = (0, 0) := fun j hj => by
    rw [at_ j hj, show a + 1 + j = a + (1 + j) by omega, M1.zero (1 + j) (by omega) (by omega)]
    exact rdv_zero
  refine ⟨V1, T1, ks, tk, M1.not, old, len, zero, M1.cnt, ⟨by unfold ser; rw [Int.toNat_natCast, e0]; omega, old1⟩, fun hw b hb j hj => ?_⟩
  rcases (tk b).1 hb with h | rfl
  · obtain ⟨_, _, h3⟩ := K1 b h trivial
    obtain ⟨s, m, l1, l2, l3, l4⟩ := V.live b h
    have hr := ph.tk_range V h
    rw [old b h] at hj
    have e : (tc.fls x b).length = m := by rw [tc.fls_len, l4]; omega
    rw [h3 (b.toNat + 1 + j) (by omega) (by omega)]
    exact hw b h j hj
  · rw [len] at hj
    rw [Int.toNat_natCast, show a + 1 + j = a + (1 + j) by omega, M1.zero (1 + j) (by omega) (by omega)]
    exact rb_zero
theorem Nw.no2 (h : Nw x y a n) (j : Nat) (b : Int) : (tc.fls y a)[j]? ≠ some (2, b) := fun e => by
  have hj := (List.getElem?_eq_some_iff.1 e).1
  rw [h.len] at hj
  have := h.zero j hj
  rw [List.getD_eq_getElem?_getD, e] at this
  cases this
theorem rep_get {α : Type} (n t : Nat) (d : α) : (List.replicate n d).getD t d = d := by
  rw [List.getD_eq_getElem?_getD]
  by_cases h : t < n
  · rw [List.getElem?_replicate, if_pos h]; rfl
  · rw [List.getElem?_eq_none (by simp; omega)]; rfl
theorem none0_isb (a : Int) : isb none0.ws a = false := by
  unfold isb
  rw [show bm.bit none0.ws a.toNat = false from bm.bit_zeros _, Bool.and_false]
theorem s0_inv (hk : Kok k) (N : Nw (x0 k.N (k.n + 1)) y k.gl 4) : Inv k (s0 k y) ∧ Stl (s0 k y) := by
  have hN := hk.N
  have of0 : ∀ t : Int, ep.of (s0 k y).th t = -1 := fun t => by
    unfold ep.of
    split
    · exact rep_get _ _ _
    · rfl
  have lv0 : ∀ t, (s0 k y).lv t = false := fun t => by unfold Cy.lv; rw [of0]; rfl
  have tk1 : ∀ b, b ∈ y.tk ↔ b = k.gl := fun b => by rw [N.tk]; simp [x0]
  have no2 : ∀ a ∈ y.tk, ∀ (j : Nat) (b : Int), (tc.fls y a)[j]? ≠ some (2, b) := fun a ha => by rw [(tk1 a).1 ha]; exact N.no2
  have rt0 : ∀ t : Nat, (s0 k y).rt.getD t [] = [] := fun t => rep_get _ _ _
  have bf0 : ∀ t : Nat, (s0 k y).bf.getD t [] = [] := fun t => rep_get _ _ _
  have hr : ∀ x ∈ (s0 k y).th, -1 ≤ x ∧ x ≤ ((s0 k y).e : Int) := fun x hx => by
    have : x = -1 := List.eq_of_mem_replicate hx
    subst this
    exact ⟨by omega, by show (-1 : Int) ≤ ((0 : Nat) : Int); omega⟩
  refine ⟨{ iv := N.iv, wk := N.wk (fun a ha => by simp [x0] at ha), xT := N.T, xN := N.ks.trans (by simp [x0]), thl := by simp [s0], thr := hr, bfl := by simp [s0], bfo := ⟨by show (List.replicate k.n []).length ≤ 8; rw [List.length_replicate]; exact hk.n.2, fun i => (by rw [bf0]; exact bf.Wl.nil)⟩, rtl := by simp [s0], rtr := fun t => (by rw [rt0]; simp), rtd := fun t h => absurd (rt0 t) h, bfd := fun t h => absurd (bf0 t) h, gln := N.len, glg := ⟨(tk1 _).2 rfl, fun h => by cases h⟩, rtg := fun t a h => (by rw [rt0] at h; simp at h), cl := fun a ha j b h => absurd h (no2 a ha.1 j b), fi := bm.Fine.zeros (by omega), mr := fun a h => (by have := none0_isb a; rw [show (s0 k y).s = none0 from rfl, this] at h; cases h), p5 := Nat.zero_le _, lo := fun _ a => none0_isb a, idl := fun _ => ⟨rfl, rfl, rfl⟩, q5 := fun h => (by cases h), qN := fun _ => rfl, fN := Nat.zero_le _, bE := fun _ => bf0, bT := fun h => absurd h.1 (by show ¬ 2 ≤ 0; omega), i3 := fun h => absurd h.1 (by show ¬ 2 ≤ 0; omega), p2 := fun h => (by cases h), tr := fun h => absurd h.1 (by show ¬ 2 ≤ 0; omega) }, { y := fun _ => (ag_iff hr).2 fun t h => (by rw [lv0] at h; cases h), n := fun h => ?_ }⟩
  rcases h with h | h | h <;> cases h
end
end Go.Proofs.YtkgdcgmbapchcaaGreatDoor.cy
