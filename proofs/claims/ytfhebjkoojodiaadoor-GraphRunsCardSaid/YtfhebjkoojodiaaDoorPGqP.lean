/- Texts that this claim stands on. -/
import Derived.Test.YtfhebjkoojodiaaDoorPGqO
import Derived.Test.YtfhebjkoojodiaaDoorPCfB
import Derived.Test.YtfhebjkoojodiaaDoorPGpP
namespace Go.Proofs.YtfhebjkoojodiaaDoor.gq
open Go.ChangeShapes Go.WideShapes Go.ChangeAt Go.RowKit gen va cd gp
set_option linter.unusedVariables false
set_option linter.unusedSimpArgs false
set_option maxHeartbeats 1000000
set_option maxRecDepth 100000
theorem of_below {w w' : World} (h : Below w.heap.size w w') : w.grownBy w' none := ⟨h.os, h.tape, h.output, h.size, fun i hi _ => h.block i hi⟩
theorem tab_gr {w w' : World} {L : List Nat} (h : cf.Table w) (hg : gr.Gr L w w') (hL : 0 ∉ L) : cf.Table w' := ⟨Nat.lt_of_lt_of_le h.1 hg.size, fun i hi => ⟨hg.cell (h.2 i hi).1 hL, hg.cell (h.2 i hi).2 hL⟩⟩
theorem tab_new {w w' : World} (h : cf.Table w) (hg : w.grownBy w' none) : cf.Table w' := tab_gr (L := []) h (.new hg) (by simp)
theorem info_th3 : (Tryd.prog.info? 84).map (fun i => (i.zero, i.size, i.bytes)) = some (some (.agg zc.toArray), 34, 272) := by kernel_rfl
theorem make_th (n : Nat) (hn : n ≤ 64) (w : World) :
    (Instr.makeSlice 58 (.int .i64 (n : Int)) (.int .i64 (n : Int))).run Tryd.prog w = .ok (.slice (some ⟨w.heap.size, 0, none⟩) n n) (w.alloc (.cells (madeCells zc.toArray (n * 34)) 84)) := by
  obtain ⟨i0, hi, hz0, hz1, hz2⟩ := info_parts info_th3
  have h := run_make (P := Tryd.prog) w 58 84 i0 _ Tryd.underlying58 hi hz0 .i64 .i64 n n (by omega) (Int.le_refl _) (by rw [hz2]; omega) (by omega)
  rw [h]
  simp only [Int.toNat_natCast, hz1]
  rfl
theorem made_th {n t x : Nat} (ht : t < n) (hx : x < 34) : (madeCells zc.toArray (n * 34))[t * 34 + x]? = zc[x]? := by
  have h1 : t * 34 + x < n * 34 := by omega
  have hs : zc.toArray.size = 34 := zc_size
  have e1 : (t * 34 + x) % 34 = x := by omega
  unfold madeCells
  rw [Array.getElem?_map, Array.getElem?_range, if_pos h1]
  simp only [Option.map_some, hs, e1]
  rw [getElem!_pos _ _ (by rw [hs]; exact hx), List.getElem_toArray, List.getElem?_eq_getElem]
theorem made_tc {n t : Nat} (ht : t < n) : Tc (madeCells zc.toArray (n * 34)) (t * 34) [] false := by
  refine ⟨?_, ?_, fun j hj => ⟨0, 0, ?_, ?_, fun hl => by simp at hl⟩⟩
  · exact (made_th (x := 0) ht (by omega)).trans rfl
  · exact (made_th ht (by omega)).trans zc_last
  · rw [Nat.add_assoc]
    exact (made_th ht (by omega)).trans (zc_mid (by omega) (by omega))
  · rw [Nat.add_assoc, Nat.add_assoc]
    exact (made_th ht (by omega)).trans (zc_mid (by omega) (by omega))
theorem newP {w wc : World} {B g R N : Nat} {q : Int} (hN : 0 < N) (hN8 : N ≤ 8) (q1 : 1 ≤ q) (q2 : q ≤ 16) (hg : w.heap[g]? = some (.cells #[.int .i64 q, .slice (some ⟨R, 0, none⟩) N N, .slice none 0 0] 60 (0, 0)))
    (hR : w.heap[R]? = some (.cells (madeCells zc.toArray (N * 34)) 84 (0, 0))) (lg : B ≤ g) (lR : B ≤ R) (lw : B ≤ w.heap.size) (hA : AdC w g none 0 0 4 [] wc) :
    ∃ K A nc vs bs, PwI wc K g (g0 N q) R N A nc vs bs ∧ (∀ k, k ∈ K → B ≤ k) ∧ gr.Gr [g] w wc := by
  obtain ⟨a', c', b, w1, own1, hb, lb, la, G1, G2, cs7, b1'⟩ := hA
  have G1' : gr.Gr [] w w1 := G1
  have gl := (Array.getElem?_eq_some_iff.1 hg).1
  have Rl := (Array.getElem?_eq_some_iff.1 hR).1
  have hg1 := G1'.heap hg (by simp)
  have e3 := heap_setCell_same w1 g 2 _ _ (.slice (some ⟨a', 0, none⟩) (0 + 1) c') hg1
  have GS : gr.Gr [g] w1 (w1.setCell ⟨g, 2, none⟩ (.slice (some ⟨a', 0, none⟩) (0 + 1) c')) := .one (gr.grown_set _ _ _ _) (by simp)
  have la' : w.heap.size < a' := la.elim (fun e => by cases e) id
  have nRg : R ≠ g := by
    rintro rfl
    rw [hg] at hR
    injection hR with hR
    injection hR with _ e _
    exact absurd e (by decide)
  have bg := G2.heap e3 (by simp; omega)
  have bR := G2.heap (GS.heap (G1'.heap hR (by simp)) (by simpa using nRg)) (by simp; omega)
  have bb := G2.heap (GS.heap hb (by simp; omega)) (by simp; omega)
  have own3 : wc.ownsRow 0 53 1 (.slice (some ⟨a', 0, none⟩) (0 + 1) c') (0 + 1) [.slice (some ⟨b, 0, none⟩) 4 4] :=
    gr.own_gr (gr.own_gr own1 GS (fun q hq => by injection hq with hq; subst hq; simp; omega)) G2 (fun q hq => by injection hq with hq; subst hq; simp; omega)
  obtain ⟨ca, ha⟩ := own_ty own3 a' rfl
  have GT : gr.Gr [g] w wc := ((G1'.mono (M := [g]) (fun _ h => by cases h)).trans GS).own G2 (fun q hq => .inr (by simp at hq; omega))
  refine ⟨[g, R, a', b], some ⟨a', 0, none⟩, c', fun _ => .slice (some ⟨b, 0, none⟩) 4 4, fun _ => b, ⟨⟨_, bg, rfl, rfl, rfl⟩, ⟨_, bR, fun t ht => made_tc ht⟩, ⟨Nat.le_refl _, by show N ≤ maxLen; unfold maxLen; omega⟩, own3, fun i hi => ⟨_, 4, rfl, Nat.le_refl _, by unfold maxLen; omega, b, rfl, fun _ => rfl⟩, fun i hi h0 => ⟨by simp, _, bb, fun f hf => ?_⟩, fun i j hi hj _ _ _ => ?_, by simp, by simp, fun q hq => by injection hq with hq; subst hq; simp, fun k hk => ?_, ?_⟩, fun k hk => ?_, GT⟩
  · obtain ⟨a1, a2⟩ := vc_at (List.replicate 4 (0, 0)) f hf
    refine ⟨?_, ?_⟩
    · rw [← Array.getElem?_toList, Nat.mul_comm]; exact a1
    · rw [← Array.getElem?_toList, Nat.mul_comm f 2]; exact a2
  · have hi' : i < 1 := hi
    have hj' : j < 1 := hj
    omega
  · have o3 := (Array.getElem?_eq_some_iff.1 ha).1
    have o4 := (Array.getElem?_eq_some_iff.1 bb).1
    have := GT.size
    simp at hk
    rcases hk with rfl | rfl | rfl | rfl <;> omega
  · refine ⟨hN8, hN, q1, q2, Nat.one_pos, by simp [g0], fun t => by simp [g0], fun i => by simp [g0], fun t v hv => (by cases hv), fun i v hi hv e => ?_, fun t _ => rfl⟩
    have := List.eq_of_mem_replicate (show v ∈ List.replicate 4 ((0, 0) : Va) from hv)
    subst this
    cases e
  · simp at hk
    rcases hk with rfl | rfl | rfl | rfl <;> omega
section
variable (c0 c2 q c4 c5 c6 c7 c8 c9 : Int)
theorem New_yes {w : World} (N : Nat) (hT : cf.Table w) (hn : cf.wrongN [c0, (N : Int), c2, q, c4, c5, c6, c7, c8, c9] = 0) (hN : 0 < N) (hN8 : N ≤ 8) (q1 : 1 ≤ q) (q2 : q ≤ 16) : Calls Tryd.prog 7 #[.agg #[.int .i64 c0, .int .i64 (N : Int), .int .i64 c2, .int .i64 q, .int .i64 c4, .int .i64 c5, .int .i64 c6, .int .i64 c7, .int .i64 c8, .int .i64 c9]] w
    fun e w' => ∃ g K R A nc vs bs, e = .returned (.tuple #[.pointer (some ⟨g, 0, none⟩), .int .i64 0]) ∧ PwI w' K g (g0 N q) R N A nc vs bs ∧ (∀ k, k ∈ K → w.heap.size ≤ k) ∧ w.grownBy w' none := by
  have G0 := Lib.hid (grown_alloc w (.cells #[.int .i64 c0, .int .i64 (N : Int), .int .i64 c2, .int .i64 q, .int .i64 c4, .int .i64 c5, .int .i64 c6, .int .i64 c7, .int .i64 c8, .int .i64 c9] 23))
  have CK := Lib.hid (fun W (hg : w.grownBy W none) => cf.Check_yes c0 (N : Int) c2 q c4 c5 c6 c7 c8 c9 W (tab_new hT hg) hn)
  have mk := make_th N (by omega)
  obtain ⟨cs, hcs⟩ : ∃ cs, madeCells zc.toArray (N * 34) = cs := ⟨_, rfl⟩
  have CS := Lib.hid hcs
  rw [hcs] at mk
  have x1 : (w.alloc (.cells #[.int .i64 c0, .int .i64 (N : Int), .int .i64 c2, .int .i64 q, .int .i64 c4, .int .i64 c5, .int .i64 c6, .int .i64 c7, .int .i64 c8, .int .i64 c9] 23)).cell? ⟨w.heap.size, 1, none⟩ = some (.int .i64 (N : Int)) := by simp [go_sem]
  have x3 : (w.alloc (.cells #[.int .i64 c0, .int .i64 (N : Int), .int .i64 c2, .int .i64 q, .int .i64 c4, .int .i64 c5, .int .i64 c6, .int .i64 c7, .int .i64 c8, .int .i64 c9] 23)).cell? ⟨w.heap.size, 3, none⟩ = some (.int .i64 q) := by simp [go_sem]
  have X1 := Lib.hid x1
  have X3 := Lib.hid x3
  clear hcs hn hT x1 x3
  go_enter Tryd.func7, Tryd.ntmps7
  go_wp2_with (first
    | (go_at_call 8; (with_reducible refine (CK.out _ G0.out).mono ?_); rintro e w1 ⟨rfl, hb⟩; have G1 := Lib.hid (of_below hb); have y1 := G1.out.cell X1.out (by simp); have y3 := G1.out.cell X3.out (by simp); have z3 := (grown_alloc w1 (.cells cs 84)).cell y3 (by simp); have GA := Lib.hid (G0.out.trans G1.out); clear hb))
  go_region
  obtain ⟨wz, hz⟩ : ∃ wz, wz = ((w1.alloc (.cells cs 84)).alloc (.cells #[.int .i64 q, .slice (some ⟨w1.heap.size, 0, none⟩) N N, .slice none 0 0] 60)).drew := ⟨_, rfl⟩
  have GZ := Lib.hid (show w.grownBy wz none by rw [hz]; exact GA.out.trans (((grown_alloc _ _).trans (grown_alloc _ _)).trans (gr.grown_drew _ _)))
  have s1 : w.heap.size ≤ w1.heap.size := GA.out.size
  have sz : w1.heap.size ≤ wz.heap.size := by rw [hz]; simp; omega
  have h1 : wz.heap[w1.heap.size + 1]? = some (.cells #[.int .i64 q, .slice (some ⟨w1.heap.size, 0, none⟩) N N, .slice none 0 0] 60 (0, 0)) := by
    rw [hz]
    have e : (w1.alloc (.cells cs 84)).heap.size = w1.heap.size + 1 := by simp
    rw [← e]
    exact heap_alloc_new _ _
  have h2 : wz.heap[w1.heap.size]? = some (.cells (madeCells zc.toArray (N * 34)) 84 (0, 0)) := by
    rw [hz, CS.out]
    exact heap_two w1 _ _
  have AD := Lib.hid (show Calls Tryd.prog 22 #[.pointer (some ⟨w1.heap.size + 1, 0, none⟩), .int .i64 4] wz (fun e w' => e = .returned (.agg #[.int .i64 2, .int .i64 ((0 : Nat) : Int)]) ∧ AdC wz (w1.heap.size + 1) none 0 0 4 [] w') from add_raw (xs := []) (M := 0) (A := none) (nc := 0) h1 rfl (fun q hq => by cases hq) (World.ownsRow_nil _ _ _ _) (by omega) 4 (by omega))
  have H1 := Lib.hid h1
  have H2 := Lib.hid h2
  rw [← hz]
  clear hz h1 h2
  go_wp2_with (first
    | (go_at_call 22; (with_reducible refine AD.out.mono ?_); rintro e w2 ⟨rfl, hA⟩; have HA := Lib.hid hA; clear hA))
  go_ret2
  obtain ⟨K, A, nc, vs, bs, p1, p2, p3⟩ := newP (B := w.heap.size) hN hN8 q1 q2 H1.out H2.out (by omega) (by omega) (by omega) HA.out
  exact ⟨_, K, _, A, nc, vs, bs, rfl, p1, p2, p3.grown GZ.out (fun q hq => by simp at hq; omega)⟩
theorem New_no {w : World} (c1 : Int) {n : Int} (h0 : (n == 0) = false) (hT : cf.Table w) (hn : cf.wrongN [c0, c1, c2, q, c4, c5, c6, c7, c8, c9] = n) : Calls Tryd.prog 7 #[.agg #[.int .i64 c0, .int .i64 c1, .int .i64 c2, .int .i64 q, .int .i64 c4, .int .i64 c5, .int .i64 c6, .int .i64 c7, .int .i64 c8, .int .i64 c9]] w
    fun e w' => e = .returned (.tuple #[.pointer none, .int .i64 6]) ∧ w.grownBy w' none := by
  have G0 := Lib.hid (grown_alloc w (.cells #[.int .i64 c0, .int .i64 c1, .int .i64 c2, .int .i64 q, .int .i64 c4, .int .i64 c5, .int .i64 c6, .int .i64 c7, .int .i64 c8, .int .i64 c9] 23))
  have CK := Lib.hid (fun W (hg : w.grownBy W none) => cf.Check_no c0 c1 c2 q c4 c5 c6 c7 c8 c9 W h0 (tab_new hT hg) hn)
  clear hn hT h0
  go_enter Tryd.func7, Tryd.ntmps7
  go_wp2_with (first
    | (go_at_call 8; (with_reducible refine (CK.out _ G0.out).mono ?_); rintro e w1 ⟨rfl, hb⟩; have G1 := Lib.hid (G0.out.trans (of_below hb)); clear hb))
  go_ret2
  exact ⟨rfl, G1.out⟩
end
section
variable {w : World} {K : List Nat} {g : Nat} {σ : Gs} {R tc : Nat} {A : Option Addr} {nc : Nat} {vs : Nat → Value} {bs : Nat → Nat}
theorem Made_yes (h : PwI w K g σ R tc A nc vs bs) : Calls Tryd.prog 17 #[.pointer (some ⟨g, 0, none⟩)] w fun e w' => e = .returned (.int .i64 (σ.M : Int)) ∧ w = w' := by
  have MA := Lib.hid (made_yes h)
  have c2 := h.c2
  clear h
  go_enter Tryd.func17, Tryd.ntmps17
  go_wp2_with (first
    | (go_at_call 28; (with_reducible refine MA.out.mono ?_); rintro e w1 ⟨rfl, hw⟩; subst hw))
  go_ret
  exact ⟨rfl, rfl⟩
end
end Go.Proofs.YtfhebjkoojodiaaDoor.gq
