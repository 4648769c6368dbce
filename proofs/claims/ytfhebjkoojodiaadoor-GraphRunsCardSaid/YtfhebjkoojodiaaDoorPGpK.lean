/- Texts that this claim stands on. -/
import Derived.Test.YtfhebjkoojodiaaDoorPGpI
namespace Go.Proofs.YtfhebjkoojodiaaDoor.gp
open Go.ChangeShapes Go.WideShapes Go.ChangeAt Go.RowKit gen va cd
set_option linter.unusedVariables false
set_option maxHeartbeats 1000000
set_option maxRecDepth 100000
section
variable {w : World} {K : List Nat} {g : Nat} {cf : Nat → Int} {σ : Gs}
theorem vc_set (m : List Va) (f : Nat) (v : Va) : ((vc m).set (2 * f) (.int .i64 v.1)).set (2 * f + 1) (.int .i64 v.2) = vc (m.set f v) := by
  induction m generalizing f with
  | nil => simp [vc]
  | cons x m ih =>
    cases f with
    | zero => simp [vc]
    | succ f =>
      rw [show 2 * (f + 1) = 2 * f + 2 by omega]
      show .int .i64 x.1 :: .int .i64 x.2 :: ((vc m).set (2 * f) (.int .i64 v.1)).set (2 * f + 1) (.int .i64 v.2) = _
      rw [ih]
      rfl
theorem GwI.fset {R : Nat} {A : Option Addr} {nc : Nat} {vs : Nat → Value} {bs : Nat → Nat} (h : GwI w K g cf σ R A nc vs bs) {y f : Nat} (hy : y < σ.M) (hf : f < (σ.nd y).length) {v1 v2 : Int} (hv : v1 = 2 → 0 ≤ v2 ∧ v2 < σ.M) :
    GwI ((w.setCell ⟨bs y, f * 2, none⟩ (.int .i64 v1)).setCell ⟨bs y, f * 2 + 1, none⟩ (.int .i64 v2)) K g cf { σ with nd := upd σ.nd y ((σ.nd y).set f (v1, v2)) } R A nc vs bs := by
  have e1 := h.node y hy
  have e3 := heap_setCell_same w (bs y) (f * 2) _ _ (.int .i64 v1) e1
  have e4 := heap_setCell_same _ (bs y) (f * 2 + 1) _ _ (.int .i64 v2) e3
  have GS : gr.Gr [bs y] w ((w.setCell ⟨bs y, f * 2, none⟩ (.int .i64 v1)).setCell ⟨bs y, f * 2 + 1, none⟩ (.int .i64 v2)) := .one ((gr.grown_set _ _ _ _).trans (gr.grown_set _ _ _ _)) (by simp)
  have no : ∀ {q : Nat} {cs : Array Value} {e : TypeId} {fz : Nat × Nat}, w.heap[q]? = some (.cells cs e fz) → e ≠ 57 → q ∉ [bs y] := fun hq he hm => by
    rw [List.mem_singleton] at hm
    exact ty_ne' hq e1 he hm
  obtain ⟨cs, b1, b2⟩ := h.box
  obtain ⟨cr, r1, r2⟩ := h.row
  have len : ∀ i, (upd σ.nd y ((σ.nd y).set f (v1, v2)) i).length = (σ.nd i).length := fun i => by
    by_cases e : i = y
    · subst e; rw [upd_same]; simp
    · rw [upd_else _ _ e]
  have ok : Gs.Ok { σ with nd := upd σ.nd y ((σ.nd y).set f (v1, v2)) } := by
    have q := h.ok
    refine ⟨q.n, q.n0, q.q1, q.q2, q.m0, q.m, q.hl, fun i => by show (upd σ.nd y ((σ.nd y).set f (v1, v2)) i).length ≤ 127; rw [len]; exact q.nl i, q.hr, fun i v hi hm => ?_, q.dead⟩
    have hm' : v ∈ upd σ.nd y ((σ.nd y).set f (v1, v2)) i := hm
    by_cases e : i = y
    · subst e
      rw [upd_same] at hm'
      rcases List.mem_or_eq_of_mem_set hm' with hm' | rfl
      · exact q.nr i v hi hm'
      · exact hv
    · rw [upd_else _ _ e] at hm'; exact q.nr i v hi hm'
  refine ⟨⟨cs, GS.heap b1 (no b1 (by decide)), b2⟩, ⟨cr, GS.heap r1 (no r1 (by decide)), r2⟩, fun s hs => ?_, ?_, fun i hi => ?_, h.apart, h.kg, h.kR, h.kA, h.kb, fun q hq => by have := h.lt q hq; simpa using this, h.cq, ok⟩
  · obtain ⟨A', n', k', q1, q2, q3, q4⟩ := h.held s hs
    have nb : ∀ ad, A' = some ad → ad.block ∉ [bs y] := fun ad e hm => by
      rw [List.mem_singleton] at hm
      exact (q4 ad e).2.2 y hy hm
    refine ⟨A', n', k', q1, rv_gr q2 GS GS.size nb, q3, fun ad e => ?_⟩
    obtain ⟨p1, ⟨c1, z1, p2⟩, p3⟩ := q4 ad e
    exact ⟨p1, ⟨c1, z1, GS.heap p2 (nb ad e)⟩, p3⟩
  · have o := gr.own_gr h.own GS (fun q hq => by obtain ⟨c1, c2⟩ := own_ty h.own q hq; exact no c2 (by decide))
    rw [nvs_congr (bs' := bs) (nd' := upd σ.nd y ((σ.nd y).set f (v1, v2))) (fun i _ => ⟨rfl, (len i).symm⟩)] at o
    exact o
  · show _ = some (Obj.cells (vc (upd σ.nd y ((σ.nd y).set f (v1, v2)) i)).toArray _ _)
    by_cases e : i = y
    · subst e
      rw [upd_same, e4, ← vc_set, Nat.mul_comm f 2]
      simp
    · rw [upd_else _ _ e]
      exact GS.heap (h.node i hi) (fun hm => by rw [List.mem_singleton] at hm; exact e (h.apart i y hi hy hm))
theorem Do_12 (h : Gw w K g cf σ) (t i f j : Nat) (c n : Int) (ht : t < σ.N) (live : σ.lv t = true) (hi : i < (σ.hd t).length) {y : Nat} (hv : (σ.hd t).getD i (0, 0) = (2, (y : Int))) (hy : y < σ.M) {l : Nat} (hl : (σ.nd y).length = l) : Calls Tryd.prog 26 #[.pointer (some ⟨g, 0, none⟩), .agg #[.int .i64 12, .int .i64 (t : Int), .int .i64 (i : Int), .int .i64 (f : Int), .int .i64 (j : Int), .int .i64 c, .int .i64 n]] w fun e w' => e = Aw 1 (l : Int) ∧ Gans w K g cf σ w' := by
  obtain ⟨R, A, nc, vs, bs, h⟩ := h
  have G0 := Lib.hid ((grown_alloc w (.cells #[.int .i64 12, .int .i64 (t : Int), .int .i64 (i : Int), .int .i64 (f : Int), .int .i64 (j : Int), .int .i64 c, .int .i64 n] 39)).trans (grown_alloc _ (.cells #[.int .i64 0, .int .i64 0, .int .i64 0, .int .i64 0, .int .i64 0] 36)))
  have x10 := h.c10
  have x11 := h.c11
  obtain ⟨B, m, kk, hm, hm16, t1, hr, hB⟩ := h.hv ht
  have f1 := h.freeR (t * 2 + 1)
  have hN := h.ok.n
  have i1 : (0 : Int) ≤ (t : Int) := by omega
  have i2 : (t : Int) < (σ.N : Int) := by omega
  have rl := h.lt R h.kR
  have gl := h.lt g h.kg
  have n2 : ¬ (w.heap.size = R) := by omega
  have n4 : ¬ (w.heap.size + 1 = R) := by omega
  have H := Lib.hid h
  have HR := Lib.hid hr
  have HB := Lib.hid hB
  have OK := Lib.hid h.ok
  have LV := Lib.hid live
  obtain ⟨bb, oo, rfl, d0, d1⟩ := HR.out.at_ (i := i) (by omega)
  rw [hv] at d0 d1
  dsimp only at d0 d1
  have bl : bb < w.heap.size := World.block_lt_of_cell? w _ d0
  have i3 : (0 : Int) ≤ (i : Int) := by omega
  have i4 : (i : Int) < (m : Int) := by omega
  obtain ⟨a, rfl, d2⟩ := H.out.nv hy
  have al : a < w.heap.size := World.block_lt_of_cell? w _ d2
  rw [hl] at d2
  have i5 : (0 : Int) ≤ (y : Int) := by omega
  have i6 : (y : Int) < (σ.M : Int) := by omega
  clear hl
  clear h hr hB live
  go_enter Tryd.func26, Tryd.ntmps26
  go_wp2
  go_quiet (fail)
  go_wp2
  go_region
  go_wp2
  refine bodyPost_ret (v := .agg #[.int .i64 0, .int .i64 1, .int .i64 (l : Int), .int .i64 0, .int .i64 0]) (by simp [results, Tryd.results26, go_sem]) rfl ⟨rfl, ?_⟩
  exact ⟨K, ⟨R, _, nc, vs, bs, H.out.new (li.grown_new (G0.out.trans (li.grown_drewN _ _ _)) (setA _ _ _ _ _ _ _) (Nat.le_succ _))⟩, .new (li.grown_new (G0.out.trans (li.grown_drewN _ _ _)) (setA _ _ _ _ _ _ _) (Nat.le_succ _)), fun q hq => .inl hq⟩
theorem Do_11a (h : Gw w K g cf σ) (t i f j : Nat) (c n : Int) (ht : t < σ.N) (live : σ.lv t = true) (hi : i < (σ.hd t).length) (hj : j < (σ.hd t).length) {x1 x2 y1 y2 : Int} (hv : (σ.hd t).getD i (0, 0) = (x1, x2)) (hw : (σ.hd t).getD j (0, 0) = (y1, y2)) (he : x1 = y1 ∧ x2 = y2) : Calls Tryd.prog 26 #[.pointer (some ⟨g, 0, none⟩), .agg #[.int .i64 11, .int .i64 (t : Int), .int .i64 (i : Int), .int .i64 (f : Int), .int .i64 (j : Int), .int .i64 c, .int .i64 n]] w fun e w' => e = Aw 1 1 ∧ Gans w K g cf σ w' := by
  obtain ⟨R, A, nc, vs, bs, h⟩ := h
  have G0 := Lib.hid ((grown_alloc w (.cells #[.int .i64 11, .int .i64 (t : Int), .int .i64 (i : Int), .int .i64 (f : Int), .int .i64 (j : Int), .int .i64 c, .int .i64 n] 39)).trans (grown_alloc _ (.cells #[.int .i64 0, .int .i64 0, .int .i64 0, .int .i64 0, .int .i64 0] 36)))
  have x10 := h.c10
  have x11 := h.c11
  obtain ⟨B, m, kk, hm, hm16, t1, hr, hB⟩ := h.hv ht
  have f1 := h.freeR (t * 2 + 1)
  have hN := h.ok.n
  have i1 : (0 : Int) ≤ (t : Int) := by omega
  have i2 : (t : Int) < (σ.N : Int) := by omega
  have rl := h.lt R h.kR
  have gl := h.lt g h.kg
  have n2 : ¬ (w.heap.size = R) := by omega
  have n4 : ¬ (w.heap.size + 1 = R) := by omega
  have H := Lib.hid h
  have HR := Lib.hid hr
  have HB := Lib.hid hB
  have OK := Lib.hid h.ok
  have LV := Lib.hid live
  obtain ⟨bb, oo, rfl, d0, d1⟩ := HR.out.at_ (i := i) (by omega)
  rw [hv] at d0 d1
  dsimp only at d0 d1
  have bl : bb < w.heap.size := World.block_lt_of_cell? w _ d0
  have i3 : (0 : Int) ≤ (i : Int) := by omega
  have i4 : (i : Int) < (m : Int) := by omega
  obtain ⟨bb', oo', eb, d2, d3⟩ := HR.out.at_ (i := j) (by omega)
  injection eb with eb
  injection eb with eb1 eb2 _
  subst eb1 eb2
  rw [hw] at d2 d3
  dsimp only at d2 d3
  have i5 : (0 : Int) ≤ (j : Int) := by omega
  have i6 : (j : Int) < (m : Int) := by omega
  obtain ⟨rfl, rfl⟩ := he
  clear h hr hB live
  go_enter Tryd.func26, Tryd.ntmps26
  go_wp2
  go_quiet (fail)
  go_wp2
  go_quiet (fail)
  go_wp2
  refine bodyPost_ret (v := .agg #[.int .i64 0, .int .i64 1, .int .i64 1, .int .i64 0, .int .i64 0]) (by simp [results, Tryd.results26, go_sem]) rfl ⟨rfl, ?_⟩
  exact ⟨K, ⟨R, _, nc, vs, bs, H.out.new (li.grown_new (G0.out.trans (li.grown_drewN _ _ _)) (setA _ _ _ _ _ _ _) (Nat.le_succ _))⟩, .new (li.grown_new (G0.out.trans (li.grown_drewN _ _ _)) (setA _ _ _ _ _ _ _) (Nat.le_succ _)), fun q hq => .inl hq⟩
theorem Do_11b (h : Gw w K g cf σ) (t i f j : Nat) (c n : Int) (ht : t < σ.N) (live : σ.lv t = true) (hi : i < (σ.hd t).length) (hj : j < (σ.hd t).length) {x1 x2 y1 y2 : Int} (hv : (σ.hd t).getD i (0, 0) = (x1, x2)) (hw : (σ.hd t).getD j (0, 0) = (y1, y2)) (he : (x1 == y1) = false) : Calls Tryd.prog 26 #[.pointer (some ⟨g, 0, none⟩), .agg #[.int .i64 11, .int .i64 (t : Int), .int .i64 (i : Int), .int .i64 (f : Int), .int .i64 (j : Int), .int .i64 c, .int .i64 n]] w fun e w' => e = Aw 1 0 ∧ Gans w K g cf σ w' := by
  obtain ⟨R, A, nc, vs, bs, h⟩ := h
  have G0 := Lib.hid ((grown_alloc w (.cells #[.int .i64 11, .int .i64 (t : Int), .int .i64 (i : Int), .int .i64 (f : Int), .int .i64 (j : Int), .int .i64 c, .int .i64 n] 39)).trans (grown_alloc _ (.cells #[.int .i64 0, .int .i64 0, .int .i64 0, .int .i64 0, .int .i64 0] 36)))
  have x10 := h.c10
  have x11 := h.c11
  obtain ⟨B, m, kk, hm, hm16, t1, hr, hB⟩ := h.hv ht
  have f1 := h.freeR (t * 2 + 1)
  have hN := h.ok.n
  have i1 : (0 : Int) ≤ (t : Int) := by omega
  have i2 : (t : Int) < (σ.N : Int) := by omega
  have rl := h.lt R h.kR
  have gl := h.lt g h.kg
  have n2 : ¬ (w.heap.size = R) := by omega
  have n4 : ¬ (w.heap.size + 1 = R) := by omega
  have H := Lib.hid h
  have HR := Lib.hid hr
  have HB := Lib.hid hB
  have OK := Lib.hid h.ok
  have LV := Lib.hid live
  obtain ⟨bb, oo, rfl, d0, d1⟩ := HR.out.at_ (i := i) (by omega)
  rw [hv] at d0 d1
  dsimp only at d0 d1
  have bl : bb < w.heap.size := World.block_lt_of_cell? w _ d0
  have i3 : (0 : Int) ≤ (i : Int) := by omega
  have i4 : (i : Int) < (m : Int) := by omega
  obtain ⟨bb', oo', eb, d2, d3⟩ := HR.out.at_ (i := j) (by omega)
  injection eb with eb
  injection eb with eb1 eb2 _
  subst eb1 eb2
  rw [hw] at d2 d3
  dsimp only at d2 d3
  have i5 : (0 : Int) ≤ (j : Int) := by omega
  have i6 : (j : Int) < (m : Int) := by omega
  clear h hr hB live
  go_enter Tryd.func26, Tryd.ntmps26
  go_wp2
  go_quiet (fail)
  go_wp2
  go_quiet (fail)
  go_wp2
  refine bodyPost_ret (v := .agg #[.int .i64 0, .int .i64 1, .int .i64 0, .int .i64 0, .int .i64 0]) (by simp [results, Tryd.results26, go_sem]) rfl ⟨rfl, ?_⟩
  exact ⟨K, ⟨R, _, nc, vs, bs, H.out.new (li.grown_new (G0.out.trans (li.grown_drewN _ _ _)) (setA _ _ _ _ _ _ _) (Nat.le_succ _))⟩, .new (li.grown_new (G0.out.trans (li.grown_drewN _ _ _)) (setA _ _ _ _ _ _ _) (Nat.le_succ _)), fun q hq => .inl hq⟩
theorem Do_11c (h : Gw w K g cf σ) (t i f j : Nat) (c n : Int) (ht : t < σ.N) (live : σ.lv t = true) (hi : i < (σ.hd t).length) (hj : j < (σ.hd t).length) {x1 x2 y1 y2 : Int} (hv : (σ.hd t).getD i (0, 0) = (x1, x2)) (hw : (σ.hd t).getD j (0, 0) = (y1, y2)) (hf : x1 = y1) (he : (x2 == y2) = false) : Calls Tryd.prog 26 #[.pointer (some ⟨g, 0, none⟩), .agg #[.int .i64 11, .int .i64 (t : Int), .int .i64 (i : Int), .int .i64 (f : Int), .int .i64 (j : Int), .int .i64 c, .int .i64 n]] w fun e w' => e = Aw 1 0 ∧ Gans w K g cf σ w' := by
  obtain ⟨R, A, nc, vs, bs, h⟩ := h
  have G0 := Lib.hid ((grown_alloc w (.cells #[.int .i64 11, .int .i64 (t : Int), .int .i64 (i : Int), .int .i64 (f : Int), .int .i64 (j : Int), .int .i64 c, .int .i64 n] 39)).trans (grown_alloc _ (.cells #[.int .i64 0, .int .i64 0, .int .i64 0, .int .i64 0, .int .i64 0] 36)))
  have x10 := h.c10
  have x11 := h.c11
  obtain ⟨B, m, kk, hm, hm16, t1, hr, hB⟩ := h.hv ht
  have f1 := h.freeR (t * 2 + 1)
  have hN := h.ok.n
  have i1 : (0 : Int) ≤ (t : Int) := by omega
  have i2 : (t : Int) < (σ.N : Int) := by omega
  have rl := h.lt R h.kR
  have gl := h.lt g h.kg
  have n2 : ¬ (w.heap.size = R) := by omega
  have n4 : ¬ (w.heap.size + 1 = R) := by omega
  have H := Lib.hid h
  have HR := Lib.hid hr
  have HB := Lib.hid hB
  have OK := Lib.hid h.ok
  have LV := Lib.hid live
  obtain ⟨bb, oo, rfl, d0, d1⟩ := HR.out.at_ (i := i) (by omega)
  rw [hv] at d0 d1
  dsimp only at d0 d1
  have bl : bb < w.heap.size := World.block_lt_of_cell? w _ d0
  have i3 : (0 : Int) ≤ (i : Int) := by omega
  have i4 : (i : Int) < (m : Int) := by omega
  obtain ⟨bb', oo', eb, d2, d3⟩ := HR.out.at_ (i := j) (by omega)
  injection eb with eb
  injection eb with eb1 eb2 _
  subst eb1 eb2
  rw [hw] at d2 d3
  dsimp only at d2 d3
  have i5 : (0 : Int) ≤ (j : Int) := by omega
  have i6 : (j : Int) < (m : Int) := by omega
  subst hf
  clear h hr hB live
  go_enter Tryd.func26, Tryd.ntmps26
  go_wp2
  go_quiet (fail)
  go_wp2
  go_quiet (fail)
  go_wp2
  refine bodyPost_ret (v := .agg #[.int .i64 0, .int .i64 1, .int .i64 0, .int .i64 0, .int .i64 0]) (by simp [results, Tryd.results26, go_sem]) rfl ⟨rfl, ?_⟩
  exact ⟨K, ⟨R, _, nc, vs, bs, H.out.new (li.grown_new (G0.out.trans (li.grown_drewN _ _ _)) (setA _ _ _ _ _ _ _) (Nat.le_succ _))⟩, .new (li.grown_new (G0.out.trans (li.grown_drewN _ _ _)) (setA _ _ _ _ _ _ _) (Nat.le_succ _)), fun q hq => .inl hq⟩
theorem Do_10 (h : Gw w K g cf σ) (t i f j : Nat) (c n : Int) (ht : t < σ.N) (live : σ.lv t = true) (hi : i < (σ.hd t).length) {y : Nat} (hv : (σ.hd t).getD i (0, 0) = (2, (y : Int))) (hy : y < σ.M) (hf : f < (σ.nd y).length) (hj : j < (σ.hd t).length) {x1 x2 : Int} (hw : (σ.hd t).getD j (0, 0) = (x1, x2)) : Calls Tryd.prog 26 #[.pointer (some ⟨g, 0, none⟩), .agg #[.int .i64 10, .int .i64 (t : Int), .int .i64 (i : Int), .int .i64 (f : Int), .int .i64 (j : Int), .int .i64 c, .int .i64 n]] w fun e w' => e = Aw 0 0 ∧ Gans w K g cf { σ with nd := upd σ.nd y ((σ.nd y).set f (x1, x2)) } w' := by
  obtain ⟨R, A, nc, vs, bs, h⟩ := h
  have G0 := Lib.hid ((grown_alloc w (.cells #[.int .i64 10, .int .i64 (t : Int), .int .i64 (i : Int), .int .i64 (f : Int), .int .i64 (j : Int), .int .i64 c, .int .i64 n] 39)).trans (grown_alloc _ (.cells #[.int .i64 0, .int .i64 0, .int .i64 0, .int .i64 0, .int .i64 0] 36)))
  have x10 := h.c10
  have x11 := h.c11
  obtain ⟨B, m, kk, hm, hm16, t1, hr, hB⟩ := h.hv ht
  have f1 := h.freeR (t * 2 + 1)
  have hN := h.ok.n
  have i1 : (0 : Int) ≤ (t : Int) := by omega
  have i2 : (t : Int) < (σ.N : Int) := by omega
  have rl := h.lt R h.kR
  have gl := h.lt g h.kg
  have n2 : ¬ (w.heap.size = R) := by omega
  have n4 : ¬ (w.heap.size + 1 = R) := by omega
  have H := Lib.hid h
  have HR := Lib.hid hr
  have HB := Lib.hid hB
  have OK := Lib.hid h.ok
  have LV := Lib.hid live
  obtain ⟨bb, oo, rfl, d0, d1⟩ := HR.out.at_ (i := i) (by omega)
  rw [hv] at d0 d1
  dsimp only at d0 d1
  have bl : bb < w.heap.size := World.block_lt_of_cell? w _ d0
  have i3 : (0 : Int) ≤ (i : Int) := by omega
  have i4 : (i : Int) < (m : Int) := by omega
  obtain ⟨bb', oo', eb, d3, d4⟩ := HR.out.at_ (i := j) (by omega)
  injection eb with eb
  injection eb with eb1 eb2 _
  subst eb1 eb2
  rw [hw] at d3 d4
  dsimp only at d3 d4
  have j3 : (0 : Int) ≤ (j : Int) := by omega
  have j4 : (j : Int) < (m : Int) := by omega
  obtain ⟨l, hl⟩ : ∃ l, (σ.nd y).length = l := ⟨_, rfl⟩
  obtain ⟨a, rfl, d2⟩ := H.out.nv hy
  have al : a < w.heap.size := World.block_lt_of_cell? w _ d2
  rw [hl] at d2
  have i5 : (0 : Int) ≤ (y : Int) := by omega
  have i6 : (y : Int) < (σ.M : Int) := by omega
  obtain ⟨e0, e1⟩ := H.out.fv hy hf
  have f0 := H.out.free hy (f * 2)
  have f1' := H.out.free hy (f * 2 + 1)
  have HX := Lib.hid (show x1 = 2 → 0 ≤ x2 ∧ x2 < σ.M from fun e => by
    have := OK.out.hr t _ (va.getD_mem (m := σ.hd t) (i := j) hj)
    rw [hw] at this
    exact this e)
  have HF := Lib.hid hf
  rw [hl] at hf
  have i7 : (0 : Int) ≤ (f : Int) := by omega
  have i8 : (f : Int) < (l : Int) := by omega
  have yl := H.out.lt _ (H.out.kb y hy)
  have YB := Lib.hid (H.out.kb y hy)
  have n5 : ¬ (w.heap.size = bs y) := by omega
  have n6 : ¬ (w.heap.size + 1 = bs y) := by omega
  clear hl
  clear h hr hB live
  go_enter Tryd.func26, Tryd.ntmps26
  go_wp2
  go_quiet (fail)
  go_wp2
  go_region
  go_wp2
  refine bodyPost_ret (v := .agg #[.int .i64 0, .int .i64 0, .int .i64 0, .int .i64 0, .int .i64 0]) (by simp [results, Tryd.results26, go_sem]) rfl ⟨rfl, ?_⟩
  have g1 := G0.out.trans (li.grown_drewN _ (nq + 1) none)
  have g2 := (gr.Gr.new (L := K) g1).trans (.one ((gr.grown_set _ (bs y) (f * 2) (.int .i64 x1)).trans (gr.grown_set _ (bs y) (f * 2 + 1) (.int .i64 x2))) YB.out)
  exact ⟨K, ⟨R, _, nc, vs, bs, ((H.out.new g1).fset hy HF.out HX.out).gr (L := [w.heap.size + 1]) (.one (setA _ _ _ _ _ _ _) (by simp)) (fun k hk hm => by rw [List.mem_singleton] at hm; have := H.out.lt k hk; omega)⟩,
    g2.own (M := [w.heap.size + 1]) (.one (setA _ _ _ _ _ _ _) (by simp)) (fun x hx => .inr (by rw [List.mem_singleton] at hx; omega)), fun q hq => .inl hq⟩
theorem Do_8 (h : Gw w K g cf σ) (t i f j : Nat) (c n : Int) (ht : t < σ.N) (live : σ.lv t = true) (hm0 : 0 < (σ.hd t).length) {x1 x2 : Int} (hv : (σ.hd t).getD ((σ.hd t).length - 1) (0, 0) = (x1, x2)) : Calls Tryd.prog 26 #[.pointer (some ⟨g, 0, none⟩), .agg #[.int .i64 8, .int .i64 (t : Int), .int .i64 (i : Int), .int .i64 (f : Int), .int .i64 (j : Int), .int .i64 c, .int .i64 n]] w fun e w' => e = Aw x1 x2 ∧ Gans w K g cf { σ with hd := upd σ.hd t ((σ.hd t).take ((σ.hd t).length - 1)) } w' := by
  obtain ⟨R, A, nc, vs, bs, h⟩ := h
  have G0 := Lib.hid ((grown_alloc w (.cells #[.int .i64 8, .int .i64 (t : Int), .int .i64 (i : Int), .int .i64 (f : Int), .int .i64 (j : Int), .int .i64 c, .int .i64 n] 39)).trans (grown_alloc _ (.cells #[.int .i64 0, .int .i64 0, .int .i64 0, .int .i64 0, .int .i64 0] 36)))
  have x10 := h.c10
  have x11 := h.c11
  obtain ⟨B, m, kk, hm, hm16, t1, hr, hB⟩ := h.hv ht
  have f1 := h.freeR (t * 2 + 1)
  have hN := h.ok.n
  have i1 : (0 : Int) ≤ (t : Int) := by omega
  have i2 : (t : Int) < (σ.N : Int) := by omega
  have rl := h.lt R h.kR
  have gl := h.lt g h.kg
  have n2 : ¬ (w.heap.size = R) := by omega
  have n4 : ¬ (w.heap.size + 1 = R) := by omega
  have H := Lib.hid h
  have HR := Lib.hid hr
  have HB := Lib.hid hB
  have OK := Lib.hid h.ok
  have LV := Lib.hid live
  obtain ⟨p, hp⟩ : ∃ p, m = p + 1 := ⟨m - 1, by omega⟩
  subst hp
  obtain ⟨bb, oo, rfl, d0, d1⟩ := HR.out.at_ (i := p) (by omega)
  rw [show p = (σ.hd t).length - 1 by omega, hv, ← show p = (σ.hd t).length - 1 by omega] at d0 d1
  dsimp only at d0 d1
  have bl : bb < w.heap.size := World.block_lt_of_cell? w _ d0
  have e1 : ((p + 1 : Nat) : Int) - 1 = (p : Int) := by omega
  have i3 : (0 : Int) ≤ (p : Int) := by omega
  have i4 : (p : Int) < ((p + 1 : Nat) : Int) := by omega
  have kc := HR.out.2.1
  have i5 : (p : Int) ≤ (kk : Int) := by omega
  have HM := Lib.hid hm
  have EV := Lib.hid (show vs t = .slice (some ⟨bb, oo, none⟩) (p + 1) kk by have := (H.out.t1 ht).symm.trans t1; injection this)
  clear hm
  clear h hr hB live
  go_enter Tryd.func26, Tryd.ntmps26
  go_wp2
  go_quiet (fail)
  go_wp2
  obtain ⟨w5, hw5⟩ : ∃ w5, w5 = (((w.alloc (.cells #[.int .i64 8, .int .i64 (t : Int), .int .i64 (i : Int), .int .i64 (f : Int), .int .i64 (j : Int), .int .i64 c, .int .i64 n] 39)).alloc (.cells #[.int .i64 0, .int .i64 0, .int .i64 0, .int .i64 0, .int .i64 0] 36)).drewN nq).alloc (.cells #[.int .i64 x1, .int .i64 x2] 57) := ⟨_, rfl⟩
  have G5 := Lib.hid (show w.grownBy w5 none by rw [hw5]; exact (G0.out.trans (li.grown_drewN _ _ _)).trans (grown_alloc _ _))
  have S5 : Sv w5 w.heap.size 8 t i f j c n := by rw [hw5]; exact (((Sv.new w 39 8 t i f j c n).made (grown_alloc _ _)).made (li.grown_drewN _ _ _)).made (grown_alloc _ _)
  have v0 : w5.cell? ⟨w.heap.size + 1 + 1, 0, none⟩ = some (.int .i64 x1) := by rw [hw5]; simp [go_sem]
  have v1 : w5.cell? ⟨w.heap.size + 1 + 1, 1, none⟩ = some (.int .i64 x2) := by rw [hw5]; simp [go_sem]
  have AZ5 := Lib.hid (show ∀ q, q < 5 → w5.cell? ⟨w.heap.size + 1, q, none⟩ = some (.int .i64 0) ∧ w5.frozen? ⟨w.heap.size + 1, q, none⟩ = false by
    intro q hq
    rw [hw5]
    have hq' : q = 0 ∨ q = 1 ∨ q = 2 ∨ q = 3 ∨ q = 4 := by omega
    rcases hq' with rfl | rfl | rfl | rfl | rfl <;> simp [go_sem])
  have h5 := H.out.new G5.out
  have H5 := Lib.hid h5
  clear x10 x11 t1 f1 d0 d1
  have x10 := h5.c10
  obtain ⟨_, _, _, hm5, _, t1, _, _⟩ := h5.hv ht
  have t1 := h5.t1 ht
  have f1 := h5.freeR (t * 2 + 1)
  rw [← hw5]
  clear h5 hw5
  obtain ⟨s0, s1, s2, s3, s4, s5, s6⟩ := S5
  obtain ⟨a0, g0⟩ := AZ5.out 0 (by omega)
  obtain ⟨a1, g1⟩ := AZ5.out 1 (by omega)
  obtain ⟨a2, g2⟩ := AZ5.out 2 (by omega)
  obtain ⟨a3, g3⟩ := AZ5.out 3 (by omega)
  obtain ⟨a4, g4⟩ := AZ5.out 4 (by omega)
  go_region
  go_wp2
  refine bodyPost_ret (v := .agg #[.int .i64 0, .int .i64 x1, .int .i64 x2, .int .i64 0, .int .i64 0]) (by simp [results, Tryd.results26, go_sem, a0, a1, a2, a3, a4]) rfl ⟨rfl, ?_⟩
  have RV : Rv w5 w5.heap.size (some ⟨bb, oo, none⟩) (p + 1) kk (σ.hd t) := rv_gr HR.out (L := []) (.new G5.out) G5.out.size (fun _ _ => by simp)
  have QK := H5.out.held t ht
  rw [EV.out] at QK
  obtain ⟨B', m', k', eB, -, -, q4⟩ := QK
  injection eB with eB _ _
  subst eB
  have S := H5.out.hset ht (K' := K) (B := some ⟨bb, oo, none⟩) (n := p) (k := kk) (RV.less (k := p) (c' := kk) (by omega) (by omega) RV.2.2.1) (fun e => by cases e) q4 (fun q hq => hq) H5.out.lt (by rw [List.length_take]; omega)
    (fun v hm => OK.out.hr t v (List.mem_of_mem_take hm)) LV.out
  rw [show p = (σ.hd t).length - 1 by have := HM.out; omega] at S ⊢
  have g1 : gr.Gr K w w5 := .new G5.out
  have g2 := g1.trans (.one (gr.grown_set w5 R (t * 2 + 1) (.slice (some ⟨bb, oo, none⟩) ((σ.hd t).length - 1) kk)) H.out.kR)
  exact ⟨K, ⟨R, _, nc, _, bs, S.gr (L := [w.heap.size + 1]) (.one ((setA _ _ _ _ _ _ _).trans (gr.grown_drew _ _)) (by simp)) (fun k hk hm => by rw [List.mem_singleton] at hm; have := H.out.lt k hk; omega)⟩,
    g2.own (M := [w.heap.size + 1]) (.one ((setA _ _ _ _ _ _ _).trans (gr.grown_drew _ _)) (by simp)) (fun x hx => .inr (by rw [List.mem_singleton] at hx; omega)), fun q hq => .inl hq⟩
end
end Go.Proofs.YtfhebjkoojodiaaDoor.gp
