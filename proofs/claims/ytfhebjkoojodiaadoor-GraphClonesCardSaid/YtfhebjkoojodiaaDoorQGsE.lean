/- Texts that this claim stands on. -/
import Derived.Test.YtfhebjkoojodiaaDoorQGsD
import Derived.Test.YtfhebjkoojodiaaDoorQGqZ
namespace Go.Proofs.YtfhebjkoojodiaaDoor.gq
open Go.ChangeShapes Go.WideShapes Go.ChangeAt Go.RowKit gen va cd gp
set_option linter.unusedVariables false
set_option linter.unusedSimpArgs false
set_option maxHeartbeats 2000000
set_option maxRecDepth 100000
section
variable {w : World} {k t i f j c n no : Int}
def Nob (w : World) (g : Option Addr) : Prop := ∀ W, w.grownBy W none → Calls Tryd.prog 28 #[.pointer g] W fun e w' => e = .returned (.bool false) ∧ W = w'
theorem nob_nil (w : World) : Nob w none := fun W _ => made_nil W
theorem nob_odd {g cc : Nat} (h : w.cell? ⟨g, 2, none⟩ = some (.slice none 0 cc)) : Nob w (some ⟨g, 0, none⟩) := fun W hg => made_odd (hg.cell h (by simp))
theorem Nob.new {w' : World} {g : Option Addr} (h : Nob w g) (hg : w.grownBy w' none) : Nob w' g := fun W hW => h W (hg.trans hW)
theorem Made_nb {g : Option Addr} (h : Nob w g) : Calls Tryd.prog 17 #[.pointer g] w fun e w' => e = .returned (.int .i64 0) ∧ w = w' := Made_no g (h w (World.grownBy.refl _ _))
theorem Clone_nb {g : Option Addr} (h : Nob w g) : Calls Tryd.prog 18 #[.pointer g] w fun e w' => e = .returned (.pointer none) ∧ w = w' := Clone_no g (h w (World.grownBy.refl _ _))
theorem do_no {g : Option Addr} (MX : Nob w g) : Calls Tryd.prog 24 #[.pointer g, .agg #[.int .i64 k, .int .i64 t, .int .i64 i, .int .i64 f, .int .i64 j, .int .i64 c, .int .i64 n], .int .i64 no] w
    fun e w' => e = .returned (.tuple #[.agg #[.int .i64 0, .int .i64 0], .int .i64 9]) ∧ w.grownBy w' none := by
  obtain ⟨w0, hw0⟩ : ∃ w0, w0 = (w.alloc (.cells #[.int .i64 k, .int .i64 t, .int .i64 i, .int .i64 f, .int .i64 j, .int .i64 c, .int .i64 n] 39)).alloc (.cells #[.int .i64 0, .int .i64 0] 57) := ⟨_, rfl⟩
  have B0 := Lib.hid (show Bx w k t i f j c n w0 by rw [hw0]; exact Bx.start _ _ _ _ _ _ _ _)
  have HW := Lib.hid hw0
  clear hw0
  have MA := Lib.hid (MX w0 B0.out.grow)
  obtain ⟨⟨a0, a1, f0, f1⟩, s0, s1, s2, s3, s4, s5, s6⟩ := B0.out.at_
  clear MX
  go_enter Tryd.func24, Tryd.ntmps24
  go_wp2_with (first
    | (rw [← HW.out]; go_at_call 28; (with_reducible refine MA.out.mono ?_); rintro e w1 ⟨rfl, hw⟩; subst hw))
  refine bodyPost_ret (v := .tuple #[.agg #[.int .i64 0, .int .i64 0], .int .i64 9]) (by simp [results, Tryd.results24, go_sem, a0, a1]) rfl ⟨rfl, B0.out.fin _ _⟩
theorem Do_no {g : Option Addr} (MX : Nob w g) : Calls Tryd.prog 11 #[.pointer g, .agg #[.int .i64 k, .int .i64 t, .int .i64 i, .int .i64 f, .int .i64 j, .int .i64 c, .int .i64 n], .int .i64 no] w
    fun e w' => e = .returned (.agg #[.int .i64 9, .int .i64 0, .int .i64 0, .int .i64 0, .int .i64 0]) ∧ w.grownBy w' none := by
  obtain ⟨w0, hw0⟩ : ∃ w0, w0 = (w.alloc (.cells #[.int .i64 k, .int .i64 t, .int .i64 i, .int .i64 f, .int .i64 j, .int .i64 c, .int .i64 n] 39)).alloc (.cells #[.int .i64 0, .int .i64 0, .int .i64 0, .int .i64 0, .int .i64 0] 36) := ⟨_, rfl⟩
  have G0 := Lib.hid (show w.grownBy w0 none by rw [hw0]; exact (grown_alloc _ _).trans (grown_alloc _ _))
  have z0 : w0.heap.size = w.heap.size + 2 := by rw [hw0]; simp
  have ZZ := Lib.hid (show Z5 w0 (w.heap.size + 1) by rw [hw0]; have := zero5 (w.alloc (.cells #[.int .i64 k, .int .i64 t, .int .i64 i, .int .i64 f, .int .i64 j, .int .i64 c, .int .i64 n] 39)) 36; simpa [Z5] using this)
  have FX := Lib.hid (do_no (k := k) (t := t) (i := i) (f := f) (j := j) (c := c) (n := n) (no := no) (MX.new G0.out))
  have HW := Lib.hid hw0
  clear hw0 MX
  go_enter Tryd.func11, Tryd.ntmps11
  go_wp2_with (first
    | (rw [← HW.out]; go_at_call 24; (with_reducible refine FX.out.mono ?_); rintro e w1 ⟨rfl, hP⟩; have G1 := Lib.hid (hP.trans (grown_alloc w1 (.cells #[.int .i64 0, .int .i64 0] 57))); obtain ⟨⟨a0, a1, a2, a3, a4⟩, f0, f1, f2, f3, f4⟩ := (Z5.gr (L := []) ZZ.out (.new G1.out) (by omega) (by simp)).at_; clear hP))
  refine bodyPost_ret (v := .agg #[.int .i64 9, .int .i64 0, .int .i64 0, .int .i64 0, .int .i64 0]) (by simp [results, Tryd.results11, go_sem, a0, a1, a2, a3, a4]) rfl ⟨rfl, li.grown_new (G0.out.trans G1.out) (gp.setA _ _ _ _ _ _ _) (by omega)⟩
theorem View_no {g : Option Addr} (MX : Nob w g) : Calls Tryd.prog 15 #[.pointer g] w
    fun e w' => e = .returned (.agg #[.slice none 0 0, .slice none 0 0]) ∧ w.grownBy w' none := by
  have G0 := Lib.hid (grown_alloc w (.cells #[.slice none 0 0, .slice none 0 0] 45))
  have ZV := Lib.hid (zeroV w)
  obtain ⟨a0, a1⟩ := ZV.out
  have FV : ∀ j, (w.alloc (.cells #[.slice none 0 0, .slice none 0 0] 45)).frozen? ⟨w.heap.size, j, none⟩ = false := fun j => by simp [go_sem]
  have f0 := FV 0
  have f1 := FV 1
  have MA := Lib.hid (MX _ G0.out)
  clear MX FV
  go_enter Tryd.func15, Tryd.ntmps15
  go_wp2_with (first
    | (go_at_call 28; (with_reducible refine MA.out.mono ?_); rintro e w1 ⟨rfl, hw⟩; subst hw))
  refine bodyPost_ret (v := .agg #[.slice none 0 0, .slice none 0 0]) (by simp [results, Tryd.results15, go_sem, a0, a1]) rfl ⟨rfl, ?_⟩
  first | exact G0.out | exact li.grown_new G0.out (gr.grown_set _ _ _ _) (Nat.le_refl _) | exact li.grown_new G0.out ((gr.grown_set _ _ _ _).trans (gr.grown_set _ _ _ _)) (Nat.le_refl _)
theorem Live_no {g : Option Addr} (MX : Nob w g) : Calls Tryd.prog 19 #[.pointer g] w
    fun e w' => e = .returned (.slice none 0 0) ∧ w = w' := by
  have MA := Lib.hid (MX _ (World.grownBy.refl _ _))
  clear MX
  go_enter Tryd.func19, Tryd.ntmps19
  go_wp2_with (first
    | (go_at_call 28; (with_reducible refine MA.out.mono ?_); rintro e w1 ⟨rfl, hw⟩; subst hw))
  go_ret
  exact ⟨rfl, rfl⟩
end
def Wk (w : World) (B : Nat) (A : Option Addr) (n : Nat) : Prop := ∀ i, i < n → ∃ b C k c, A = some ⟨b, 0, none⟩ ∧ w.cell? ⟨b, i * 2 + 1, none⟩ = some (.slice C k c) ∧ k ≤ c ∧ c ≤ maxLen ∧ (∃ cs : Array Value, w.heap[b]? = some (.cells cs 55 (0, 0))) ∧
  (0 < k → ∃ q, ∃ cu : Array Value, C = some ⟨q, 0, none⟩ ∧ B ≤ q ∧ w.heap[q]? = some (.cells cu 57 (0, 0)) ∧ k * 2 ≤ cu.size)
theorem Nl.wk {w : World} {B : Nat} {A : Option Addr} {n c : Nat} {ns : List (Int × List Va)} (h : Nl w B (.slice A n c) ns) (hn : n = ns.length) : Wk w B A n := fun i hi => by
  subst hn
  obtain ⟨xs, ho, hx⟩ := h
  obtain ⟨h0, x, h1, C, c', rfl, h3⟩ := hx i hi
  rcases ho.2 with ⟨e, hz⟩ | ⟨g, cap, cur, e, hb, hg, q1, q2, q3, q4⟩
  · omega
  · injection e with e1 e2 e3
    subst e1 e3
    have hl : i * 2 + 1 < xs.length := (List.getElem?_eq_some_iff.1 h1).1
    rw [ho.1] at hl
    obtain ⟨A', N', k', e1, e2, e3, e4⟩ := h3.shape
    injection e1 with e5 e6 e7
    subst e7
    refine ⟨g, C, (ns.getD i (0, [])).2.length, c', rfl, ?_, by omega, e4, ⟨_, hg⟩, fun h0 => ?_⟩
    · rw [cell_of_row w g _ _ _ _ hg, ← Array.getElem?_toList, ← h1, ← q4, List.getElem?_take, if_pos hl]
    · rcases h3.2 with ⟨e, hz⟩ | ⟨q, cap', cur', e, hb', hg', p1, p2, p3, p4⟩
      · omega
      · injection e with e1 _ _
        refine ⟨q, cur', e1, hb', hg', ?_⟩
        have := congrArg List.length p4
        rw [List.length_take, vc_length, Array.length_toList] at this
        omega
theorem Wk.new {w w' : World} {B : Nat} {A : Option Addr} {n : Nat} (h : Wk w B A n) (hg : w.grownBy w' none) : Wk w' B A n := fun i hi => by
  obtain ⟨b, C, k, c, e, h1, h2, h3, ⟨cs, h4⟩, h5⟩ := h i hi
  refine ⟨b, C, k, c, e, hg.cell h1 (by simp), h2, h3, ⟨cs, gr.Gr.heap (L := []) (.new hg) h4 (by simp)⟩, fun h0 => ?_⟩
  obtain ⟨q, cu, e1, e2, e3, e4⟩ := h5 h0
  exact ⟨q, cu, e1, e2, gr.Gr.heap (L := []) (.new hg) e3 (by simp), e4⟩
theorem Wk.set {w : World} {B : Nat} {A : Option Addr} {n : Nat} (h : Wk w B A n) {q o : Nat} {cu : Array Value} (hq : w.heap[q]? = some (.cells cu 57 (0, 0))) (v : Value) : Wk (w.setCell ⟨q, o, none⟩ v) B A n ∧ (w.setCell ⟨q, o, none⟩ v).heap[q]? = some (.cells (cu.setIfInBounds o v) 57 (0, 0)) := by
  have e3 := heap_setCell_same w q o _ _ v hq
  have GS : w.grownBy (w.setCell ⟨q, o, none⟩ v) (some q) := gr.grown_set _ _ _ _
  refine ⟨fun i hi => ?_, e3⟩
  obtain ⟨b, C, k, c, e, h1, h2, h3, ⟨cs, h4⟩, h5⟩ := h i hi
  have nb : (some b : Option Nat) ≠ some q := fun e => by injection e with e; exact ty_ne' h4 hq (by decide) e
  refine ⟨b, C, k, c, e, GS.cell h1 nb, h2, h3, ⟨cs, (GS.block b (Array.getElem?_eq_some_iff.1 h4).1 nb).trans h4⟩, fun h0 => ?_⟩
  obtain ⟨p, cp, e1, e2, e4, e5⟩ := h5 h0
  by_cases ep : p = q
  · subst ep
    rw [hq] at e4
    injection e4 with e4
    injection e4 with e4
    subst e4
    exact ⟨p, _, e1, e2, e3, by simpa using e5⟩
  · exact ⟨p, cp, e1, e2, (GS.block p (Array.getElem?_eq_some_iff.1 e4).1 (fun e => by injection e with e; exact ep e)).trans e4, e5⟩
def T3 (w : World) (g h k : Nat) (σ τ ρ : Gs) (B : Nat) (W : World) : Prop := ∃ K1 K2 K3, Pw W K1 g σ ∧ Pw W K2 h τ ∧ Pw W K3 k ρ ∧ (∀ x, x ∈ K1 → w.heap.size ≤ x ∧ x < B) ∧ (∀ x, x ∈ K2 → w.heap.size ≤ x ∧ x < B) ∧ (∀ x, x ∈ K3 → w.heap.size ≤ x ∧ x < B) ∧ (∀ x, x ∈ K1 → x ∉ K2) ∧ (∀ x, x ∈ K1 → x ∉ K3) ∧ (∀ x, x ∈ K2 → x ∉ K3) ∧ w.grownBy W none
section
variable {w W W' : World} {g h k : Nat} {σ τ ρ : Gs} {B : Nat}
theorem T3.new (p : T3 w g h k σ τ ρ B W) (hg : W.grownBy W' none) : T3 w g h k σ τ ρ B W' := by
  obtain ⟨K1, K2, K3, p1, p2, p3, k1, k2, k3, d1, d2, d3, q⟩ := p
  exact ⟨K1, K2, K3, p1.new hg, p2.new hg, p3.new hg, k1, k2, k3, d1, d2, d3, q.trans hg⟩
theorem T3.grow (p : T3 w g h k σ τ ρ B W) : w.grownBy W none := by
  obtain ⟨K1, K2, K3, p1, p2, p3, k1, k2, k3, d1, d2, d3, q⟩ := p
  exact q
theorem T3.put (p : T3 w g h k σ τ ρ B W) (hB : w.heap.size ≤ B) {q : Nat} (hq : B ≤ q) (hg : gr.Gr [q] W W') : T3 w g h k σ τ ρ B W' := by
  obtain ⟨K1, K2, K3, p1, p2, p3, k1, k2, k3, d1, d2, d3, z⟩ := p
  have no : ∀ {K : List Nat}, (∀ x, x ∈ K → w.heap.size ≤ x ∧ x < B) → ∀ x, x ∈ K → x ∉ [q] := fun hk x hx hm => by
    rw [List.mem_singleton] at hm
    have := (hk x hx).2
    omega
  exact ⟨K1, K2, K3, p1.gr hg (no k1), p2.gr hg (no k2), p3.gr hg (no k3), k1, k2, k3, d1, d2, d3, hg.grown z (fun x hx => by rw [List.mem_singleton] at hx; omega)⟩
theorem T3.pr (p : T3 w g h k σ τ ρ B W) : Pr w k h ρ τ W := by
  obtain ⟨K1, K2, K3, p1, ⟨R2, tc2, A2, nc2, vs2, bs2, p2⟩, ⟨R3, tc3, A3, nc3, vs3, bs3, p3⟩, k1, k2, k3, d1, d2, d3, q⟩ := p
  exact ⟨K3, R3, tc3, A3, nc3, vs3, bs3, K2, R2, tc2, A2, nc2, vs2, bs2, p3, p2, fun x hx => (k3 x hx).1, fun x hx => (k2 x hx).1, fun x h1 h2 => d3 x h2 h1, q⟩
theorem Pr.clone (p : Pr w g h σ τ W) : Calls Tryd.prog 18 #[.pointer (some ⟨g, 0, none⟩)] W
    fun e w' => ∃ k, e = .returned (.pointer (some ⟨k, 0, none⟩)) ∧ T3 w g h k σ τ σ w'.heap.size w' := by
  obtain ⟨K, R, tc, A, nc, vs, bs, K2, R2, tc2, A2, nc2, vs2, bs2, p1, p2, k1, k2, d, q⟩ := p
  have qs := q.size
  refine (Clone_any p1).mono ?_
  rintro e w' ⟨k, K3, R3, tc3, A3, nc3, vs3, bs3, rfl, p3, k3, hg⟩
  have sg := hg.size
  refine ⟨k, rfl, K, K2, K3, ⟨_, _, _, _, _, _, p1.new hg⟩, ⟨_, _, _, _, _, _, p2.new hg⟩, ⟨_, _, _, _, _, _, p3⟩, fun x hx => ⟨k1 x hx, ?_⟩, fun x hx => ⟨k2 x hx, ?_⟩, fun x hx => ⟨?_, p3.lt x hx⟩, d, fun x h1 h3 => ?_, fun x h2 h3 => ?_, q.trans hg⟩
  · have := p1.lt x hx; omega
  · have := p2.lt x hx; omega
  · have := k3 x hx; omega
  · have := p1.lt x h1; have := k3 x h3; omega
  · have := p2.lt x h2; have := k3 x h3; omega
theorem T3.view (p : T3 w g h k σ τ ρ B W) : Calls Tryd.prog 15 #[.pointer (some ⟨g, 0, none⟩)] W
    fun e w' => ∃ A1 n1 c1 A2 n2 c2, e = .returned (.agg #[.slice A1 n1 c1, .slice A2 n2 c2]) ∧ Wk w' W.heap.size A2 n2 ∧ n2 ≤ σ.M ∧ W.grownBy w' none := by
  obtain ⟨K1, K2, K3, ⟨R, tc, A, nc, vs, bs, p1⟩, _⟩ := p
  refine (View_any p1).mono ?_
  rintro e w' ⟨A1, c1, A2, c2, rfl, h1, h2, hg⟩
  exact ⟨A1, _, c1, A2, _, c2, rfl, h2.wk rfl, vns_len σ, hg⟩
theorem T3.do_ (p : T3 w g h k σ τ ρ B W) (hM : σ.M < 1000) (kk t i f j c n no : Int) : Calls Tryd.prog 11 #[.pointer (some ⟨g, 0, none⟩), .agg #[.int .i64 kk, .int .i64 t, .int .i64 i, .int .i64 f, .int .i64 j, .int .i64 c, .int .i64 n], .int .i64 no] W
    fun e w' => ∃ v, e = .returned v ∧ T3 w g h k (stg σ kk t i f j c n no) τ ρ w'.heap.size w' ∧ ∃ L, gr.Gr L W w' ∧ ∀ q, q ∈ L → w.heap.size ≤ q := by
  obtain ⟨K1, K2, K3, ⟨R, tc, A, nc, vs, bs, p1⟩, p2, p3, k1, k2, k3, d1, d2, d3, q⟩ := p
  have qs := q.size
  refine (Do_any p1 kk t i f j c n no hM).mono ?_
  rintro e w' ⟨rfl, K', A', nc', vs', bs', p', g', k'⟩
  have gs := g'.size
  refine ⟨_, rfl, ⟨K', K2, K3, ⟨_, _, _, _, _, _, p'⟩, p2.gr g' (fun x h2 h1 => d1 x h1 h2), p3.gr g' (fun x h3 h1 => d2 x h1 h3), fun x hx => ⟨?_, p'.lt x hx⟩, fun x hx => ⟨(k2 x hx).1, by have := p2.lt x hx; omega⟩, fun x hx => ⟨(k3 x hx).1, by have := p3.lt x hx; omega⟩, fun x hx h2 => ?_, fun x hx h3 => ?_, d3, g'.grown q (fun x hx => (k1 x hx).1)⟩, K1, g', fun x hx => (k1 x hx).1⟩
  · rcases k' x hx with e | e
    · exact (k1 x e).1
    · omega
  · rcases k' x hx with e | e
    · exact d1 x e h2
    · have := p2.lt x h2; omega
  · rcases k' x hx with e | e
    · exact d2 x e h3
    · have := p3.lt x h3; omega
end
structure VS (w : World) (g h k : Nat) (σ τ ρ : Gs) (B V : Nat) (A : Option Addr) (n c : Nat) (W : World) : Prop where
  vb : ∃ cs : Array Value, W.heap[V]? = some (.cells cs 45 (0, 0)) ∧ cs[1]? = some (.slice A n c)
  wk : Wk W B A n
  t3 : T3 w g h k σ τ ρ B W
  lo : w.heap.size ≤ B
theorem VS.c1 {w W : World} {g h k : Nat} {σ τ ρ : Gs} {B V : Nat} {A : Option Addr} {n c : Nat} (p : VS w g h k σ τ ρ B V A n c W) : W.cell? ⟨V, 1, none⟩ = some (.slice A n c) := by
  obtain ⟨cs, h1, h2⟩ := p.vb
  rw [cell_of_row W V _ _ _ _ h1]
  exact h2
theorem VS.put {w W : World} {g h k : Nat} {σ τ ρ : Gs} {B V : Nat} {A : Option Addr} {n c : Nat} (p : VS w g h k σ τ ρ B V A n c W) {q o o2 : Nat} {cu : Array Value} (hq : W.heap[q]? = some (.cells cu 57 (0, 0))) (hB : B ≤ q) (v v2 : Value) :
    VS w g h k σ τ ρ B V A n c ((W.setCell ⟨q, o, none⟩ v).setCell ⟨q, o2, none⟩ v2) ∧ ∀ b z u, (∃ cs : Array Value, W.heap[b]? = some (.cells cs 55 (0, 0))) → W.cell? ⟨b, z, none⟩ = some u → ((W.setCell ⟨q, o, none⟩ v).setCell ⟨q, o2, none⟩ v2).cell? ⟨b, z, none⟩ = some u := by
  obtain ⟨w1, h1⟩ := p.wk.set (o := o) hq v
  obtain ⟨w2, h2⟩ := w1.set (o := o2) h1 v2
  obtain ⟨cs, c1, c2⟩ := p.vb
  have GS : W.grownBy ((W.setCell ⟨q, o, none⟩ v).setCell ⟨q, o2, none⟩ v2) (some q) := (gr.grown_set _ _ _ _).trans (gr.grown_set _ _ _ _)
  refine ⟨⟨⟨cs, (GS.block V (Array.getElem?_eq_some_iff.1 c1).1 (fun e => by injection e with e; exact ty_ne' c1 hq (by decide) e)).trans c1, c2⟩, w2, p.t3.put p.lo hB (.one GS (by simp)), p.lo⟩, fun b z u ⟨cs', hb⟩ hz => GS.cell hz (fun e => by injection e with e; exact ty_ne' hb hq (by decide) e)⟩
theorem VS.start {w W6 W7 : World} {g h k : Nat} {σ τ ρ : Gs} {A : Option Addr} {n c : Nat} (t6 : T3 w g h k σ τ ρ W6.heap.size W6) (hk : Wk W7 W6.heap.size A n) (g7 : W6.grownBy W7 none) (v0 : Value) :
    VS w g h k σ τ ρ W6.heap.size W7.heap.size A n c (W7.alloc (.cells #[v0, .slice A n c] 45)) :=
  ⟨⟨_, heap_alloc_new _ _, rfl⟩, hk.new (grown_alloc _ _), t6.new (g7.trans (grown_alloc _ _)), t6.grow.size⟩
theorem VS.ent {w W : World} {g h k : Nat} {σ τ ρ : Gs} {B V b n c : Nat} (p : VS w g h k σ τ ρ B V (some ⟨b, 0, none⟩) n c W) {i f kk cc : Nat} {C : Option Addr} (hi : i < n) (hc : W.cell? ⟨b, i * 2 + 1, none⟩ = some (.slice C kk cc)) (hf : f < kk) :
    ∃ q, ∃ cu : Array Value, C = some ⟨q, 0, none⟩ ∧ B ≤ q ∧ W.heap[q]? = some (.cells cu 57 (0, 0)) ∧ (∃ u0 u1, W.cell? ⟨q, f * 2, none⟩ = some u0 ∧ W.cell? ⟨q, f * 2 + 1, none⟩ = some u1) ∧ (∃ cs : Array Value, W.heap[b]? = some (.cells cs 55 (0, 0))) ∧ (∀ j, W.frozen? ⟨q, j, none⟩ = false) ∧ kk ≤ cc ∧ cc ≤ maxLen := by
  obtain ⟨b', C', k', c', e, h1, h2, h3, h4, h5⟩ := p.wk i hi
  injection e with e
  injection e with e
  subst e
  rw [hc] at h1
  injection h1 with h1
  injection h1 with e1 e2 e3
  subst e1 e2 e3
  obtain ⟨q, cu, e1, e2, e3, e4⟩ := h5 (by omega)
  exact ⟨q, cu, e1, e2, e3, ⟨cu[f * 2]'(by omega), cu[f * 2 + 1]'(by omega), by rw [cell_of_row W q _ _ _ _ e3]; exact Array.getElem?_eq_getElem _, by rw [cell_of_row W q _ _ _ _ e3]; exact Array.getElem?_eq_getElem _⟩, h4, fun j => frozen_of_row W q j _ _ e3, h2, h3⟩
end Go.Proofs.YtfhebjkoojodiaaDoor.gq
