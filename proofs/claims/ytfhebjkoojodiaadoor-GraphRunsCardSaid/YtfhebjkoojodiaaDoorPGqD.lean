/- Texts that this claim stands on. -/
import Derived.Test.YtfhebjkoojodiaaDoorPGqC
namespace Go.Proofs.YtfhebjkoojodiaaDoor.gq
open Go.ChangeShapes Go.WideShapes Go.ChangeAt Go.RowKit gen va cd gp
set_option linter.unusedVariables false
set_option maxHeartbeats 1000000
set_option maxRecDepth 100000
structure PwI (w : World) (K : List Nat) (g : Nat) (σ : Gs) (R tc : Nat) (A : Option Addr) (nc : Nat) (vs : Nat → Value) (bs : Nat → Nat) : Prop where
  box : ∃ cs : Array Value, w.heap[g]? = some (.cells cs 60 (0, 0)) ∧ cs[0]? = some (.int .i64 σ.q) ∧ cs[1]? = some (.slice (some ⟨R, 0, none⟩) σ.N tc) ∧ cs[2]? = some (.slice A σ.M nc)
  row : ∃ cs : Array Value, w.heap[R]? = some (.cells cs 84 (0, 0)) ∧ ∀ t, t < σ.N → Tc cs (t * 34) (σ.hd t) (σ.lv t)
  tcN : σ.N ≤ tc ∧ tc ≤ maxLen
  own : w.ownsRow 0 53 1 (.slice A σ.M nc) σ.M ((List.range σ.M).map vs)
  ent : ∀ i, i < σ.M → ∃ B c, vs i = .slice B (σ.nd i).length c ∧ (σ.nd i).length ≤ c ∧ c ≤ maxLen ∧ ∃ b, B = some ⟨b, 0, none⟩ ∧ (0 < (σ.nd i).length → b = bs i)
  node : ∀ i, i < σ.M → 0 < (σ.nd i).length → bs i ∈ K ∧ ∃ cs : Array Value, w.heap[bs i]? = some (.cells cs 57 (0, 0)) ∧ ∀ f, f < (σ.nd i).length → cs[f * 2]? = some (.int .i64 ((σ.nd i).getD f (0, 0)).1) ∧ cs[f * 2 + 1]? = some (.int .i64 ((σ.nd i).getD f (0, 0)).2)
  apart : ∀ i j, i < σ.M → j < σ.M → 0 < (σ.nd i).length → 0 < (σ.nd j).length → bs i = bs j → i = j
  kg : g ∈ K
  kR : R ∈ K
  kA : ∀ q, (Value.slice A σ.M nc).ownBlock = some q → q ∈ K
  lt : ∀ k, k ∈ K → k < w.heap.size
  ok : σ.Ok
section
variable {w w' : World} {K L : List Nat} {g : Nat} {σ : Gs} {R tc : Nat} {A : Option Addr} {nc : Nat} {vs : Nat → Value} {bs : Nat → Nat}
theorem PwI.gr (h : PwI w K g σ R tc A nc vs bs) (hg : gr.Gr L w w') (hL : ∀ k, k ∈ K → k ∉ L) : PwI w' K g σ R tc A nc vs bs := by
  obtain ⟨cs, b1, b2⟩ := h.box
  obtain ⟨cr, r1, r2⟩ := h.row
  refine ⟨⟨cs, hg.heap b1 (hL g h.kg), b2⟩, ⟨cr, hg.heap r1 (hL R h.kR), r2⟩, h.tcN, gr.own_gr h.own hg (fun q hq => hL q (h.kA q hq)), h.ent, fun i hi h0 => ?_, h.apart, h.kg, h.kR, h.kA, fun k hk => Nat.lt_of_lt_of_le (h.lt k hk) hg.size, h.ok⟩
  obtain ⟨n1, cn, n2, n3⟩ := h.node i hi h0
  exact ⟨n1, cn, hg.heap n2 (hL _ n1), n3⟩
theorem PwI.new (h : PwI w K g σ R tc A nc vs bs) (hg : w.grownBy w' none) : PwI w' K g σ R tc A nc vs bs := h.gr (L := []) (.new hg) (fun _ _ => by simp)
theorem PwI.c0 (h : PwI w K g σ R tc A nc vs bs) : w.cell? ⟨g, 0, none⟩ = some (.int .i64 σ.q) := by
  obtain ⟨cs, b1, b2, b3, b4⟩ := h.box
  rw [cell_of_row w g _ _ _ _ b1]
  exact b2
theorem PwI.c1 (h : PwI w K g σ R tc A nc vs bs) : w.cell? ⟨g, 1, none⟩ = some (.slice (some ⟨R, 0, none⟩) σ.N tc) := by
  obtain ⟨cs, b1, b2, b3, b4⟩ := h.box
  rw [cell_of_row w g _ _ _ _ b1]
  exact b3
theorem PwI.c2 (h : PwI w K g σ R tc A nc vs bs) : w.cell? ⟨g, 2, none⟩ = some (.slice A σ.M nc) := by
  obtain ⟨cs, b1, b2, b3, b4⟩ := h.box
  rw [cell_of_row w g _ _ _ _ b1]
  exact b4
theorem PwI.tw (h : PwI w K g σ R tc A nc vs bs) {t : Nat} (ht : t < σ.N) : Tw w R (t * 34) (σ.hd t) (σ.lv t) := by
  obtain ⟨cr, r1, r2⟩ := h.row
  exact ⟨cr, r1, r2 t ht⟩
theorem PwI.nv (h : PwI w K g σ R tc A nc vs bs) {i : Nat} (hi : i < σ.M) : ∃ a b c, A = some ⟨a, 0, none⟩ ∧ w.cell? ⟨a, i, none⟩ = some (.slice (some ⟨b, 0, none⟩) (σ.nd i).length c) ∧ (σ.nd i).length ≤ c ∧ c ≤ maxLen ∧ (0 < (σ.nd i).length → b = bs i) := by
  obtain ⟨B, c, e1, e2, e3, b, rfl, e4⟩ := h.ent i hi
  rcases li.own_or h.own with ⟨_, h0, _⟩ | ⟨a, rfl, _⟩
  · omega
  · refine ⟨a, b, c, rfl, ?_, e2, e3, e4⟩
    rw [h.own.cellAt i (by omega)]
    simp [hi, e1]
theorem PwI.rv (h : PwI w K g σ R tc A nc vs bs) {i : Nat} (hi : i < σ.M) {b c : Nat} (hc : (σ.nd i).length ≤ c) (hc2 : c ≤ maxLen) (hb : 0 < (σ.nd i).length → b = bs i) : Rv w w.heap.size (some ⟨b, 0, none⟩) (σ.nd i).length c (σ.nd i) := by
  refine ⟨rfl, hc, hc2, fun f hf => ?_⟩
  obtain ⟨n1, cn, n2, n3⟩ := h.node i hi (by omega)
  obtain rfl := hb (by omega)
  obtain ⟨q1, q2⟩ := n3 f hf
  refine ⟨bs i, 0, rfl, h.lt _ n1, ?_, ?_⟩
  · rw [Nat.zero_add, cell_of_row w _ _ _ _ _ n2]
    exact q1
  · rw [Nat.zero_add, cell_of_row w _ _ _ _ _ n2]
    exact q2
theorem PwI.fv (h : PwI w K g σ R tc A nc vs bs) {i f : Nat} (hi : i < σ.M) (hf : f < (σ.nd i).length) : w.cell? ⟨bs i, f * 2, none⟩ = some (.int .i64 ((σ.nd i).getD f (0, 0)).1) ∧ w.cell? ⟨bs i, f * 2 + 1, none⟩ = some (.int .i64 ((σ.nd i).getD f (0, 0)).2) := by
  obtain ⟨n1, cn, n2, n3⟩ := h.node i hi (by omega)
  obtain ⟨q1, q2⟩ := n3 f hf
  exact ⟨(cell_of_row w _ _ _ _ _ n2).trans q1, (cell_of_row w _ _ _ _ _ n2).trans q2⟩
theorem PwI.freeN (h : PwI w K g σ R tc A nc vs bs) {i f : Nat} (hi : i < σ.M) (hf : f < (σ.nd i).length) (j : Nat) : w.frozen? ⟨bs i, j, none⟩ = false := by
  obtain ⟨n1, cn, n2, n3⟩ := h.node i hi (by omega)
  exact frozen_of_row w _ j _ _ n2
theorem PwI.tset (h : PwI w K g σ R tc A nc vs bs) {t : Nat} (ht : t < σ.N) {m : List Va} {b : Bool} (hs : Tset w R (t * 34) m b w') (hm : m.length ≤ 16) (hv : ∀ v, v ∈ m → v.1 = 2 → 0 ≤ v.2 ∧ v.2 < σ.M) (hl : b = false → m = []) :
    PwI w' K g { σ with lv := upd σ.lv t b, hd := upd σ.hd t m } R tc A nc vs bs := by
  obtain ⟨cs, b1, b2⟩ := h.box
  obtain ⟨cr, r1, r2⟩ := h.row
  obtain ⟨hg, hs2⟩ := hs
  obtain ⟨cr', r1', r2', r3'⟩ := hs2 cr r1
  have no : ∀ {q : Nat} {cs : Array Value} {e : TypeId} {f : Nat × Nat}, w.heap[q]? = some (.cells cs e f) → e ≠ 84 → q ∉ [R] := fun hq he hm => by
    rw [List.mem_singleton] at hm
    exact ty_ne' hq r1 he hm
  refine ⟨⟨cs, hg.heap b1 (no b1 (by decide)), b2⟩, ⟨cr', r1', fun s hs => ?_⟩, h.tcN, gr.own_gr h.own hg (fun q hq => by obtain ⟨c1, c2⟩ := own_ty h.own q hq; exact no c2 (by decide)), h.ent, fun i hi h0 => ?_, h.apart, h.kg, h.kR, h.kA, fun k hk => Nat.lt_of_lt_of_le (h.lt k hk) hg.size, ?_⟩
  · show Tc cr' (s * 34) (upd σ.hd t m s) (upd σ.lv t b s)
    by_cases e : s = t
    · subst e
      rw [upd_same, upd_same]
      exact r2'
    · rw [upd_else _ _ e, upd_else _ _ e]
      have hd : ∀ x, x < 34 → (s * 34 + x < t * 34 ∨ t * 34 + 34 ≤ s * 34 + x) := fun x hx => by omega
      obtain ⟨t1, t2, t3⟩ := r2 s hs
      refine ⟨(r3' _ (hd 0 (by omega))).trans t1, (r3' _ (hd 33 (by omega))).trans t2, fun j hj => ?_⟩
      obtain ⟨x, y, q1, q2, q3⟩ := t3 j hj
      refine ⟨x, y, (r3' _ ?_).trans q1, (r3' _ ?_).trans q2, q3⟩
      · have := hd (1 + j * 2) (by omega); omega
      · have := hd (1 + j * 2 + 1) (by omega); omega
  · obtain ⟨n1, cn, n2, n3⟩ := h.node i hi h0
    exact ⟨n1, cn, hg.heap n2 (no n2 (by decide)), n3⟩
  · have o := h.ok
    refine ⟨o.n, o.n0, o.q1, o.q2, o.m0, o.m, fun s => ?_, o.nl, fun s v hs => ?_, o.nr, fun s hs => ?_⟩
    · show (upd σ.hd t m s).length ≤ 16
      by_cases e : s = t
      · subst e; rw [upd_same]; exact hm
      · rw [upd_else _ _ e]; exact o.hl s
    · have hs' : v ∈ upd σ.hd t m s := hs
      by_cases e : s = t
      · subst e; rw [upd_same] at hs'; exact hv v hs'
      · rw [upd_else _ _ e] at hs'; exact o.hr s v hs'
    · have hs' : upd σ.lv t b s = false := hs
      show upd σ.hd t m s = []
      by_cases e : s = t
      · subst e; rw [upd_same] at hs' ⊢; exact hl hs'
      · rw [upd_else _ _ e] at hs' ⊢; exact o.dead s hs'
theorem upd_self {α : Type} {f : Nat → α} {t : Nat} {x : α} (h : f t = x) : upd f t x = f := by
  funext s
  by_cases e : s = t
  · subst e; rw [upd_same, h]
  · rw [upd_else _ _ e]
theorem PwI.fset (h : PwI w K g σ R tc A nc vs bs) {y f : Nat} (hy : y < σ.M) (hf : f < (σ.nd y).length) {v1 v2 : Int} (hv : v1 = 2 → 0 ≤ v2 ∧ v2 < σ.M) :
    PwI ((w.setCell ⟨bs y, f * 2, none⟩ (.int .i64 v1)).setCell ⟨bs y, f * 2 + 1, none⟩ (.int .i64 v2)) K g { σ with nd := upd σ.nd y ((σ.nd y).set f (v1, v2)) } R tc A nc vs bs := by
  obtain ⟨cs, b1, b2⟩ := h.box
  obtain ⟨cr, r1, r2⟩ := h.row
  obtain ⟨n1, cn, n2, n3⟩ := h.node y hy (by omega)
  have e1 := heap_setCell_same w (bs y) (f * 2) _ _ (.int .i64 v1) n2
  have e2 := heap_setCell_same _ (bs y) (f * 2 + 1) _ _ (.int .i64 v2) e1
  have hg : gr.Gr [bs y] w ((w.setCell ⟨bs y, f * 2, none⟩ (.int .i64 v1)).setCell ⟨bs y, f * 2 + 1, none⟩ (.int .i64 v2)) := (gr.Gr.one (gr.grown_set _ _ _ _) (by simp)).trans (.one (gr.grown_set _ _ _ _) (by simp))
  have no : ∀ {q : Nat} {cs : Array Value} {e : TypeId} {z : Nat × Nat}, w.heap[q]? = some (.cells cs e z) → e ≠ 57 → q ∉ [bs y] := fun hq he hm => by
    rw [List.mem_singleton] at hm
    exact ty_ne' hq n2 he hm
  have ln : ∀ i, (upd σ.nd y ((σ.nd y).set f (v1, v2)) i).length = (σ.nd i).length := fun i => by
    by_cases e : i = y
    · subst e; rw [upd_same, List.length_set]
    · rw [upd_else _ _ e]
  refine ⟨⟨cs, hg.heap b1 (no b1 (by decide)), b2⟩, ⟨cr, hg.heap r1 (no r1 (by decide)), r2⟩, h.tcN, gr.own_gr h.own hg (fun q hq => by obtain ⟨c1, c2⟩ := own_ty h.own q hq; exact no c2 (by decide)), fun i hi => ?_, fun i hi h0 => ?_, fun i j hi hj h0 h1 e => ?_, h.kg, h.kR, h.kA, fun k hk => Nat.lt_of_lt_of_le (h.lt k hk) hg.size, ?_⟩
  · show ∃ B c, vs i = .slice B (upd σ.nd y ((σ.nd y).set f (v1, v2)) i).length c ∧ (upd σ.nd y ((σ.nd y).set f (v1, v2)) i).length ≤ c ∧ c ≤ maxLen ∧ ∃ b, B = some ⟨b, 0, none⟩ ∧ (0 < (upd σ.nd y ((σ.nd y).set f (v1, v2)) i).length → b = bs i)
    rw [ln]
    exact h.ent i hi
  · have h0' : 0 < (upd σ.nd y ((σ.nd y).set f (v1, v2)) i).length := h0
    rw [ln] at h0'
    show bs i ∈ K ∧ ∃ cs : Array Value, _ ∧ ∀ x, x < (upd σ.nd y ((σ.nd y).set f (v1, v2)) i).length → cs[x * 2]? = some (.int .i64 ((upd σ.nd y ((σ.nd y).set f (v1, v2)) i).getD x (0, 0)).1) ∧ cs[x * 2 + 1]? = some (.int .i64 ((upd σ.nd y ((σ.nd y).set f (v1, v2)) i).getD x (0, 0)).2)
    rw [ln]
    by_cases e : i = y
    · subst e
      refine ⟨n1, _, e2, fun x hx => ?_⟩
      rw [upd_same]
      obtain ⟨q1, q2⟩ := n3 x hx
      obtain ⟨u1, u2⟩ := n3 f hf
      have s1 := (Array.getElem?_eq_some_iff.1 u1).1
      have s2 := (Array.getElem?_eq_some_iff.1 u2).1
      by_cases ex : x = f
      · subst ex
        rw [Array.getElem?_setIfInBounds_ne (by omega), Array.getElem?_setIfInBounds_self_of_lt s1, Array.getElem?_setIfInBounds_self_of_lt (by simpa using s2)]
        simp [List.getD_eq_getElem?_getD, hx]
      · rw [Array.getElem?_setIfInBounds_ne (by omega), Array.getElem?_setIfInBounds_ne (by omega), Array.getElem?_setIfInBounds_ne (by omega), Array.getElem?_setIfInBounds_ne (by omega)]
        rw [List.getD_eq_getElem?_getD, List.getElem?_set_ne (Ne.symm ex), ← List.getD_eq_getElem?_getD]
        exact ⟨q1, q2⟩
    · rw [upd_else _ _ e]
      obtain ⟨p1, cp, p2, p3⟩ := h.node i hi h0'
      exact ⟨p1, cp, hg.heap p2 (fun hm => by rw [List.mem_singleton] at hm; exact e (h.apart i y hi hy h0' (by omega) hm)), p3⟩
  · have h0' : 0 < (upd σ.nd y ((σ.nd y).set f (v1, v2)) i).length := h0
    have h1' : 0 < (upd σ.nd y ((σ.nd y).set f (v1, v2)) j).length := h1
    rw [ln] at h0' h1'
    exact h.apart i j hi hj h0' h1' e
  · have o := h.ok
    refine ⟨o.n, o.n0, o.q1, o.q2, o.m0, o.m, o.hl, fun i => ?_, o.hr, fun i v hi hv' e => ?_, o.dead⟩
    · show (upd σ.nd y ((σ.nd y).set f (v1, v2)) i).length ≤ 127
      rw [ln]
      exact o.nl i
    · have hv'' : v ∈ upd σ.nd y ((σ.nd y).set f (v1, v2)) i := hv'
      by_cases ei : i = y
      · subst ei
        rw [upd_same] at hv''
        rcases List.mem_or_eq_of_mem_set hv'' with hm | rfl
        · exact o.nr _ v hi hm e
        · exact hv e
      · rw [upd_else _ _ ei] at hv''
        exact o.nr i v hi hv'' e
end
end Go.Proofs.YtfhebjkoojodiaaDoor.gq
