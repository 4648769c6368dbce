/- Texts that this claim stands on. -/
import Derived.Deep.AppendLies
import Derived.Deep.RegionHeld3
import Derived.Deep.RegionHeldLaw
import Derived.Laws.OwnMore
import Derived.Lib.SliceRun
import Derived.Test.YtfhebjkoojodiaaDoorPVaA
import Derived.Test.YtfhebjkoojodiaaDoorPGenC
namespace Go.Proofs.YtfhebjkoojodiaaDoor.gp
open Go.ChangeShapes Go.WideShapes Go.ChangeAt Go.RowKit gen va
set_option linter.unusedVariables false
set_option maxHeartbeats 1000000
set_option maxRecDepth 100000
structure Gs where
  N : Nat
  q : Int
  M : Nat
  lv : Nat → Bool
  hd : Nat → List Va
  nd : Nat → List Va
structure Gs.Ok (σ : Gs) : Prop where
  n : σ.N ≤ 8
  n0 : 0 < σ.N
  q1 : 1 ≤ σ.q
  q2 : σ.q ≤ 16
  m0 : 0 < σ.M
  m : σ.M ≤ 1000
  hl : ∀ t, (σ.hd t).length ≤ 16
  nl : ∀ i, (σ.nd i).length ≤ 127
  hr : ∀ t v, v ∈ σ.hd t → v.1 = 2 → 0 ≤ v.2 ∧ v.2 < σ.M
  nr : ∀ i v, i < σ.M → v ∈ σ.nd i → v.1 = 2 → 0 ≤ v.2 ∧ v.2 < σ.M
  dead : ∀ t, σ.lv t = false → σ.hd t = []
def upd {α : Type} (f : Nat → α) (i : Nat) (x : α) : Nat → α := fun j => if j = i then x else f j
theorem upd_same {α : Type} (f : Nat → α) (i : Nat) (x : α) : upd f i x i = x := if_pos rfl
theorem upd_else {α : Type} (f : Nat → α) {i j : Nat} (x : α) (h : j ≠ i) : upd f i x j = f j := if_neg h
def nvs (bs : Nat → Nat) (nd : Nat → List Va) (M : Nat) : List Value := (List.range M).map fun i => .slice (some ⟨bs i, 0, none⟩) (nd i).length (nd i).length
theorem nvs_at {bs : Nat → Nat} {nd : Nat → List Va} {M i : Nat} (h : i < M) : (nvs bs nd M)[i]? = some (.slice (some ⟨bs i, 0, none⟩) (nd i).length (nd i).length) := by simp [nvs, h]
theorem nvs_congr {bs bs' : Nat → Nat} {nd nd' : Nat → List Va} {M : Nat} (h : ∀ i, i < M → bs i = bs' i ∧ (nd i).length = (nd' i).length) : nvs bs nd M = nvs bs' nd' M := by
  unfold nvs
  apply List.map_congr_left
  intro i hi
  obtain ⟨h1, h2⟩ := h i (List.mem_range.1 hi)
  rw [h1, h2]
theorem nvs_snoc (bs : Nat → Nat) (nd : Nat → List Va) (M : Nat) : nvs bs nd (M + 1) = nvs bs nd M ++ [.slice (some ⟨bs M, 0, none⟩) (nd M).length (nd M).length] := by simp [nvs, List.range_succ]
structure GwI (w : World) (K : List Nat) (g : Nat) (c : Nat → Int) (σ : Gs) (R : Nat) (A : Option Addr) (nc : Nat) (vs : Nat → Value) (bs : Nat → Nat) : Prop where
  box : ∃ cs : Array Value, w.heap[g]? = some (.cells cs 50 (0, 0)) ∧ cs.size = 12 ∧ (∀ i, i < 10 → cs[i]? = some (.int .i64 (c i))) ∧ cs[10]? = some (.slice (some ⟨R, 0, none⟩) σ.N σ.N) ∧ cs[11]? = some (.slice A σ.M nc)
  row : ∃ cs : Array Value, w.heap[R]? = some (.cells cs 76 (0, 0)) ∧ ∀ t, t < σ.N → cs[t * 2]? = some (.bool (σ.lv t)) ∧ cs[t * 2 + 1]? = some (vs t)
  held : ∀ t, t < σ.N → ∃ A n k, vs t = .slice A n k ∧ Rv w w.heap.size A n k (σ.hd t) ∧ (A = none → n = 0 ∧ k = 0) ∧ ∀ ad, A = some ad → ad.block ∈ K ∧ (∃ cs fz, w.heap[ad.block]? = some (.cells cs 57 fz)) ∧ ∀ i, i < σ.M → ad.block ≠ bs i
  own : w.ownsRow 0 53 1 (.slice A σ.M nc) σ.M (nvs bs σ.nd σ.M)
  node : ∀ i, i < σ.M → w.heap[bs i]? = some (.cells (vc (σ.nd i)).toArray 57 (0, 0))
  apart : ∀ i j, i < σ.M → j < σ.M → bs i = bs j → i = j
  kg : g ∈ K
  kR : R ∈ K
  kA : ∀ q, (Value.slice A σ.M nc).ownBlock = some q → q ∈ K
  kb : ∀ i, i < σ.M → bs i ∈ K
  lt : ∀ k, k ∈ K → k < w.heap.size
  cq : c 3 = σ.q
  ok : σ.Ok
def Gw (w : World) (K : List Nat) (g : Nat) (c : Nat → Int) (σ : Gs) : Prop := ∃ R A nc vs bs, GwI w K g c σ R A nc vs bs
section
variable {w w' : World} {K L : List Nat} {g : Nat} {c : Nat → Int} {σ : Gs} {R : Nat} {A : Option Addr} {nc : Nat} {vs : Nat → Value} {bs : Nat → Nat}
theorem rv_gr {B n k : Nat} {A : Option Addr} {m : List Va} (h : Rv w B A n k m) (hg : gr.Gr L w w') (hB : B ≤ w'.heap.size) (hL : ∀ ad, A = some ad → ad.block ∉ L) : Rv w' w'.heap.size A n k m := by
  refine ⟨h.1, h.2.1, h.2.2.1, fun i hi => ?_⟩
  obtain ⟨b, off, e, hb, c1, c2⟩ := h.2.2.2 i hi
  have := hL _ e
  exact ⟨b, off, e, by omega, hg.cell c1 this, hg.cell c2 this⟩
theorem GwI.gr (h : GwI w K g c σ R A nc vs bs) (hg : gr.Gr L w w') (hL : ∀ k, k ∈ K → k ∉ L) : GwI w' K g c σ R A nc vs bs := by
  obtain ⟨cs, b1, b2⟩ := h.box
  obtain ⟨cr, r1, r2⟩ := h.row
  refine ⟨⟨cs, hg.heap b1 (hL g h.kg), b2⟩, ⟨cr, hg.heap r1 (hL R h.kR), r2⟩, fun t ht => ?_, gr.own_gr h.own hg (fun q hq => hL q (h.kA q hq)), fun i hi => hg.heap (h.node i hi) (hL _ (h.kb i hi)), h.apart, h.kg, h.kR, h.kA, h.kb, fun k hk => Nat.lt_of_lt_of_le (h.lt k hk) hg.size, h.cq, h.ok⟩
  obtain ⟨A', n, k, e, hr, ha, hb⟩ := h.held t ht
  refine ⟨A', n, k, e, rv_gr hr hg hg.size (fun ad e => hL _ (hb ad e).1), ha, fun ad e => ?_⟩
  obtain ⟨h1, ⟨cs, fz, h2⟩, h3⟩ := hb ad e
  exact ⟨h1, ⟨cs, fz, hg.heap h2 (hL _ h1)⟩, h3⟩
theorem GwI.new (h : GwI w K g c σ R A nc vs bs) (hg : w.grownBy w' none) : GwI w' K g c σ R A nc vs bs := h.gr (L := []) (.new hg) (fun _ _ => by simp)
theorem Gw.gr (h : Gw w K g c σ) (hg : gr.Gr L w w') (hL : ∀ k, k ∈ K → k ∉ L) : Gw w' K g c σ := by
  obtain ⟨R, A, nc, vs, bs, h⟩ := h
  exact ⟨R, A, nc, vs, bs, h.gr hg hL⟩
theorem Gw.new (h : Gw w K g c σ) (hg : w.grownBy w' none) : Gw w' K g c σ := h.gr (L := []) (.new hg) (fun _ _ => by simp)
theorem Gw.lt (h : Gw w K g c σ) : ∀ k, k ∈ K → k < w.heap.size := by
  obtain ⟨R, A, nc, vs, bs, h⟩ := h
  exact h.lt
theorem Gw.ok (h : Gw w K g c σ) : σ.Ok := by
  obtain ⟨R, A, nc, vs, bs, h⟩ := h
  exact h.ok
theorem GwI.c_ (h : GwI w K g c σ R A nc vs bs) {i : Nat} (hi : i < 10) : w.cell? ⟨g, i, none⟩ = some (.int .i64 (c i)) := by
  obtain ⟨cs, b1, b2, b3, b4, b5⟩ := h.box
  rw [cell_of_row w g i _ _ _ b1]
  exact b3 i hi
theorem GwI.c10 (h : GwI w K g c σ R A nc vs bs) : w.cell? ⟨g, 10, none⟩ = some (.slice (some ⟨R, 0, none⟩) σ.N σ.N) := by
  obtain ⟨cs, b1, b2, b3, b4, b5⟩ := h.box
  rw [cell_of_row w g 10 _ _ _ b1]
  exact b4
theorem GwI.c11 (h : GwI w K g c σ R A nc vs bs) : w.cell? ⟨g, 11, none⟩ = some (.slice A σ.M nc) := by
  obtain ⟨cs, b1, b2, b3, b4, b5⟩ := h.box
  rw [cell_of_row w g 11 _ _ _ b1]
  exact b5
theorem GwI.t0 (h : GwI w K g c σ R A nc vs bs) {t : Nat} (ht : t < σ.N) : w.cell? ⟨R, t * 2, none⟩ = some (.bool (σ.lv t)) := by
  obtain ⟨cr, r1, r2⟩ := h.row
  rw [cell_of_row w R _ _ _ _ r1]
  exact (r2 t ht).1
theorem GwI.t1 (h : GwI w K g c σ R A nc vs bs) {t : Nat} (ht : t < σ.N) : w.cell? ⟨R, t * 2 + 1, none⟩ = some (vs t) := by
  obtain ⟨cr, r1, r2⟩ := h.row
  rw [cell_of_row w R _ _ _ _ r1]
  exact (r2 t ht).2
theorem GwI.hv (h : GwI w K g c σ R A nc vs bs) {t : Nat} (ht : t < σ.N) : ∃ B n k, n = (σ.hd t).length ∧ n ≤ 16 ∧ w.cell? ⟨R, t * 2 + 1, none⟩ = some (.slice B n k) ∧ Rv w w.heap.size B n k (σ.hd t) ∧ (B = none → n = 0 ∧ k = 0) := by
  obtain ⟨B, n, k, e, hr, ha, _⟩ := h.held t ht
  exact ⟨B, n, k, hr.1.symm, by rw [← hr.1]; exact h.ok.hl t, by rw [h.t1 ht, e], hr, ha⟩
theorem GwI.nv (h : GwI w K g c σ R A nc vs bs) {i : Nat} (hi : i < σ.M) : ∃ a, A = some ⟨a, 0, none⟩ ∧ w.cell? ⟨a, i, none⟩ = some (.slice (some ⟨bs i, 0, none⟩) (σ.nd i).length (σ.nd i).length) := by
  rcases li.own_or h.own with ⟨_, h0, _⟩ | ⟨a, rfl, _⟩
  · omega
  · exact ⟨a, rfl, by rw [h.own.cellAt i (by omega), nvs_at hi]⟩
theorem GwI.fv (h : GwI w K g c σ R A nc vs bs) {i f : Nat} (hi : i < σ.M) (hf : f < (σ.nd i).length) : w.cell? ⟨bs i, f * 2, none⟩ = some (.int .i64 ((σ.nd i).getD f (0, 0)).1) ∧ w.cell? ⟨bs i, f * 2 + 1, none⟩ = some (.int .i64 ((σ.nd i).getD f (0, 0)).2) := by
  obtain ⟨a1, a2⟩ := vc_at (σ.nd i) f hf
  have e := h.node i hi
  refine ⟨?_, ?_⟩
  · rw [cell_of_row w (bs i) _ _ _ _ e, ← Array.getElem?_toList, Nat.mul_comm]
    exact a1
  · rw [cell_of_row w (bs i) _ _ _ _ e, ← Array.getElem?_toList, Nat.mul_comm f 2]
    exact a2
theorem GwI.free (h : GwI w K g c σ R A nc vs bs) {i : Nat} (hi : i < σ.M) (j : Nat) : w.frozen? ⟨bs i, j, none⟩ = false := frozen_of_row w _ j _ _ (h.node i hi)
theorem GwI.freeR (h : GwI w K g c σ R A nc vs bs) (j : Nat) : w.frozen? ⟨R, j, none⟩ = false := by
  obtain ⟨cr, r1, r2⟩ := h.row
  exact frozen_of_row w _ j _ _ r1
theorem GwI.freeG (h : GwI w K g c σ R A nc vs bs) (j : Nat) : w.frozen? ⟨g, j, none⟩ = false := by
  obtain ⟨cs, b1, _⟩ := h.box
  exact frozen_of_row w _ j _ _ b1
end
end Go.Proofs.YtfhebjkoojodiaaDoor.gp
