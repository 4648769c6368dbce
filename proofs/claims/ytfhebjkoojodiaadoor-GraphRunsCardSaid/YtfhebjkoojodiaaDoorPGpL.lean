/- Texts that this claim stands on. -/
import Derived.Deep.RegionLaw
import Derived.Test.YtfhebjkoojodiaaDoorPGpJ
namespace Go.Proofs.YtfhebjkoojodiaaDoor.gp
open Go.ChangeShapes Go.WideShapes Go.ChangeAt Go.RowKit gen va cd
set_option linter.unusedVariables false
set_option maxHeartbeats 1000000
set_option maxRecDepth 100000
section
variable {w : World} {K K' : List Nat} {g : Nat} {cf : Nat → Int} {σ : Gs}
theorem GwI.nadd {R : Nat} {A : Option Addr} {nc : Nat} {vs : Nat → Value} {bs : Nat → Nat} (h : GwI w K g cf σ R A nc vs bs) (hM : σ.M < 1000) {l : Nat} (hl : l ≤ 127) {w1 : World} {b : Nat} {A' : Option Addr} {nc' : Nat} {L : List Nat}
    (hg : gr.Gr L w w1) (hL : ∀ q, q ∈ L → ∃ cs, w.heap[q]? = some (.cells cs 53 (0, 0)))
    (hb : w1.heap[b]? = some (.cells (vc (List.replicate l (0, 0))).toArray 57 (0, 0))) (hbn : w.heap.size ≤ b)
    (ho : w1.ownsRow 0 53 1 (.slice A' (σ.M + 1) nc') (σ.M + 1) (nvs bs σ.nd σ.M ++ [.slice (some ⟨b, 0, none⟩) l l]))
    (hK : ∀ q, q ∈ K → q ∈ K') (kb : b ∈ K') (kA : ∀ q, (Value.slice A' (σ.M + 1) nc').ownBlock = some q → q ∈ K') (lt : ∀ q, q ∈ K' → q < w1.heap.size) :
    GwI (w1.setCell ⟨g, 11, none⟩ (.slice A' (σ.M + 1) nc')) K' g cf { σ with M := σ.M + 1, nd := upd σ.nd σ.M (List.replicate l (0, 0)) } R A' nc' vs (upd bs σ.M b) := by
  obtain ⟨cs, b1, b2, b3, b4, b5⟩ := h.box
  obtain ⟨cr, r1, r2⟩ := h.row
  have no : ∀ {q : Nat} {cs : Array Value} {e : TypeId} {fz : Nat × Nat}, w.heap[q]? = some (.cells cs e fz) → e ≠ 53 → q ∉ L := fun hq he hm => by
    obtain ⟨c1, h1⟩ := hL _ hm
    exact ty_ne' hq h1 he rfl
  have b1' := hg.heap b1 (no b1 (by decide))
  have e3 := heap_setCell_same w1 g 11 _ _ (.slice A' (σ.M + 1) nc') b1'
  have GS : gr.Gr [g] w1 (w1.setCell ⟨g, 11, none⟩ (.slice A' (σ.M + 1) nc')) := .one (gr.grown_set _ _ _ _) (by simp)
  have ng : ∀ {q : Nat} {cs : Array Value} {e : TypeId} {fz : Nat × Nat}, w1.heap[q]? = some (.cells cs e fz) → e ≠ 50 → q ∉ [g] := fun hq he hm => by
    rw [List.mem_singleton] at hm
    exact ty_ne' hq b1' he hm
  have kp : ∀ {q : Nat} {cs : Array Value} {e : TypeId} {fz : Nat × Nat}, w.heap[q]? = some (.cells cs e fz) → e ≠ 53 → e ≠ 50 → (w1.setCell ⟨g, 11, none⟩ (.slice A' (σ.M + 1) nc')).heap[q]? = some (.cells cs e fz) := fun hq h1 h2 =>
    GS.heap (hg.heap hq (no hq h1)) (ng (hg.heap hq (no hq h1)) h2)
  have nbs : ∀ i, i < σ.M → bs i ≠ b := fun i hi e => by have := h.lt _ (h.kb i hi); omega
  have ndu : ∀ i, i < σ.M → upd σ.nd σ.M (List.replicate l (0, 0)) i = σ.nd i := fun i hi => upd_else _ _ (by omega)
  have bsu : ∀ i, i < σ.M → upd bs σ.M b i = bs i := fun i hi => upd_else _ _ (by omega)
  have ok : Gs.Ok { σ with M := σ.M + 1, nd := upd σ.nd σ.M (List.replicate l (0, 0)) } := by
    have q := h.ok
    refine ⟨q.n, q.n0, q.q1, q.q2, Nat.succ_pos _, hM, q.hl, fun i => ?_, fun t v hv e => ?_, fun i v hi hv e => ?_, q.dead⟩
    · show (upd σ.nd σ.M (List.replicate l (0, 0)) i).length ≤ 127
      by_cases e : i = σ.M
      · subst e; rw [upd_same]; simpa using hl
      · rw [upd_else _ _ e]; exact q.nl i
    · have := q.hr t v hv e
      exact ⟨this.1, by show v.2 < ((σ.M + 1 : Nat) : Int); omega⟩
    · have hv' : v ∈ upd σ.nd σ.M (List.replicate l (0, 0)) i := hv
      have hi' : i < σ.M + 1 := hi
      by_cases ei : i = σ.M
      · subst ei
        rw [upd_same] at hv'
        have := List.eq_of_mem_replicate hv'
        subst this
        cases e
      · rw [upd_else _ _ ei] at hv'
        have := q.nr i v (by omega) hv' e
        exact ⟨this.1, by show v.2 < ((σ.M + 1 : Nat) : Int); omega⟩
  refine ⟨⟨_, e3, by simpa using b2, fun i hi => by rw [Array.getElem?_setIfInBounds_ne (by omega)]; exact b3 i hi, by rw [Array.getElem?_setIfInBounds_ne (by omega)]; exact b4, by rw [Array.getElem?_setIfInBounds_self_of_lt (by omega)]⟩,
    ⟨cr, kp r1 (by decide) (by decide), r2⟩, fun s hs => ?_, ?_, fun i hi => ?_, fun i j hi hj e => ?_, hK _ h.kg, hK _ h.kR, kA, fun i hi => ?_, fun q hq => by have := lt q hq; simpa using this, h.cq, ok⟩
  · obtain ⟨B, n, k, q1, q2, q3, q4⟩ := h.held s hs
    have G2 : gr.Gr (L ++ [g]) w (w1.setCell ⟨g, 11, none⟩ (.slice A' (σ.M + 1) nc')) := (hg.mono (fun k hk => List.mem_append_left _ hk)).trans (GS.mono (fun k hk => List.mem_append_right _ hk))
    refine ⟨B, n, k, q1, rv_gr q2 G2 G2.size (fun ad e hm => ?_), q3, fun ad e => ?_⟩
    · obtain ⟨_, ⟨c1, z1, p2⟩, _⟩ := q4 ad e
      rcases List.mem_append.1 hm with hm | hm
      · exact no p2 (by decide) hm
      · exact ng (hg.heap p2 (no p2 (by decide))) (by decide) hm
    · obtain ⟨p1, ⟨c1, z1, p2⟩, p3⟩ := q4 ad e
      refine ⟨hK _ p1, ⟨c1, z1, kp p2 (by decide) (by decide)⟩, fun i hi => ?_⟩
      by_cases ei : i = σ.M
      · subst ei
        rw [upd_same]
        have := h.lt _ p1
        omega
      · rw [upd_else _ _ ei]
        exact p3 i (by have hi' : i < σ.M + 1 := hi; omega)
  · have o := gr.own_gr ho GS (fun q hq => by obtain ⟨c1, c2⟩ := own_ty ho q hq; exact ng c2 (by decide))
    have e : nvs (upd bs σ.M b) (upd σ.nd σ.M (List.replicate l (0, 0))) (σ.M + 1) = nvs bs σ.nd σ.M ++ [.slice (some ⟨b, 0, none⟩) l l] := by
      rw [nvs_snoc, upd_same, upd_same, nvs_congr (bs' := bs) (nd' := σ.nd) (fun i hi => ⟨bsu i hi, by rw [ndu i hi]⟩)]
      simp
    show World.ownsRow _ _ _ _ _ _ (nvs (upd bs σ.M b) (upd σ.nd σ.M (List.replicate l (0, 0))) (σ.M + 1))
    rw [e]
    exact o
  · have hi' : i < σ.M + 1 := hi
    show _ = some (Obj.cells (vc (upd σ.nd σ.M (List.replicate l (0, 0)) i)).toArray _ _)
    by_cases ei : i = σ.M
    · subst ei
      rw [upd_same, upd_same]
      exact GS.heap hb (ng hb (by decide))
    · rw [upd_else _ _ ei, upd_else _ _ ei]
      exact kp (h.node i (by omega)) (by decide) (by decide)
  · have hi' : i < σ.M + 1 := hi
    have hj' : j < σ.M + 1 := hj
    by_cases ei : i = σ.M
    · by_cases ej : j = σ.M
      · omega
      · rw [ei, upd_same, upd_else _ _ ej] at e
        exact absurd e.symm (nbs j (by omega))
    · by_cases ej : j = σ.M
      · rw [ej, upd_same, upd_else _ _ ei] at e
        exact absurd e (nbs i (by omega))
      · rw [upd_else _ _ ei, upd_else _ _ ej] at e
        exact h.apart i j (by omega) (by omega) e
  · have hi' : i < σ.M + 1 := hi
    by_cases ei : i = σ.M
    · rw [ei, upd_same]; exact kb
    · rw [upd_else _ _ ei]; exact hK _ (h.kb i (by omega))
end
end Go.Proofs.YtfhebjkoojodiaaDoor.gp
