/- The law's table of letters; what stands while calls are made. -/
import Derived.Test.YtgfgchmpdocihaaLgF
namespace Go.Proofs.Ytgfgchmpdocihaa.lg
open Go.ChangeShapes Go.WideShapes Go.ChangeAt Go.RowKit gen lb
set_option linter.unusedVariables false
set_option maxHeartbeats 1000000
set_option maxRecDepth 100000
/-- Eight lists at T. -/
structure Tb (w : World) (T : Nat) (ws : List (List Bool)) : Prop where
  row : ∃ cs, w.heap[T]? = some (.cells cs 32 (0, 0)) ∧ ∀ t, t < 8 → ∃ v, cs[t]? = some v ∧ Lb w 0 v (ws.getD t [])
  len : ws.length = 8
section
variable {w w' W w2 w3 : World} {g R T win most k : Nat} {ws ls : List (List Bool)} {L : List Nat}
theorem Tb.lt (h : Tb w T ws) : T < w.heap.size := by
  obtain ⟨cs, h1, _⟩ := h.row
  exact (Array.getElem?_eq_some_iff.1 h1).1
theorem Tb.new (h : Tb w T ws) (hg : w.grownBy w' none) : Tb w' T ws := by
  obtain ⟨cs, h1, h2⟩ := h.row
  refine ⟨⟨cs, (hg.block T h.lt (by simp)).trans h1, fun t ht => ?_⟩, h.len⟩
  obtain ⟨v, a1, a4⟩ := h2 t ht
  exact ⟨v, a1, a4.new hg⟩
theorem Tb.off (h : Tb w T ws) {q : Nat} (hg : w.grownBy w' (some q)) (h1 : q ≠ T) (h3 : ∀ cs z, w.heap[q]? ≠ some (.cells cs 4 z)) : Tb w' T ws := by
  obtain ⟨cs, a1, a2⟩ := h.row
  refine ⟨⟨cs, (hg.block T h.lt (by simpa using fun e => h1 e.symm)).trans a1, fun t ht => ?_⟩, h.len⟩
  obtain ⟨v, b1, b4⟩ := a2 t ht
  refine ⟨v, b1, b4.kept hg (.inr fun e => ?_)⟩
  have hlt := b4.lt q e
  have hq : w.heap[q]? = some w.heap[q] := by simp [hlt]
  exact b4.off hq (fun cs z e2 => h3 cs z (hq.trans (congrArg some e2))) e
theorem Tb.free (h : Tb w T ws) (i : Nat) : w.frozen? ⟨T, i, none⟩ = false := by
  obtain ⟨cs, h1, _⟩ := h.row
  exact frozen_of_row w T i _ _ h1
theorem Tb.at_ (h : Tb w T ws) {t : Nat} (ht : t < 8) : ∃ A n c, w.cell? ⟨T, t, none⟩ = some (.slice A n c) ∧ n = (ws.getD t []).length ∧ Lb w 0 (.slice A n c) (ws.getD t []) := by
  obtain ⟨cs, h1, h2⟩ := h.row
  obtain ⟨v, a1, a4⟩ := h2 t ht
  obtain ⟨A, n, c, rfl, hn, _, _⟩ := a4.shape
  exact ⟨A, n, c, by rw [cell_of_row w T _ _ _ _ h1, a1], hn, a4⟩
theorem Tb.set (h : Tb w T ws) {t : Nat} (ht : t < 8) {v : Value} {l : List Bool} (hv : Lb w 0 v l) : Tb (w.setCell ⟨T, t, none⟩ v) T (ws.set t l) := by
  obtain ⟨cs, h1, h2⟩ := h.row
  have e3 := heap_setCell_same w T t _ _ v h1
  have GS := gr.grown_set w T t v
  have off : ∀ {u : Value} {m : List Bool}, Lb w 0 u m → u.ownBlock = none ∨ u.ownBlock ≠ some T := fun hu => .inr (hu.off h1 (fun cs z => by simp))
  refine ⟨⟨_, e3, fun i hi => ?_⟩, by rw [List.length_set]; exact h.len⟩
  obtain ⟨v1, a1, a4⟩ := h2 i hi
  by_cases e : t = i
  · subst e
    rw [set_same _ (by rw [h.len]; exact hi)]
    have hb := (Array.getElem?_eq_some_iff.1 a1).1
    exact ⟨v, by rw [Array.getElem?_setIfInBounds_self_of_lt hb], hv.kept GS (off hv)⟩
  · rw [set_else _ e]
    exact ⟨v1, by rw [Array.getElem?_setIfInBounds_ne (by omega)]; exact a1, a4.kept GS (off a4)⟩
/-! ### What stands -/
structure Md (w W : World) (g R T win most k : Nat) (ws ls : List (List Bool)) : Prop where
  lg : Lg W g R 8 win most ls
  tb : Tb W T ws
  like : ∀ t, ls.getD t [] = lastn win (ws.getD t [])
  good : ∀ t, Good win most (ws.getD t [])
  small : ∀ t, (ws.getD t []).length ≤ 64 * k
  grown : w.grownBy W none
  leR : w.heap.size ≤ R
  leT : w.heap.size ≤ T
theorem Md.new (h : Md w W g R T win most k ws ls) (hg : W.grownBy w' none) : Md w w' g R T win most k ws ls :=
  ⟨h.lg.new hg, h.tb.new hg, h.like, h.good, h.small, h.grown.trans hg, h.leR, h.leT⟩
theorem Md.more (h : Md w W g R T win most k ws ls) : Md w W g R T win most (k + 1) ws ls :=
  ⟨h.lg, h.tb, h.like, h.good, fun t => Nat.le_trans (h.small t) (by omega), h.grown, h.leR, h.leT⟩
theorem Md.offR (h : Md w W g R T win most k ws ls) (hg : W.grownBy w2 (some R)) : Tb w2 T ws := by
  obtain ⟨cs, h1, _⟩ := h.lg.row
  obtain ⟨ct, h2, _⟩ := h.tb.row
  exact h.tb.off hg (gr.ty_ne h1 h2 (by decide)) (fun cs z e => by rw [h1] at e; injection e with e; injection e with _ e _; exact absurd e (by decide))
theorem Md.mid (h : Md w W g R T win most k ws ls) (hg : W.grownBy w2 (some R)) : w.grownBy w2 none := li.grown_new h.grown hg h.leR
theorem Md.fin (h : Md w W g R T win most k ws ls) {t : Nat} (ht : t < 8) {n : Nat} {y : Bool} (hl : Lg w2 g R 8 win most (ls.set t (beh win n (ls.getD t []) y))) (hg : W.grownBy w2 (some R)) (hp : w2.grownBy w3 none)
    {v : Value} (hv : Lb w3 0 v (ws.getD t [] ++ List.replicate n y)) (hn : n ≤ 64) (hgd : Good win most (ws.getD t [] ++ List.replicate n y)) :
    Md w (w3.setCell ⟨T, t, none⟩ v) g R T win most (k + 1) (ws.set t (ws.getD t [] ++ List.replicate n y)) (ls.set t (beh win n (ls.getD t []) y)) := by
  have tb3 := (h.offR hg).new hp
  have lg3 := hl.new hp
  obtain ⟨ct, h2, _⟩ := tb3.row
  obtain ⟨cs, h1, _⟩ := lg3.row
  have l1 : t < ws.length := by rw [h.tb.len]; exact ht
  have l2 : t < ls.length := by rw [h.lg.len]; exact ht
  refine ⟨lg3.off (gr.grown_set w3 T t v) (gr.ty_ne h2 lg3.box (by decide)) (gr.ty_ne h2 h1 (by decide)) (fun cs z e => by rw [h2] at e; injection e with e; injection e with _ e _; exact absurd e (by decide)), tb3.set ht hv, fun i => ?_, fun i => ?_, fun i => ?_, li.grown_new ((h.mid hg).trans hp) (gr.grown_set w3 T t v) h.leT, h.leR, h.leT⟩
  · by_cases e : t = i
    · subst e
      rw [set_same _ l1, set_same _ l2, h.like, beh_last]
    · rw [set_else _ e, set_else _ e]
      exact h.like i
  · by_cases e : t = i
    · subst e
      rw [set_same _ l1]
      exact hgd
    · rw [set_else _ e]
      exact h.good i
  · by_cases e : t = i
    · subst e
      rw [set_same _ l1, List.length_append, List.length_replicate]
      have := h.small t
      omega
    · rw [set_else _ e]
      have := h.small i
      omega
theorem info_list : (Try.prog.info? 32).map (fun i => (i.zero, i.size, i.bytes)) = some (some nl, 1, 24) := by kernel_rfl
theorem make_lists (w : World) :
    (Instr.makeSlice 27 (.int .i64 8) (.int .i64 8)).run Try.prog w = .ok (.slice (some ⟨w.heap.size, 0, none⟩) 8 8) (w.alloc (.cells (List.replicate 8 nl).toArray 32)) := by
  obtain ⟨i0, hi, hz0, hz1, hz2⟩ := info_parts info_list
  have h := run_make (P := Try.prog) w 27 32 i0 _ Try.underlying27 hi hz0 .i64 .i64 8 8 (by omega) (Int.le_refl _) (by rw [hz2]; omega) (by omega)
  rw [h, hz1]
  simp only [Nat.mul_one]
  rw [show (nl : Value).cells = #[nl] from rfl, madeCells_rep]
  rfl
theorem Tb.fresh (w : World) : Tb (w.alloc (.cells (List.replicate 8 nl).toArray 32)) w.heap.size (List.replicate 8 []) := by
  refine ⟨⟨_, heap_alloc_new _ _, fun t ht => ⟨nl, by rw [List.getElem?_toArray, List.getElem?_replicate, if_pos ht], by rw [rep_at]; exact Lb.nil _ _⟩⟩, by simp⟩
theorem Md.begin (h : Lg W g R 8 win most (List.replicate 8 [])) (hg : w.grownBy W none) (hR : w.heap.size ≤ R) {c : Nat} (hc : W.heap.size = c) : Md w (W.alloc (.cells (List.replicate 8 nl).toArray 32)) g R c win most 0 (List.replicate 8 []) (List.replicate 8 []) := by
  subst hc
  refine ⟨h.new (World.grownBy_alloc _ _ _), Tb.fresh W, fun t => by rw [rep_at]; simp [lastn], fun t => by rw [rep_at]; exact Good.nil _ _, fun t => by rw [rep_at]; simp, hg.trans (World.grownBy_alloc _ _ _), hR, hg.size⟩
end
end Go.Proofs.Ytgfgchmpdocihaa.lg
