/- What a pile's settle and pop do. -/
import Derived.Test.YtokjpibaaioehaaDoorSkB
namespace Go.Proofs.YtokjpibaaioehaaDoor.sk
open Go.ChangeShapes Go.WideShapes Go.ChangeAt Go.RowKit gen li en gr
set_option linter.unusedVariables false
set_option maxHeartbeats 4000000
set_option maxRecDepth 100000

/-- An answer: an entry, and whether there is one. -/
abbrev vb (x : Va) (b : Bool) : Ending := .returned (.tuple #[.agg #[.int .i64 x.1, .int .i64 x.2], .bool b])
section
variable {w w' W : World} {g r : Nat} {b : Bool} {v : Value} {m : List Va} {K L : List Nat}
theorem settle_any (h : Sk w K g r b m) : Calls Tryd.prog 62 #[.pointer (some ⟨g, 0, none⟩)] w fun e w' => e = .returned (.bool b) ∧ Sk w' K g r false m ∧ Gr K w w' := by
  obtain ⟨v, h, rfl⟩ := h
  have HS := Lib.hid (show Sk (w.setCell ⟨g, 1, none⟩ (.bool false)) (ks g v) g r false m ∧ Gr (ks g v) w (w.setCell ⟨g, 1, none⟩ (.bool false)) from by
    have G := grown_set w g 1 (.bool false)
    exact ⟨⟨v, ⟨set_ob1 h.ob, h.li.kept G (.inr h.off), h.hi, h.fit⟩, rfl⟩, Gr.one G (ks_of.2 (.inl rfl))⟩)
  have c1 := h.c1
  have z1 := h.free 1
  have glt := h.lt
  clear h
  go_enter Tryd.func62, Tryd.ntmps62
  go_wp2
  go_ret
  exact ⟨rfl, HS.out⟩
/-! ### pop -/
theorem pop_none (h : Sk w K g r b []) : Calls Tryd.prog 58 #[.pointer (some ⟨g, 0, none⟩)] w fun e w' => e = vb (0, 0) false ∧ w.grownBy w' none := by
  obtain ⟨v, h, _⟩ := h
  obtain ⟨A, n, c, e, hn, _, _⟩ := h.li.shape
  obtain rfl : n = 0 := hn
  have c2 := h.c2
  have glt := h.lt
  subst e
  have G0 := Lib.hid ((World.grownBy_alloc w (.cells #[.int .i64 0, .int .i64 0] 43) none).trans (World.grownBy_alloc _ (.cells #[.int .i64 0, .int .i64 0] 43) none))
  clear h
  go_enter Tryd.func58, Tryd.ntmps58
  go_wp2
  refine bodyPost_ret (v := .tuple #[.agg #[.int .i64 0, .int .i64 0], .bool false]) ?_ rfl ⟨rfl, ?_⟩
  · simp [results, Tryd.results58, go_sem, *]
  · exact G0.out
/-- The topmost one is gone: what it was is nothing, and the list ends ahead of it. -/
theorem Lv.popd {base : Nat} {q p c : Nat} {x : Va} (h : Lv w base (.slice (some ⟨q, 0, none⟩) (p + 1) c) (m ++ [x])) (hp : m.length = p) :
    Lv ((w.setCell ⟨q, p * 2, none⟩ (.int .i64 0)).setCell ⟨q, p * 2 + 1, none⟩ (.int .i64 0)) base (.slice (some ⟨q, 0, none⟩) p c) m := by
  subst hp
  refine ⟨by rw [vc_length]; omega, ?_⟩
  rcases h.2 with ⟨e, _⟩ | ⟨g, cap, cur, e, hb, hg, h1, h2, h3, h4⟩
  · cases e
  · injection e with e1 e2 e3
    injection e1 with e1
    injection e1 with e1 _ _
    subst e1 e3
    have s1 := heap_setCell_same w q (m.length * 2) _ _ (.int .i64 0) hg
    have s2 := heap_setCell_same _ q (m.length * 2 + 1) _ _ (.int .i64 0) s1
    refine .inr ⟨q, c, _, rfl, hb, s2, by rw [List.length_append] at h1; simp at h1; omega, h2, by simpa using h3, ?_⟩
    have h5 := congrArg (List.take (m.length * 2)) h4
    rw [vc_append, List.take_take, List.take_append_of_le_length (by rw [vc_length]; omega), List.take_of_length_le (l := vc m) (by rw [vc_length]; omega)] at h5
    rw [← h5, show min (m.length * 2) ((m ++ [x]).length * 2) = m.length * 2 by rw [List.length_append]; omega]
    simp only [Array.toList_setIfInBounds]
    rw [List.take_set_of_le (by omega), List.take_set_of_le (by omega)]
theorem pop_yes {x : Va} (h : Sk w K g r b (m ++ [x])) : Calls Tryd.prog 58 #[.pointer (some ⟨g, 0, none⟩)] w fun e w' => e = vb x true ∧ Sk w' K g r b m ∧ Gr K w w' := by
  obtain ⟨v, h, rfl⟩ := h
  obtain ⟨p, hp⟩ : ∃ p, m.length = p := ⟨_, rfl⟩
  have hle := h.fit
  have hhi := h.hi
  have hlen : (m ++ [x]).length = p + 1 := by simp [hp]
  rw [hlen] at hle
  obtain ⟨q, c, rfl, d0, d1, lq, lc, lm⟩ : ∃ q c, v = .slice (some ⟨q, 0, none⟩) (p + 1) c ∧ w.cell? ⟨q, p * 2, none⟩ = some (.int .i64 x.1) ∧ w.cell? ⟨q, p * 2 + 1, none⟩ = some (.int .i64 x.2) ∧ q < w.heap.size ∧ p + 1 ≤ c ∧ c ≤ maxLen := by
    obtain ⟨A, N, k, rfl, hN, h1, h2⟩ := h.li.shape
    rw [hlen] at hN
    subst hN
    obtain ⟨b1, o1, e, g1, g2⟩ := (h.li.rv hlen.symm).at_ (i := p) (by omega)
    rcases h.li.2 with ⟨e2, _⟩ | ⟨q, cap, cur, e2, _, hq, _⟩
    · injection e2 with e2 _ _
      subst e2
      cases e
    · injection e2 with e2 _ e3
      subst e2 e3
      injection e with e
      injection e with e4 e5 _
      subst e4 e5
      have hx : (m ++ [x]).getD p (0, 0) = x := by rw [← hp]; simp
      rw [hx, Nat.zero_add] at g1 g2
      exact ⟨q, k, rfl, g1, g2, (Array.getElem?_eq_some_iff.1 hq).1, h1, h2⟩
  have c2 := h.c2
  have z2 := h.free 2
  have glt := h.lt
  have hgq : ¬ (g = q) := fun e => h.off (by rw [e]; rfl)
  have hqg : ¬ (q = g) := fun e => hgq e.symm
  have fq0 : ∀ k, w.frozen? ⟨q, k, none⟩ = false := by
    rcases h.li.2 with ⟨e2, _⟩ | ⟨q', cap, cur, e2, _, hq, _⟩
    · cases e2
    · injection e2 with e2 _ e3
      injection e2 with e2
      injection e2 with e2 _ _
      subst e2
      exact fun k => frozen_of_row w q k _ _ hq
  obtain ⟨x1, x2⟩ := x
  have POP := Lib.hid (fun W (hg : w.grownBy W none) => (show Sk (((W.setCell ⟨q, p * 2, none⟩ (.int .i64 0)).setCell ⟨q, p * 2 + 1, none⟩ (.int .i64 0)).setCell ⟨g, 2, none⟩ (.slice (some ⟨q, 0, none⟩) p c)) (ks g (.slice (some ⟨q, 0, none⟩) (p + 1) c)) g r b m ∧ Gr (ks g (.slice (some ⟨q, 0, none⟩) (p + 1) c)) w (((W.setCell ⟨q, p * 2, none⟩ (.int .i64 0)).setCell ⟨q, p * 2 + 1, none⟩ (.int .i64 0)).setCell ⟨g, 2, none⟩ (.slice (some ⟨q, 0, none⟩) p c)) from by
    have h1 := h.new hg
    have GQ := (grown_set W q (p * 2) (.int .i64 0)).trans (grown_set _ q (p * 2 + 1) (.int .i64 0))
    have GG := grown_set ((W.setCell ⟨q, p * 2, none⟩ (.int .i64 0)).setCell ⟨q, p * 2 + 1, none⟩ (.int .i64 0)) g 2 (.slice (some ⟨q, 0, none⟩) p c)
    have hob := (GQ.block g h1.lt (by simp; exact hgq)).trans h1.ob
    have hl := Lv.popd h1.li hp
    exact ⟨⟨.slice (some ⟨q, 0, none⟩) p c, ⟨set_ob (b2 := b) (y := 0) hob, hl.kept GG (.inr (hl.off hob (fun cs z => by simp))), h.hi, by omega⟩, rfl⟩,
      ((Gr.new hg).trans (Gr.one GQ (ks_of.2 (.inr rfl)))).trans (Gr.one GG (ks_of.2 (.inl rfl)))⟩))
  have KO := Lib.hid (fun q' (hq : q' ∈ ks g (.slice (some ⟨q, 0, none⟩) (p + 1) c)) => (show q' < w.heap.size from (Sk.lt (K := ks g (.slice (some ⟨q, 0, none⟩) (p + 1) c)) ⟨_, h, rfl⟩) q' hq))
  dsimp only at d0 d1
  unfold maxLen at lm
  clear h hp hlen
  have l1 : (0 : Int) ≤ (p : Int) := by omega
  have l2 : p < p + 1 := by omega
  go_enter Tryd.func58, Tryd.ntmps58
  go_wp2
  obtain ⟨W1, hW1⟩ : ∃ W1, W1 = ((w.alloc (.cells #[.int .i64 0, .int .i64 0] 43)).alloc (.cells #[.int .i64 0, .int .i64 0] 43)).alloc (.cells #[.int .i64 x1, .int .i64 x2] 43) := ⟨_, rfl⟩
  obtain ⟨B0, hB0⟩ : ∃ B0, B0 = w.heap.size := ⟨_, rfl⟩
  obtain ⟨B1, hB1⟩ : ∃ B1, B1 = w.heap.size + 1 := ⟨_, rfl⟩
  obtain ⟨B2, hB2⟩ : ∃ B2, B2 = w.heap.size + 1 + 1 := ⟨_, rfl⟩
  have G1 := Lib.hid (show w.grownBy W1 none by rw [hW1]; exact ((World.grownBy_alloc w _ none).trans (World.grownBy_alloc _ _ none)).trans (World.grownBy_alloc _ _ none))
  have H0 : W1.heap[B0]? = some (.cells #[.int .i64 0, .int .i64 0] 43 (0, 0)) := by rw [hW1, hB0, Below.heap_alloc _ _ _ (by simp; omega), Below.heap_alloc _ _ _ (by simp), heap_alloc_new]
  have H1 : W1.heap[B1]? = some (.cells #[.int .i64 0, .int .i64 0] 43 (0, 0)) := by rw [hW1, hB1, Below.heap_alloc _ _ _ (by simp)]; have := heap_alloc_new (w.alloc (.cells #[.int .i64 0, .int .i64 0] 43)) (.cells #[.int .i64 0, .int .i64 0] 43); simpa using this
  have H2 : W1.heap[B2]? = some (.cells #[.int .i64 x1, .int .i64 x2] 43 (0, 0)) := by rw [hW1, hB2]; have := heap_alloc_new ((w.alloc (.cells #[.int .i64 0, .int .i64 0] 43)).alloc (.cells #[.int .i64 0, .int .i64 0] 43)) (.cells #[.int .i64 x1, .int .i64 x2] 43); simpa using this
  rw [← hW1, ← hB2, ← hB1, ← hB0]
  have n0 : ¬ (q = B0) := by omega
  have n1 : ¬ (q = B1) := by omega
  have n2 : ¬ (q = B2) := by omega
  have n3 : ¬ (g = B0) := by omega
  have n4 : ¬ (g = B1) := by omega
  have n5 : ¬ (g = B2) := by omega
  have m0 : ¬ (B0 = q) := by omega
  have m1 : ¬ (B1 = q) := by omega
  have m2 : ¬ (B2 = q) := by omega
  have m3 : ¬ (B0 = g) := by omega
  have m4 : ¬ (B1 = g) := by omega
  have m5 : ¬ (B2 = g) := by omega
  have m6 : ¬ (B0 = B2) := by omega
  have m7 : ¬ (B2 = B0) := by omega
  have c2 := G1.out.cell c2 (by simp)
  have d0 := G1.out.cell d0 (by simp)
  have d1 := G1.out.cell d1 (by simp)
  have z2 : W1.frozen? ⟨g, 2, none⟩ = false := (G1.out.frozen_far ⟨g, 2, none⟩ glt (by simp)).trans z2
  have y0 : W1.frozen? ⟨q, p * 2, none⟩ = false := (G1.out.frozen_far ⟨q, p * 2, none⟩ lq (by simp)).trans (fq0 _)
  have y1 : W1.frozen? ⟨q, p * 2 + 1, none⟩ = false := (G1.out.frozen_far ⟨q, p * 2 + 1, none⟩ lq (by simp)).trans (fq0 _)
  have u0 : W1.cell? ⟨B1, 0, none⟩ = some (.int .i64 0) := by rw [cell_of_row W1 B1 0 _ _ _ H1]; rfl
  have u1 : W1.cell? ⟨B1, 1, none⟩ = some (.int .i64 0) := by rw [cell_of_row W1 B1 1 _ _ _ H1]; rfl
  have v0 : W1.cell? ⟨B2, 0, none⟩ = some (.int .i64 x1) := by rw [cell_of_row W1 B2 0 _ _ _ H2]; rfl
  have v1 : W1.cell? ⟨B2, 1, none⟩ = some (.int .i64 x2) := by rw [cell_of_row W1 B2 1 _ _ _ H2]; rfl
  have r0 : W1.cell? ⟨B0, 0, none⟩ = some (.int .i64 0) := by rw [cell_of_row W1 B0 0 _ _ _ H0]; rfl
  have r1 : W1.cell? ⟨B0, 1, none⟩ = some (.int .i64 0) := by rw [cell_of_row W1 B0 1 _ _ _ H0]; rfl
  have s0 : W1.frozen? ⟨B0, 0, none⟩ = false := frozen_of_row W1 B0 0 _ _ H0
  have s1 : W1.frozen? ⟨B0, 1, none⟩ = false := frozen_of_row W1 B0 1 _ _ H0
  have lt0 : B0 < W1.heap.size := (Array.getElem?_eq_some_iff.1 H0).1
  have lg1 : g < W1.heap.size := Nat.lt_of_lt_of_le glt G1.out.size
  have lq1 : q < W1.heap.size := Nat.lt_of_lt_of_le lq G1.out.size
  have HB := Lib.hid (show w.heap.size ≤ B0 by omega)
  clear H0 H1 H2 hW1 hB0 hB1 hB2 fq0
  go_region
  go_wp2
  obtain ⟨P1, P2⟩ := POP.out W1 G1.out
  have GR := (grown_set (((W1.setCell ⟨q, p * 2, none⟩ (.int .i64 0)).setCell ⟨q, p * 2 + 1, none⟩ (.int .i64 0)).setCell ⟨g, 2, none⟩ (.slice (some ⟨q, 0, none⟩) p c)) B0 0 (.int .i64 x1)).trans (grown_set _ B0 1 (.int .i64 x2))
  have GR := GR.trans (grown_drew _ (some B0))
  refine bodyPost_ret (v := .tuple #[.agg #[.int .i64 x1, .int .i64 x2], .bool true]) ?_ rfl ⟨rfl, ?_, ?_⟩
  · simp [results, Tryd.results58, go_sem, *]
  · exact P1.gr (Gr.one (L := [B0]) GR (by simp)) (fun q' hq h => by rw [List.mem_singleton] at h; have := KO.out q' hq; have := HB.out; omega)
  · exact gr_aside P2 GR HB.out
end
end Go.Proofs.YtokjpibaaioehaaDoor.sk
