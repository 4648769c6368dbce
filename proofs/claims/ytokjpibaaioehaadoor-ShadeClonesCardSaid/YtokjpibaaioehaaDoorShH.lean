/- The plain grey's Pop. -/
import Derived.Test.YtokjpibaaioehaaDoorShG
namespace Go.Proofs.YtokjpibaaioehaaDoor.sh
open Go.ChangeShapes Go.WideShapes Go.ChangeAt Go.RowKit gen li en gr
set_option linter.unusedVariables false
set_option maxHeartbeats 4000000
set_option maxRecDepth 100000
section
variable {w w' W : World} {M r B : Nat} {J L : List Nat} {s : Ps} {v : Value} {x1 x2 : Int} {m : List Va} {b : Bool} {ws : List Nat}
/-- A boxed entry of the plain one. -/
def Ep (w : World) (B : Nat) (x1 x2 : Int) : Prop := w.heap[B]? = some (.cells #[.int .i64 x1, .int .i64 x2] 58 (0, 0))
theorem Ep.f (h : Ep w B x1 x2) : w.cell? ⟨B, 0, none⟩ = some (.int .i64 x1) ∧ w.cell? ⟨B, 1, none⟩ = some (.int .i64 x2) ∧ w.frozen? ⟨B, 0, none⟩ = false ∧ w.frozen? ⟨B, 1, none⟩ = false ∧ B < w.heap.size :=
  ⟨by rw [cell_of_row w B 0 _ _ _ h]; rfl, by rw [cell_of_row w B 1 _ _ _ h]; rfl, frozen_of_row w B 0 _ _ h, frozen_of_row w B 1 _ _ h, (Array.getElem?_eq_some_iff.1 h).1⟩
theorem Ep.gr (h : Ep w B x1 x2) (hg : Gr L w w') (hB : B ∉ L) : Ep w' B x1 x2 := hg.heap h hB
theorem Ep.new (h : Ep w B x1 x2) (hg : w.grownBy w' none) : Ep w' B x1 x2 := (Gr.new (L := []) hg).heap h (by simp)
theorem Ep.made (w : World) (x1 x2 : Int) : Ep (w.alloc (.cells #[.int .i64 x1, .int .i64 x2] 58)) w.heap.size x1 x2 := heap_alloc_new _ _
/-- An answer: an entry, and whether there is one. -/
abbrev vp (x : Va) (b : Bool) : Value := .tuple #[.agg #[.int .i64 x.1, .int .i64 x.2], .bool b]
theorem rPop_none (h : Bk w J M r ⟨ws, [], b⟩) : Calls Tryd.prog 28 #[.pointer (some ⟨M, 0, none⟩)] w (Ba J M r (vp (0, 0) false) ⟨ws, [], b⟩ w) := by
  have FIN := Lib.hid (fun W (hg : w.grownBy W none) => (show ∃ J', (∀ q, q ∈ J' → q ∈ J ∨ w.heap.size ≤ q) ∧ Bk W J' M r ⟨ws, [], b⟩ ∧ Gr J w W from ⟨J, fun q hq => .inl hq, h.new hg, Gr.new hg⟩))
  obtain ⟨v, h, _⟩ := h
  obtain ⟨A, n, c, e, hn, _, _⟩ := h.li.shape
  obtain rfl : n = 0 := hn
  have c0 := h.c0
  have glt := h.lt
  subst e
  have G0 := Lib.hid (World.grownBy_alloc w (.cells #[.int .i64 0, .int .i64 0] 58) none)
  clear h
  go_enter Tryd.func28, Tryd.ntmps28
  go_wp2
  have GR := sk.grown_two (w.alloc (.cells #[.int .i64 0, .int .i64 0] 58)) w.heap.size (.int .i64 0) (.int .i64 0)
  refine bodyPost_ret (v := vp (0, 0) false) ?_ rfl ⟨rfl, ?_⟩
  · simp [results, Tryd.results28, go_sem, *]
  · first | exact FIN.out _ (li.grown_new G0.out GR (Nat.le_refl _)) | exact FIN.out _ G0.out
theorem rPop_yes {x : Va} (h : Bk w J M r ⟨ws, m ++ [x], b⟩) : Calls Tryd.prog 28 #[.pointer (some ⟨M, 0, none⟩)] w (Ba J M r (vp x true) ⟨ws, m, b⟩ w) := by
  obtain ⟨v, h, rfl⟩ := h
  obtain ⟨p, hp⟩ : ∃ p, m.length = p := ⟨_, rfl⟩
  have hle := h.fit
  have hhi := h.hi
  have hlen : (m ++ [x]).length = p + 1 := by simp [hp]
  dsimp only at hle
  rw [hlen] at hle
  have hli := h.li
  dsimp only at hli
  obtain ⟨q, c, rfl, d0, d1, lq, lc, lm⟩ : ∃ q c, v = .slice (some ⟨q, 0, none⟩) (p + 1) c ∧ w.cell? ⟨q, p * 2, none⟩ = some (.int .i64 x.1) ∧ w.cell? ⟨q, p * 2 + 1, none⟩ = some (.int .i64 x.2) ∧ q < w.heap.size ∧ p + 1 ≤ c ∧ c ≤ maxLen := by
    obtain ⟨A, N, k, rfl, hN, h1, h2⟩ := hli.shape
    rw [hlen] at hN
    subst hN
    obtain ⟨b1, o1, e, g1, g2⟩ := (hli.rv hlen.symm).at_ (i := p) (by omega)
    rcases hli.2 with ⟨e2, _⟩ | ⟨q, cap, cur, e2, _, hq, _⟩
    · injection e2 with e2 _ _
      subst e2
      cases e
    · injection e2 with e2 _ e3
      subst e2 e3
      injection e with e
      injection e with e4 e5 _
      subst e4 e5
      have hx : (m ++ [x]).getD p (0, 0) = x := by rw [← hp]; simp
      rw [hx, Nat.zero_add] at g1 g2
      exact ⟨q, k, rfl, g1, g2, (Array.getElem?_eq_some_iff.1 hq).1, h1, h2⟩
  have c0 := h.c0
  have z0 := h.free 2048
  have glt := h.lt
  have hgq : ¬ (M = q) := fun e => h.off (by rw [e]; rfl)
  have hqg : ¬ (q = M) := fun e => hgq e.symm
  have hmp : (m ++ [x]).take p = m := by rw [← hp]; simp
  have RV := Lib.hid (fun W (hg : w.grownBy W none) => (show rn.Rv W w.heap.size (some ⟨q, 0, none⟩) p c m from by
    have := (hli.rv hlen.symm).made hg
    have := this.less (k := p) (c' := c) (by omega) (by omega) lm
    rwa [hmp] at this))
  obtain ⟨x1, x2⟩ := x
  have FIN := Lib.hid (fun (W W2 : World) (v2 : Value) (hg : w.grownBy W none) (hl : rn.Lv W (w.heap.size + 1) v2 m) (gr : (W.setCell ⟨M, 2048, none⟩ v2).grownBy W2 (some w.heap.size)) => (show ∃ J', (∀ q', q' ∈ J' → q' ∈ js M (.slice (some ⟨q, 0, none⟩) (p + 1) c) ∨ w.heap.size ≤ q') ∧ Bk W2 J' M r ⟨ws, m, b⟩ ∧ Gr (js M (.slice (some ⟨q, 0, none⟩) (p + 1) c)) w W2 from by
    obtain ⟨p1, p2, p3⟩ := h.put_list (grown_any hg) (hl.mono (Nat.zero_le _)) (fun q' e => .inr (by have := hl.from_ q' e; omega)) (by omega)
    exact ⟨_, p2, ⟨v2, p1.gr (Gr.one (L := [w.heap.size]) gr (by simp)) (by have := h.lt; simp; omega) (fun q' e h2 => by have := hl.from_ q' e; simp at h2; omega), rfl⟩, sk.gr_aside p3 gr (Nat.le_refl _)⟩))
  have F0 := Lib.hid (fun W (hg : (w.alloc (.cells #[.int .i64 0, .int .i64 0] 58)).grownBy W none) => (Ep.new (Ep.made w 0 0) hg).f)
  dsimp only at d0 d1
  unfold maxLen at lm
  clear h hli hp hlen hmp
  have l1 : (0 : Int) ≤ (p : Int) := by omega
  have l2 : p < p + 1 := by omega
  go_enter Tryd.func28, Tryd.ntmps28
  go_wp2_with (refine rn.append_vas rfl (.tmp 23) (.tmp 30) rfl (w.heap.size + 1) _ [] rfl (rn.Lv.nil _ _) (some ⟨q, 0, none⟩) p c w.heap.size m rfl (fun e => by cases e) (RV.out _ ((World.grownBy_alloc _ _ _).trans (World.grownBy_alloc _ _ _))) (by simp; omega) (by simp) ?_; intro A3 N3 c3 w2 hn3 hl3 hg3; have L3 := Lib.hid hl3; have GB := World.grownBy_alloc (w.alloc (.cells #[.int .i64 0, .int .i64 0] 58)) (.cells #[.int .i64 x1, .int .i64 x2] 58) none; obtain ⟨a0, a1, a2, a3, a4⟩ := F0.out _ (GB.trans hg3); have e1 := Ep.new (Ep.made (w.alloc (.cells #[.int .i64 0, .int .i64 0] 58)) x1 x2) hg3; rw [show (w.alloc (.cells #[.int .i64 0, .int .i64 0] 58)).heap.size = w.heap.size + 1 by simp] at e1; obtain ⟨e0, e1, _, _, e4⟩ := e1.f; have G3 := Lib.hid (((World.grownBy_alloc w (.cells #[.int .i64 0, .int .i64 0] 58) none).trans GB).trans hg3); have c0 := G3.out.cell c0 (by simp); have z0 : w2.frozen? ⟨M, 2048, none⟩ = false := (G3.out.frozen_far ⟨M, 2048, none⟩ glt (by simp)).trans z0; have glt2 : M < w2.heap.size := Nat.lt_of_lt_of_le glt G3.out.size; clear hn3 hl3 hg3 GB)
  have n1 : ¬ (M = w.heap.size) := by omega
  have GR := sk.grown_two (w2.setCell ⟨M, 2048, none⟩ (.slice A3 N3 c3)) w.heap.size (.int .i64 x1) (.int .i64 x2)
  refine bodyPost_ret (v := vp (x1, x2) true) ?_ rfl ⟨rfl, ?_⟩
  · simp [results, Tryd.results28, go_sem, *]
  · exact FIN.out _ _ _ G3.out L3.out GR
theorem rPop_any (h : Bk w J M r s) : Calls Tryd.prog 28 #[.pointer (some ⟨M, 0, none⟩)] w (Ba J M r (vp (top s.m) (decide (s.m ≠ []))) s.pop w) := by
  obtain ⟨ws, m, b⟩ := s
  by_cases hm : m = []
  · subst hm
    exact rPop_none h
  · unfold Ps.pop
    dsimp only
    rw [decide_eq_true hm]
    exact rPop_yes (x := top m) (m := m.dropLast) (by rw [dropLast_top hm]; exact h)
end
end Go.Proofs.YtokjpibaaioehaaDoor.sh
