/- What a pile's push, pop and settle do. -/
import Derived.Test.YtokjpibaaioehaaDoorSkA
import Derived.BigRegion
namespace Go.Proofs.YtokjpibaaioehaaDoor.sk
open Go.ChangeShapes Go.WideShapes Go.ChangeAt Go.RowKit gen li en gr
set_option linter.unusedVariables false
set_option maxHeartbeats 4000000
set_option maxRecDepth 100000

theorem grown_step {a b c : World} {row : Option Nat} (h : b.grownBy c row) (gg : a.grownBy b none) : a.grownBy c row := li.grown_then gg h
/-- What is written on what was made on the way counts as nothing. -/
theorem gr_aside {L : List Nat} {a b c : World} {q : Nat} (h : Gr L a b) (k : b.grownBy c (some q)) (hq : a.heap.size ≤ q) : Gr L a c :=
  h.own (M := [q]) (Gr.one k (by simp)) (fun i hi => by simp at hi; subst hi; exact .inr hq)
/-- An entry appended to a list of one's own, at a step of a region that draws its order. -/
theorem step_append_en {w : World} {ops : Array Oper} {o : Oper} {a : Act} {K : Act → World → Prop} {Q : Exit → Act → World → Prop} {E : Prop} (hgd : o.guard = none) (s x : Operand) (ho : o.op = .call { callee := .builtin .append, args := #[s, x], argTypes := #[67, 67] })
    (base : Nat) (v : Value) (m : List Va) (hs : a.eval s = v) (hown : Lv w base v m) (b : Nat) (z1 z2 : Int) (hx : a.eval x = .slice (some ⟨b, 0, none⟩) 1 1)
    (hz1' : w.cell? ⟨b, 0, none⟩ = some (.int .i64 z1)) (hz2' : w.cell? ⟨b, 1, none⟩ = some (.int .i64 z2)) (hm : m.length ≤ 1048576) (hbase : base ≤ w.heap.size)
    (h : ∀ g N' c' w', N' = (m ++ [(z1, z2)]).length → Lv w' base (.slice (some ⟨g, 0, none⟩) N' c') (m ++ [(z1, z2)]) → w.grownBy w' v.ownBlock → (v.ownBlock = some g ∨ w.heap.size ≤ g) → K (a.put o.dst (.slice (some ⟨g, 0, none⟩) N' c')) w') :
    if Region.wanted o (yielded ops a.tmps) = true then Oper.wp Tryd.prog o a w K Q else E := by
  obtain ⟨i0, hi, hz0, hz1, hz2⟩ := info_parts info_va
  refine step_append_lies w hgd s x 67 ho base 43 i0 (.agg #[.int .i64 0, .int .i64 0]) 2 16 Tryd.underlying67 hi hz0 hz1 hz2 rfl (by omega) v m.length (vc m) hs hown ⟨b, 0, none⟩ 1 1 [.int .i64 z1, .int .i64 z2] hx rfl
    (fun j u hj => ?_) (fun u hu => by simp at hu; rcases hu with rfl | rfl <;> rfl) (by omega) (by unfold maxLen; omega) (by omega) hbase _ rfl (fun g c' w' h1 h2 h3 h4 => ?_)
  · match j, hj with
    | 0, hj => simp at hj; subst hj; simpa [Addr.add] using hz1'
    | 1, hj => simp at hj; subst hj; simpa [Addr.add] using hz2'
  · refine h g (m.length + 1) c' w' (by simp) ?_ h2 (h3.elim .inl (fun e => .inr (Nat.le_of_eq e.symm)))
    unfold Lv
    rw [vc_add, List.length_append]
    exact h1
section
variable {w w' W : World} {g r : Nat} {b : Bool} {v : Value} {m : List Va} {K L : List Nat}
/-! ### push -/
/-- What is left by a call that took it. -/
def PushA (K : List Nat) (g r : Nat) (b : Bool) (m : List Va) (w : World) (e : Ending) (w' : World) : Prop := e = .returned (.bool true) ∧ ∃ K', (∀ q, q ∈ K' → q ∈ K ∨ w.heap.size ≤ q) ∧ Sk w' K' g r b m ∧ Gr K w w'
theorem Ob.far (h : Ob w g r b v m) (hg : w.grownBy W v.ownBlock) : W.cell? ⟨g, 2, none⟩ = some v ∧ W.frozen? ⟨g, 2, none⟩ = false ∧ g < W.heap.size :=
  ⟨hg.cell h.c2 (Ne.symm h.off), (hg.frozen_far ⟨g, 2, none⟩ h.lt (Ne.symm h.off)).trans (h.free 2), Nat.lt_of_lt_of_le h.lt hg.size⟩
theorem set_ob {x y : Nat} {b b2 : Bool} {v v2 : Value} (h : w.heap[g]? = some (.cells #[.int .i64 x, .bool b, v] 71 (0, 0))) : (w.setCell ⟨g, 2, none⟩ v2).heap[g]? = some (.cells #[.int .i64 x, .bool b, v2] 71 (0, 0)) := by
  have := heap_setCell_same w g 2 _ _ v2 h
  exact this
theorem set_ob1 {x : Nat} {b b2 : Bool} {v : Value} (h : w.heap[g]? = some (.cells #[.int .i64 x, .bool b, v] 71 (0, 0))) : (w.setCell ⟨g, 1, none⟩ (.bool b2)).heap[g]? = some (.cells #[.int .i64 x, .bool b2, v] 71 (0, 0)) := by
  have := heap_setCell_same w g 1 _ _ (.bool b2) h
  exact this
/-- Another list in its place. -/
theorem Ob.put (h : Ob w g r b v m) (hg : w.grownBy W v.ownBlock) {v2 : Value} {m2 : List Va} (hl : Lv W 0 v2 m2) (hv : ∀ q, v2.ownBlock = some q → v.ownBlock = some q ∨ w.heap.size ≤ q) (hm : m2.length ≤ r) :
    Ob (W.setCell ⟨g, 2, none⟩ v2) g r b v2 m2 ∧ (∀ q, q ∈ ks g v2 → q ∈ ks g v ∨ w.heap.size ≤ q) ∧ Gr (ks g v) w (W.setCell ⟨g, 2, none⟩ v2) := by
  have G := grown_set W g 2 v2
  have hb := (hg.block g h.lt (Ne.symm h.off)).trans h.ob
  refine ⟨⟨set_ob (b2 := b) (y := 0) hb, hl.kept G (.inr (hl.off hb (fun cs z => by simp))), h.hi, hm⟩, fun q hq => ?_, (Gr.of hg (fun q e => ks_of.2 (.inr e))).trans (Gr.one G (ks_of.2 (.inl rfl)))⟩
  rcases ks_of.1 hq with rfl | e
  · exact .inl (ks_of.2 (.inl rfl))
  · exact (hv q e).imp (fun e => ks_of.2 (.inr e)) id
theorem push_yes (h : Sk w K g r b m) (hm : m.length < r) (x1 x2 : Int) :
    Calls Tryd.prog 59 #[.pointer (some ⟨g, 0, none⟩), .agg #[.int .i64 x1, .int .i64 x2]] w (PushA K g r b (m ++ [(x1, x2)]) w) := by
  obtain ⟨v, h, rfl⟩ := h
  obtain ⟨A, n, c, e, hn, _, _⟩ := h.li.shape
  have c0 := h.c0
  have c2 := h.c2
  have hi := h.hi
  have FR := Lib.hid (fun W (hg : w.grownBy W v.ownBlock) => h.far hg)
  have OWN := Lib.hid (fun W (hg : w.grownBy W none) => h.li.new hg)
  have GS := Lib.hid (fun X W (gr : World.grownBy X W v.ownBlock) (gg : w.grownBy X none) => li.grown_then gg gr)
  have GL := Lib.hid (fun (X : World) (q : Nat) (li : v.ownBlock = some q ∨ X.heap.size ≤ q) (gg : w.grownBy X none) => (show v.ownBlock = some q ∨ w.heap.size ≤ q from li.elim .inl (fun h => .inr (Nat.le_trans gg.size h))))
  have HP := Lib.hid (fun W v2 (hl : Lv W 0 v2 (m ++ [(x1, x2)])) (hg : w.grownBy W v.ownBlock) hv => h.put hg hl hv (by simp; omega))
  have glt := h.lt
  subst e
  have HN := Lib.hid hn
  have HM := Lib.hid hm
  rw [← hn] at hm
  clear h hn
  go_enter Tryd.func59, Tryd.ntmps59
  go_wp2
  go_quiet (fail)
  go_wp2
  go_region_law
    ((refine step_append_en (by rfl) (.tmp 19) (.tmp 21) (by rfl) 0 (.slice A n c) m (by rfl) (OWN.out _ (by first | exact (World.grownBy_alloc _ _ _).trans (World.grownBy_alloc _ _ _) | exact (World.grownBy_alloc _ _ _).trans ((grown_drew _ _).trans (World.grownBy_alloc _ _ _)) | exact (World.grownBy_alloc _ _ _).trans ((li.grown_drewN _ _ _).trans (World.grownBy_alloc _ _ _)))) _ x1 x2 (by rfl) (by go_simp) (by go_simp) (by have := HN.out; have := HM.out; omega) (Nat.zero_le _) ?_; intro g3 N3 c3 w1 hn3 own1 gr1 li1; have G1 := Lib.hid (GS.out _ _ gr1 (by first | exact (World.grownBy_alloc _ _ _).trans (World.grownBy_alloc _ _ _) | exact (World.grownBy_alloc _ _ _).trans ((grown_drew _ _).trans (World.grownBy_alloc _ _ _)) | exact (World.grownBy_alloc _ _ _).trans ((li.grown_drewN _ _ _).trans (World.grownBy_alloc _ _ _)))); have HN3 := Lib.hid hn3; have O1 := Lib.hid own1; have L1 := Lib.hid (GL.out _ _ li1 (by first | exact (World.grownBy_alloc _ _ _).trans (World.grownBy_alloc _ _ _) | exact (World.grownBy_alloc _ _ _).trans ((grown_drew _ _).trans (World.grownBy_alloc _ _ _)) | exact (World.grownBy_alloc _ _ _).trans ((li.grown_drewN _ _ _).trans (World.grownBy_alloc _ _ _)))); obtain ⟨b0, b1, b2⟩ := FR.out _ G1.out; clear hn3 own1 gr1 li1))
  all_goals go_wp2
  all_goals go_ret
  all_goals
    obtain ⟨p1, p2, p3⟩ := HP.out w1 (.slice (some ⟨g3, 0, none⟩) N3 c3) (by rw [HN3.out] at *; exact O1.out) G1.out (fun q e => by injection e with e; subst e; exact L1.out)
    exact ⟨rfl, _, p2, ⟨_, p1, rfl⟩, p3⟩
theorem push_no (h : Sk w K g r b m) (hm : m.length = r) (x1 x2 : Int) :
    Calls Tryd.prog 59 #[.pointer (some ⟨g, 0, none⟩), .agg #[.int .i64 x1, .int .i64 x2]] w fun e w' => e = .returned (.bool false) ∧ Sk w' K g r (decide (0 < r)) m ∧ Gr K w w' := by
  have G0 := Lib.hid (World.grownBy_alloc w (.cells #[.int .i64 x1, .int .i64 x2] 43) none)
  have MD := Lib.hid (fun W (hg : w.grownBy W none) => made_any (h.new hg))
  have HS := Lib.hid (fun (W : World) (hg : w.grownBy W none) => (show Sk (W.setCell ⟨g, 1, none⟩ (.bool (decide (0 < r)))) K g r (decide (0 < r)) m ∧ Gr K w (W.setCell ⟨g, 1, none⟩ (.bool (decide (0 < r)))) from by
    obtain ⟨v, h, rfl⟩ := h
    have h1 := h.new hg
    have G := grown_set W g 1 (.bool (decide (0 < r)))
    exact ⟨⟨v, ⟨set_ob1 h1.ob, h1.li.kept G (.inr h1.off), h1.hi, h1.fit⟩, rfl⟩, (Gr.new hg).trans (Gr.one G (ks_of.2 (.inl rfl)))⟩))
  have hi := h.hi
  obtain ⟨v, h, _⟩ := h
  obtain ⟨A, n, c, e, hn, _, _⟩ := h.li.shape
  have FR := Lib.hid (fun W (hg : w.grownBy W none) => (⟨(h.new hg).c1, (h.new hg).free 1, (h.new hg).lt⟩ : _ ∧ _ ∧ _))
  have c0 := h.c0
  have c2 := h.c2
  have glt := h.lt
  subst e
  have hnr : ¬ n < r := by omega
  clear h hn hm
  obtain ⟨z, hz⟩ : ∃ z, z = decide (0 < r) := ⟨_, rfl⟩
  rw [← hz] at MD HS
  rw [← hz]
  clear hz
  go_enter Tryd.func59, Tryd.ntmps59
  go_wp2
  go_quiet (fail)
  go_wp2_with (go_at_call 56; (with_reducible refine (MD.out _ (by first | exact G0.out | exact G0.out.trans (grown_drew _ _) | exact G0.out.trans (li.grown_drewN _ _ _))).mono ?_); rintro e w' ⟨rfl, hw⟩; subst hw; obtain ⟨f0, f1, f2⟩ := FR.out _ (show w.grownBy _ none from by first | exact G0.out | exact G0.out.trans (grown_drew _ _) | exact G0.out.trans (li.grown_drewN _ _ _)))
  go_ret
  exact ⟨rfl, HS.out _ (G0.out.trans (li.grown_drewN _ _ _))⟩
end
end Go.Proofs.YtokjpibaaioehaaDoor.sk
