/- Texts that this claim stands on. -/
import Derived.Lib.SliceRun
import Derived.RegionTactic
import Derived.Deep.RegionLaw
import Derived.Deep.AppendLies
import Derived.Deep.RegionHeld3
import Derived.Deep.RegionHeldLaw
import Derived.BigRegion
import Derived.Test.YtkgdcgmbapchcaaGreatDoorQEnA
import Derived.Test.YtkgdcgmbapchcaaGreatDoorQGrA
namespace Go.Proofs.YtkgdcgmbapchcaaGreatDoor.sk
open Go.ChangeShapes Go.WideShapes Go.ChangeAt Go.RowKit gen li en gr
set_option linter.unusedVariables false
set_option maxHeartbeats 4000000
set_option maxRecDepth 100000
abbrev nl : Value := .slice none 0 0
structure Ob (w : World) (g r : Nat) (b : Bool) (v : Value) (m : List Va) : Prop where
  ob : w.heap[g]? = some (.cells #[.int .i64 r, .bool b, v] 226 (0, 0))
  li : Lv w 0 v m
  hi : r ≤ 256
  fit : m.length ≤ r
def ks (g : Nat) (v : Value) : List Nat := g :: v.ownBlock.toList
theorem ks_of {g q : Nat} {v : Value} : q ∈ ks g v ↔ q = g ∨ v.ownBlock = some q := by
  unfold ks
  rw [List.mem_cons]
  cases v.ownBlock <;> simp [eq_comm]
def Sk (w : World) (K : List Nat) (g r : Nat) (b : Bool) (m : List Va) : Prop := ∃ v, Ob w g r b v m ∧ K = ks g v
section
variable {w w' : World} {g r : Nat} {b : Bool} {v : Value} {m : List Va} {K L : List Nat}
theorem Ob.lt (h : Ob w g r b v m) : g < w.heap.size := (Array.getElem?_eq_some_iff.1 h.ob).1
theorem Ob.c0 (h : Ob w g r b v m) : w.cell? ⟨g, 0, none⟩ = some (.int .i64 r) := by rw [cell_of_row w g 0 _ _ _ h.ob]; rfl
theorem Ob.c1 (h : Ob w g r b v m) : w.cell? ⟨g, 1, none⟩ = some (.bool b) := by rw [cell_of_row w g 1 _ _ _ h.ob]; rfl
theorem Ob.c2 (h : Ob w g r b v m) : w.cell? ⟨g, 2, none⟩ = some v := by rw [cell_of_row w g 2 _ _ _ h.ob]; rfl
theorem Ob.free (h : Ob w g r b v m) (k : Nat) : w.frozen? ⟨g, k, none⟩ = false := frozen_of_row w g k _ _ h.ob
theorem Ob.off (h : Ob w g r b v m) : v.ownBlock ≠ some g := h.li.off h.ob (fun cs z => by simp)
theorem Ob.gr (h : Ob w g r b v m) (hg : Gr L w w') (h1 : g ∉ L) (h2 : ∀ q, v.ownBlock = some q → q ∉ L) : Ob w' g r b v m :=
  ⟨hg.heap h.ob h1, own_gr_any h.li hg h2, h.hi, h.fit⟩
theorem Ob.new (h : Ob w g r b v m) (hg : w.grownBy w' none) : Ob w' g r b v m := h.gr (Gr.new (L := []) hg) (by simp) (by simp)
theorem Sk.gr (h : Sk w K g r b m) (hg : Gr L w w') (hL : ∀ q, q ∈ K → q ∉ L) : Sk w' K g r b m := by
  obtain ⟨v, h, rfl⟩ := h
  exact ⟨v, h.gr hg (hL g (ks_of.2 (.inl rfl))) (fun q e => hL q (ks_of.2 (.inr e))), rfl⟩
theorem Sk.new (h : Sk w K g r b m) (hg : w.grownBy w' none) : Sk w' K g r b m := h.gr (Gr.new (L := []) hg) (by simp)
theorem Sk.lt (h : Sk w K g r b m) : ∀ q, q ∈ K → q < w.heap.size := fun q hq => by
  obtain ⟨v, h, rfl⟩ := h
  rcases ks_of.1 hq with rfl | e
  · exact h.lt
  · exact h.li.lt q e
theorem Sk.hi (h : Sk w K g r b m) : r ≤ 256 := by obtain ⟨v, h, rfl⟩ := h; exact h.hi
theorem Sk.fit (h : Sk w K g r b m) : m.length ≤ r := by obtain ⟨v, h, rfl⟩ := h; exact h.fit
theorem Sk.le (h : Sk w K g r b m) : m.length ≤ 256 := Nat.le_trans h.fit h.hi
theorem Sk.off (h : Sk w K g r b m) {B : Nat} {cs : Array Value} {t : TypeId} {z : Nat × Nat} (hb : w.heap[B]? = some (.cells cs t z)) (h1 : t ≠ 226) (h2 : t ≠ 157) : B ∉ K := fun hB => by
  obtain ⟨v, h, rfl⟩ := h
  rcases ks_of.1 hB with rfl | e
  · exact ty_ne hb h.ob h1 rfl
  · exact h.li.off hb (fun cs z e => by injection e with _ e _; exact h2 e) e
end
theorem there_any (g : Nat) (w : World) : Calls Tryz.prog 285 #[.pointer (some ⟨g, 0, none⟩)] w fun e w' => e = .returned (.pointer (some ⟨g, 0, none⟩)) ∧ w = w' := by
  go_enter Tryz.func285, Tryz.ntmps285
  go_wp2
  go_ret
  exact ⟨rfl, rfl⟩
section
variable {w w' : World} {g r : Nat} {b : Bool} {v : Value} {m : List Va} {K L : List Nat}
theorem made_any (h : Sk w K g r b m) : Calls Tryz.prog 314 #[.pointer (some ⟨g, 0, none⟩)] w fun e w' => e = .returned (.bool (decide (0 < r))) ∧ w = w' := by
  obtain ⟨v, h, _⟩ := h
  have c0 := h.c0
  have l1 := h.hi
  clear h
  by_cases h0 : 0 < r
  all_goals
    go_enter Tryz.func314, Tryz.ntmps314
    go_wp2
    go_ret
    exact ⟨by simp [h0], rfl⟩
theorem count_any (h : Sk w K g r b m) : Calls Tryz.prog 326 #[.pointer (some ⟨g, 0, none⟩)] w fun e w' => e = .returned (.int .i64 m.length) ∧ w = w' := by
  have l1 := h.le
  obtain ⟨v, h, _⟩ := h
  obtain ⟨A, N, c, rfl, hN, _, _⟩ := h.li.shape
  have c2 := h.c2
  rw [← hN] at l1 ⊢
  clear h hN
  go_enter Tryz.func326, Tryz.ntmps326
  go_wp2
  go_ret
  exact ⟨rfl, rfl⟩
theorem over_any (h : Sk w K g r b m) : Calls Tryz.prog 327 #[.pointer (some ⟨g, 0, none⟩)] w fun e w' => e = .returned (.bool b) ∧ w = w' := by
  obtain ⟨v, h, _⟩ := h
  have c1 := h.c1
  clear h
  go_enter Tryz.func327, Tryz.ntmps327
  go_wp2
  go_ret
  exact ⟨rfl, rfl⟩
end
end Go.Proofs.YtkgdcgmbapchcaaGreatDoor.sk
namespace Go.Proofs.YtkgdcgmbapchcaaGreatDoor.sk
open Go.ChangeShapes Go.WideShapes Go.ChangeAt Go.RowKit gen li en gr
set_option linter.unusedVariables false
set_option maxHeartbeats 4000000
set_option maxRecDepth 100000
theorem gr_aside {L : List Nat} {a b c : World} {q : Nat} (h : Gr L a b) (k : b.grownBy c (some q)) (hq : a.heap.size ≤ q) : Gr L a c :=
  h.own (M := [q]) (Gr.one k (by simp)) (fun i hi => by simp at hi; subst hi; exact .inr hq)
theorem step_append_en {w : World} {ops : Array Oper} {o : Oper} {a : Act} {K : Act → World → Prop} {Q : Exit → Act → World → Prop} {E : Prop} (hgd : o.guard = none) (s x : Operand) (ho : o.op = .call { callee := .builtin .append, args := #[s, x], argTypes := #[222, 222] })
    (base : Nat) (v : Value) (m : List Va) (hs : a.eval s = v) (hown : Lv w base v m) (b : Nat) (z1 z2 : Int) (hx : a.eval x = .slice (some ⟨b, 0, none⟩) 1 1)
    (hz1' : w.cell? ⟨b, 0, none⟩ = some (.int .i64 z1)) (hz2' : w.cell? ⟨b, 1, none⟩ = some (.int .i64 z2)) (hm : m.length ≤ 1048576) (hbase : base ≤ w.heap.size)
    (h : ∀ g N' c' w', N' = (m ++ [(z1, z2)]).length → Lv w' base (.slice (some ⟨g, 0, none⟩) N' c') (m ++ [(z1, z2)]) → w.grownBy w' v.ownBlock → (v.ownBlock = some g ∨ w.heap.size ≤ g) → K (a.put o.dst (.slice (some ⟨g, 0, none⟩) N' c')) w') :
    if Region.wanted o (yielded ops a.tmps) = true then Oper.wp Tryz.prog o a w K Q else E := by
  obtain ⟨i0, hi, hz0, hz1, hz2⟩ := info_parts info_va
  refine step_append_lies w hgd s x 222 ho base 157 i0 (.agg #[.int .i64 0, .int .i64 0]) 2 16 Tryz.underlying222 hi hz0 hz1 hz2 rfl (by omega) v m.length (vc m) hs hown ⟨b, 0, none⟩ 1 1 [.int .i64 z1, .int .i64 z2] hx rfl
    (fun j u hj => ?_) (fun u hu => by simp at hu; rcases hu with rfl | rfl <;> rfl) (by omega) (by unfold maxLen; omega) (by omega) hbase _ rfl (fun g c' w' h1 h2 h3 h4 => ?_)
  · match j, hj with
    | 0, hj => simp at hj; subst hj; simpa [Addr.add] using hz1'
    | 1, hj => simp at hj; subst hj; simpa [Addr.add] using hz2'
  · refine h g (m.length + 1) c' w' (by simp) ?_ h2 (h3.elim .inl (fun e => .inr (Nat.le_of_eq e.symm)))
    unfold Lv
    rw [vc_add, List.length_append]
    exact h1
section
variable {w w' W : World} {g r : Nat} {b : Bool} {v : Value} {m : List Va} {K L : List Nat}
def PushA (K : List Nat) (g r : Nat) (b : Bool) (m : List Va) (w : World) (e : Ending) (w' : World) : Prop := e = .returned (.bool true) ∧ ∃ K', (∀ q, q ∈ K' → q ∈ K ∨ w.heap.size ≤ q) ∧ Sk w' K' g r b m ∧ Gr K w w'
theorem Ob.far (h : Ob w g r b v m) (hg : w.grownBy W v.ownBlock) : W.cell? ⟨g, 2, none⟩ = some v ∧ W.frozen? ⟨g, 2, none⟩ = false ∧ g < W.heap.size :=
  ⟨hg.cell h.c2 (Ne.symm h.off), (hg.frozen_far ⟨g, 2, none⟩ h.lt (Ne.symm h.off)).trans (h.free 2), Nat.lt_of_lt_of_le h.lt hg.size⟩
theorem set_ob {x y : Nat} {b b2 : Bool} {v v2 : Value} (h : w.heap[g]? = some (.cells #[.int .i64 x, .bool b, v] 226 (0, 0))) : (w.setCell ⟨g, 2, none⟩ v2).heap[g]? = some (.cells #[.int .i64 x, .bool b, v2] 226 (0, 0)) := by
  have := heap_setCell_same w g 2 _ _ v2 h
  exact this
theorem set_ob1 {x : Nat} {b b2 : Bool} {v : Value} (h : w.heap[g]? = some (.cells #[.int .i64 x, .bool b, v] 226 (0, 0))) : (w.setCell ⟨g, 1, none⟩ (.bool b2)).heap[g]? = some (.cells #[.int .i64 x, .bool b2, v] 226 (0, 0)) := by
  have := heap_setCell_same w g 1 _ _ (.bool b2) h
  exact this
theorem Ob.put (h : Ob w g r b v m) (hg : w.grownBy W v.ownBlock) {v2 : Value} {m2 : List Va} (hl : Lv W 0 v2 m2) (hv : ∀ q, v2.ownBlock = some q → v.ownBlock = some q ∨ w.heap.size ≤ q) (hm : m2.length ≤ r) :
    Ob (W.setCell ⟨g, 2, none⟩ v2) g r b v2 m2 ∧ (∀ q, q ∈ ks g v2 → q ∈ ks g v ∨ w.heap.size ≤ q) ∧ Gr (ks g v) w (W.setCell ⟨g, 2, none⟩ v2) := by
  have G := grown_set W g 2 v2
  have hb := (hg.block g h.lt (Ne.symm h.off)).trans h.ob
  refine ⟨⟨set_ob (b2 := b) (y := 0) hb, hl.kept G (.inr (hl.off hb (fun cs z => by simp))), h.hi, hm⟩, fun q hq => ?_, (Gr.of hg (fun q e => ks_of.2 (.inr e))).trans (Gr.one G (ks_of.2 (.inl rfl)))⟩
  rcases ks_of.1 hq with rfl | e
  · exact .inl (ks_of.2 (.inl rfl))
  · exact (hv q e).imp (fun e => ks_of.2 (.inr e)) id
theorem push_yes (h : Sk w K g r b m) (hm : m.length < r) (x1 x2 : Int) :
    Calls Tryz.prog 286 #[.pointer (some ⟨g, 0, none⟩), .agg #[.int .i64 x1, .int .i64 x2]] w (PushA K g r b (m ++ [(x1, x2)]) w) := by
  obtain ⟨v, h, rfl⟩ := h
  obtain ⟨A, n, c, e, hn, _, _⟩ := h.li.shape
  have c0 := h.c0
  have c2 := h.c2
  have hi := h.hi
  have FR := Lib.hid (fun W (hg : w.grownBy W v.ownBlock) => h.far hg)
  have OWN := Lib.hid (fun W (hg : w.grownBy W none) => h.li.new hg)
  have GS := Lib.hid (fun X W (gr : World.grownBy X W v.ownBlock) (gg : w.grownBy X none) => li.grown_then gg gr)
  have GL := Lib.hid (fun (X : World) (q : Nat) (li : v.ownBlock = some q ∨ X.heap.size ≤ q) (gg : w.grownBy X none) => (show v.ownBlock = some q ∨ w.heap.size ≤ q from li.elim .inl (fun h => .inr (Nat.le_trans gg.size h))))
  have HP := Lib.hid (fun W v2 (hl : Lv W 0 v2 (m ++ [(x1, x2)])) (hg : w.grownBy W v.ownBlock) hv => h.put hg hl hv (by simp; omega))
  have glt := h.lt
  subst e
  have HN := Lib.hid hn
  have HM := Lib.hid hm
  rw [← hn] at hm
  clear h hn
  go_enter Tryz.func286, Tryz.ntmps286
  go_wp2
  go_quiet (fail)
  go_wp2
  go_region_law
    ((refine step_append_en (by rfl) (.tmp 19) (.tmp 21) (by rfl) 0 (.slice A n c) m (by rfl) (OWN.out _ (by first | exact (World.grownBy_alloc _ _ _).trans (World.grownBy_alloc _ _ _) | exact (World.grownBy_alloc _ _ _).trans ((grown_drew _ _).trans (World.grownBy_alloc _ _ _)) | exact (World.grownBy_alloc _ _ _).trans ((li.grown_drewN _ _ _).trans (World.grownBy_alloc _ _ _)))) _ x1 x2 (by rfl) (by go_simp) (by go_simp) (by have := HN.out; have := HM.out; omega) (Nat.zero_le _) ?_; intro g3 N3 c3 w1 hn3 own1 gr1 li1; have G1 := Lib.hid (GS.out _ _ gr1 (by first | exact (World.grownBy_alloc _ _ _).trans (World.grownBy_alloc _ _ _) | exact (World.grownBy_alloc _ _ _).trans ((grown_drew _ _).trans (World.grownBy_alloc _ _ _)) | exact (World.grownBy_alloc _ _ _).trans ((li.grown_drewN _ _ _).trans (World.grownBy_alloc _ _ _)))); have HN3 := Lib.hid hn3; have O1 := Lib.hid own1; have L1 := Lib.hid (GL.out _ _ li1 (by first | exact (World.grownBy_alloc _ _ _).trans (World.grownBy_alloc _ _ _) | exact (World.grownBy_alloc _ _ _).trans ((grown_drew _ _).trans (World.grownBy_alloc _ _ _)) | exact (World.grownBy_alloc _ _ _).trans ((li.grown_drewN _ _ _).trans (World.grownBy_alloc _ _ _)))); obtain ⟨b0, b1, b2⟩ := FR.out _ G1.out; clear hn3 own1 gr1 li1))
  all_goals go_wp2
  all_goals go_ret
  all_goals
    obtain ⟨p1, p2, p3⟩ := HP.out w1 (.slice (some ⟨g3, 0, none⟩) N3 c3) (by rw [HN3.out] at *; exact O1.out) G1.out (fun q e => by injection e with e; subst e; exact L1.out)
    exact ⟨rfl, _, p2, ⟨_, p1, rfl⟩, p3⟩
theorem push_no (h : Sk w K g r b m) (hm : m.length = r) (x1 x2 : Int) :
    Calls Tryz.prog 286 #[.pointer (some ⟨g, 0, none⟩), .agg #[.int .i64 x1, .int .i64 x2]] w fun e w' => e = .returned (.bool false) ∧ Sk w' K g r (decide (0 < r)) m ∧ Gr K w w' := by
  have G0 := Lib.hid (World.grownBy_alloc w (.cells #[.int .i64 x1, .int .i64 x2] 157) none)
  have MD := Lib.hid (fun W (hg : w.grownBy W none) => made_any (h.new hg))
  have HS := Lib.hid (fun (W : World) (hg : w.grownBy W none) => (show Sk (W.setCell ⟨g, 1, none⟩ (.bool (decide (0 < r)))) K g r (decide (0 < r)) m ∧ Gr K w (W.setCell ⟨g, 1, none⟩ (.bool (decide (0 < r)))) from by
    obtain ⟨v, h, rfl⟩ := h
    have h1 := h.new hg
    have G := grown_set W g 1 (.bool (decide (0 < r)))
    exact ⟨⟨v, ⟨set_ob1 h1.ob, h1.li.kept G (.inr h1.off), h1.hi, h1.fit⟩, rfl⟩, (Gr.new hg).trans (Gr.one G (ks_of.2 (.inl rfl)))⟩))
  have hi := h.hi
  obtain ⟨v, h, _⟩ := h
  obtain ⟨A, n, c, e, hn, _, _⟩ := h.li.shape
  have FR := Lib.hid (fun W (hg : w.grownBy W none) => (⟨(h.new hg).c1, (h.new hg).free 1, (h.new hg).lt⟩ : _ ∧ _ ∧ _))
  have c0 := h.c0
  have c2 := h.c2
  have glt := h.lt
  subst e
  have hnr : ¬ n < r := by omega
  clear h hn hm
  obtain ⟨z, hz⟩ : ∃ z, z = decide (0 < r) := ⟨_, rfl⟩
  rw [← hz] at MD HS
  rw [← hz]
  clear hz
  go_enter Tryz.func286, Tryz.ntmps286
  go_wp2
  go_quiet (fail)
  go_wp2_with (go_at_call 314; (with_reducible refine (MD.out _ (by first | exact G0.out | exact G0.out.trans (grown_drew _ _) | exact G0.out.trans (li.grown_drewN _ _ _))).mono ?_); rintro e w' ⟨rfl, hw⟩; subst hw; obtain ⟨f0, f1, f2⟩ := FR.out _ (show w.grownBy _ none from by first | exact G0.out | exact G0.out.trans (grown_drew _ _) | exact G0.out.trans (li.grown_drewN _ _ _)))
  go_ret
  exact ⟨rfl, HS.out _ (G0.out.trans (li.grown_drewN _ _ _))⟩
end
end Go.Proofs.YtkgdcgmbapchcaaGreatDoor.sk
namespace Go.Proofs.YtkgdcgmbapchcaaGreatDoor.sk
open Go.ChangeShapes Go.WideShapes Go.ChangeAt Go.RowKit gen li en gr
set_option linter.unusedVariables false
set_option maxHeartbeats 4000000
set_option maxRecDepth 100000
abbrev vb (x : Va) (b : Bool) : Ending := .returned (.tuple #[.agg #[.int .i64 x.1, .int .i64 x.2], .bool b])
section
variable {w w' W : World} {g r : Nat} {b : Bool} {v : Value} {m : List Va} {K L : List Nat}
theorem settle_any (h : Sk w K g r b m) : Calls Tryz.prog 291 #[.pointer (some ⟨g, 0, none⟩)] w fun e w' => e = .returned (.bool b) ∧ Sk w' K g r false m ∧ Gr K w w' := by
  obtain ⟨v, h, rfl⟩ := h
  have HS := Lib.hid (show Sk (w.setCell ⟨g, 1, none⟩ (.bool false)) (ks g v) g r false m ∧ Gr (ks g v) w (w.setCell ⟨g, 1, none⟩ (.bool false)) from by
    have G := grown_set w g 1 (.bool false)
    exact ⟨⟨v, ⟨set_ob1 h.ob, h.li.kept G (.inr h.off), h.hi, h.fit⟩, rfl⟩, Gr.one G (ks_of.2 (.inl rfl))⟩)
  have c1 := h.c1
  have z1 := h.free 1
  have glt := h.lt
  clear h
  go_enter Tryz.func291, Tryz.ntmps291
  go_wp2
  go_ret
  exact ⟨rfl, HS.out⟩
theorem pop_none (h : Sk w K g r b []) : Calls Tryz.prog 290 #[.pointer (some ⟨g, 0, none⟩)] w fun e w' => e = vb (0, 0) false ∧ w.grownBy w' none := by
  obtain ⟨v, h, _⟩ := h
  obtain ⟨A, n, c, e, hn, _, _⟩ := h.li.shape
  obtain rfl : n = 0 := hn
  have c2 := h.c2
  have glt := h.lt
  subst e
  have G0 := Lib.hid ((World.grownBy_alloc w (.cells #[.int .i64 0, .int .i64 0] 157) none).trans (World.grownBy_alloc _ (.cells #[.int .i64 0, .int .i64 0] 157) none))
  clear h
  go_enter Tryz.func290, Tryz.ntmps290
  go_wp2
  refine bodyPost_ret (v := .tuple #[.agg #[.int .i64 0, .int .i64 0], .bool false]) ?_ rfl ⟨rfl, ?_⟩
  · simp [results, Tryz.results290, go_sem, *]
  · exact G0.out
theorem Lv.popd {base : Nat} {q p c : Nat} {x : Va} (h : Lv w base (.slice (some ⟨q, 0, none⟩) (p + 1) c) (m ++ [x])) (hp : m.length = p) :
    Lv ((w.setCell ⟨q, p * 2, none⟩ (.int .i64 0)).setCell ⟨q, p * 2 + 1, none⟩ (.int .i64 0)) base (.slice (some ⟨q, 0, none⟩) p c) m := by
  subst hp
  refine ⟨by rw [vc_length]; omega, ?_⟩
  rcases h.2 with ⟨e, _⟩ | ⟨g, cap, cur, e, hb, hg, h1, h2, h3, h4⟩
  · cases e
  · injection e with e1 e2 e3
    injection e1 with e1
    injection e1 with e1 _ _
    subst e1 e3
    have s1 := heap_setCell_same w q (m.length * 2) _ _ (.int .i64 0) hg
    have s2 := heap_setCell_same _ q (m.length * 2 + 1) _ _ (.int .i64 0) s1
    refine .inr ⟨q, c, _, rfl, hb, s2, by rw [List.length_append] at h1; simp at h1; omega, h2, by simpa using h3, ?_⟩
    have h5 := congrArg (List.take (m.length * 2)) h4
    rw [vc_append, List.take_take, List.take_append_of_le_length (by rw [vc_length]; omega), List.take_of_length_le (l := vc m) (by rw [vc_length]; omega)] at h5
    rw [← h5, show min (m.length * 2) ((m ++ [x]).length * 2) = m.length * 2 by rw [List.length_append]; omega]
    simp only [Array.toList_setIfInBounds]
    rw [List.take_set_of_le (by omega), List.take_set_of_le (by omega)]
theorem pop_yes {x : Va} (h : Sk w K g r b (m ++ [x])) : Calls Tryz.prog 290 #[.pointer (some ⟨g, 0, none⟩)] w fun e w' => e = vb x true ∧ Sk w' K g r b m ∧ Gr K w w' := by
  obtain ⟨v, h, rfl⟩ := h
  obtain ⟨p, hp⟩ : ∃ p, m.length = p := ⟨_, rfl⟩
  have hle := h.fit
  have hhi := h.hi
  have hlen : (m ++ [x]).length = p + 1 := by simp [hp]
  rw [hlen] at hle
  obtain ⟨q, c, rfl, d0, d1, lq, lc, lm⟩ : ∃ q c, v = .slice (some ⟨q, 0, none⟩) (p + 1) c ∧ w.cell? ⟨q, p * 2, none⟩ = some (.int .i64 x.1) ∧ w.cell? ⟨q, p * 2 + 1, none⟩ = some (.int .i64 x.2) ∧ q < w.heap.size ∧ p + 1 ≤ c ∧ c ≤ maxLen := by
    obtain ⟨A, N, k, rfl, hN, h1, h2⟩ := h.li.shape
    rw [hlen] at hN
    subst hN
    obtain ⟨b1, o1, e, g1, g2⟩ := (h.li.rv hlen.symm).at_ (i := p) (by omega)
    rcases h.li.2 with ⟨e2, _⟩ | ⟨q, cap, cur, e2, _, hq, _⟩
    · injection e2 with e2 _ _
      subst e2
      cases e
    · injection e2 with e2 _ e3
      subst e2 e3
      injection e with e
      injection e with e4 e5 _
      subst e4 e5
      have hx : (m ++ [x]).getD p (0, 0) = x := by rw [← hp]; simp
      rw [hx, Nat.zero_add] at g1 g2
      exact ⟨q, k, rfl, g1, g2, (Array.getElem?_eq_some_iff.1 hq).1, h1, h2⟩
  have c2 := h.c2
  have z2 := h.free 2
  have glt := h.lt
  have hgq : ¬ (g = q) := fun e => h.off (by rw [e]; rfl)
  have hqg : ¬ (q = g) := fun e => hgq e.symm
  have fq0 : ∀ k, w.frozen? ⟨q, k, none⟩ = false := by
    rcases h.li.2 with ⟨e2, _⟩ | ⟨q', cap, cur, e2, _, hq, _⟩
    · cases e2
    · injection e2 with e2 _ e3
      injection e2 with e2
      injection e2 with e2 _ _
      subst e2
      exact fun k => frozen_of_row w q k _ _ hq
  obtain ⟨x1, x2⟩ := x
  have POP := Lib.hid (fun W (hg : w.grownBy W none) => (show Sk (((W.setCell ⟨q, p * 2, none⟩ (.int .i64 0)).setCell ⟨q, p * 2 + 1, none⟩ (.int .i64 0)).setCell ⟨g, 2, none⟩ (.slice (some ⟨q, 0, none⟩) p c)) (ks g (.slice (some ⟨q, 0, none⟩) (p + 1) c)) g r b m ∧ Gr (ks g (.slice (some ⟨q, 0, none⟩) (p + 1) c)) w (((W.setCell ⟨q, p * 2, none⟩ (.int .i64 0)).setCell ⟨q, p * 2 + 1, none⟩ (.int .i64 0)).setCell ⟨g, 2, none⟩ (.slice (some ⟨q, 0, none⟩) p c)) from by
    have h1 := h.new hg
    have GQ := (grown_set W q (p * 2) (.int .i64 0)).trans (grown_set _ q (p * 2 + 1) (.int .i64 0))
    have GG := grown_set ((W.setCell ⟨q, p * 2, none⟩ (.int .i64 0)).setCell ⟨q, p * 2 + 1, none⟩ (.int .i64 0)) g 2 (.slice (some ⟨q, 0, none⟩) p c)
    have hob := (GQ.block g h1.lt (by simp; exact hgq)).trans h1.ob
    have hl := Lv.popd h1.li hp
    exact ⟨⟨.slice (some ⟨q, 0, none⟩) p c, ⟨set_ob (b2 := b) (y := 0) hob, hl.kept GG (.inr (hl.off hob (fun cs z => by simp))), h.hi, by omega⟩, rfl⟩,
      ((Gr.new hg).trans (Gr.one GQ (ks_of.2 (.inr rfl)))).trans (Gr.one GG (ks_of.2 (.inl rfl)))⟩))
  have KO := Lib.hid (fun q' (hq : q' ∈ ks g (.slice (some ⟨q, 0, none⟩) (p + 1) c)) => (show q' < w.heap.size from (Sk.lt (K := ks g (.slice (some ⟨q, 0, none⟩) (p + 1) c)) ⟨_, h, rfl⟩) q' hq))
  dsimp only at d0 d1
  unfold maxLen at lm
  clear h hp hlen
  have l1 : (0 : Int) ≤ (p : Int) := by omega
  have l2 : p < p + 1 := by omega
  go_enter Tryz.func290, Tryz.ntmps290
  go_wp2
  obtain ⟨W1, hW1⟩ : ∃ W1, W1 = ((w.alloc (.cells #[.int .i64 0, .int .i64 0] 157)).alloc (.cells #[.int .i64 0, .int .i64 0] 157)).alloc (.cells #[.int .i64 x1, .int .i64 x2] 157) := ⟨_, rfl⟩
  obtain ⟨B0, hB0⟩ : ∃ B0, B0 = w.heap.size := ⟨_, rfl⟩
  obtain ⟨B1, hB1⟩ : ∃ B1, B1 = w.heap.size + 1 := ⟨_, rfl⟩
  obtain ⟨B2, hB2⟩ : ∃ B2, B2 = w.heap.size + 1 + 1 := ⟨_, rfl⟩
  have G1 := Lib.hid (show w.grownBy W1 none by rw [hW1]; exact ((World.grownBy_alloc w _ none).trans (World.grownBy_alloc _ _ none)).trans (World.grownBy_alloc _ _ none))
  have H0 : W1.heap[B0]? = some (.cells #[.int .i64 0, .int .i64 0] 157 (0, 0)) := by rw [hW1, hB0, Below.heap_alloc _ _ _ (by simp; omega), Below.heap_alloc _ _ _ (by simp), heap_alloc_new]
  have H1 : W1.heap[B1]? = some (.cells #[.int .i64 0, .int .i64 0] 157 (0, 0)) := by rw [hW1, hB1, Below.heap_alloc _ _ _ (by simp)]; have := heap_alloc_new (w.alloc (.cells #[.int .i64 0, .int .i64 0] 157)) (.cells #[.int .i64 0, .int .i64 0] 157); simpa using this
  have H2 : W1.heap[B2]? = some (.cells #[.int .i64 x1, .int .i64 x2] 157 (0, 0)) := by rw [hW1, hB2]; have := heap_alloc_new ((w.alloc (.cells #[.int .i64 0, .int .i64 0] 157)).alloc (.cells #[.int .i64 0, .int .i64 0] 157)) (.cells #[.int .i64 x1, .int .i64 x2] 157); simpa using this
  rw [← hW1, ← hB2, ← hB1, ← hB0]
  have n0 : ¬ (q = B0) := by omega
  have n1 : ¬ (q = B1) := by omega
  have n2 : ¬ (q = B2) := by omega
  have n3 : ¬ (g = B0) := by omega
  have n4 : ¬ (g = B1) := by omega
  have n5 : ¬ (g = B2) := by omega
  have m0 : ¬ (B0 = q) := by omega
  have m1 : ¬ (B1 = q) := by omega
  have m2 : ¬ (B2 = q) := by omega
  have m3 : ¬ (B0 = g) := by omega
  have m4 : ¬ (B1 = g) := by omega
  have m5 : ¬ (B2 = g) := by omega
  have m6 : ¬ (B0 = B2) := by omega
  have m7 : ¬ (B2 = B0) := by omega
  have c2 := G1.out.cell c2 (by simp)
  have d0 := G1.out.cell d0 (by simp)
  have d1 := G1.out.cell d1 (by simp)
  have z2 : W1.frozen? ⟨g, 2, none⟩ = false := (G1.out.frozen_far ⟨g, 2, none⟩ glt (by simp)).trans z2
  have y0 : W1.frozen? ⟨q, p * 2, none⟩ = false := (G1.out.frozen_far ⟨q, p * 2, none⟩ lq (by simp)).trans (fq0 _)
  have y1 : W1.frozen? ⟨q, p * 2 + 1, none⟩ = false := (G1.out.frozen_far ⟨q, p * 2 + 1, none⟩ lq (by simp)).trans (fq0 _)
  have u0 : W1.cell? ⟨B1, 0, none⟩ = some (.int .i64 0) := by rw [cell_of_row W1 B1 0 _ _ _ H1]; rfl
  have u1 : W1.cell? ⟨B1, 1, none⟩ = some (.int .i64 0) := by rw [cell_of_row W1 B1 1 _ _ _ H1]; rfl
  have v0 : W1.cell? ⟨B2, 0, none⟩ = some (.int .i64 x1) := by rw [cell_of_row W1 B2 0 _ _ _ H2]; rfl
  have v1 : W1.cell? ⟨B2, 1, none⟩ = some (.int .i64 x2) := by rw [cell_of_row W1 B2 1 _ _ _ H2]; rfl
  have r0 : W1.cell? ⟨B0, 0, none⟩ = some (.int .i64 0) := by rw [cell_of_row W1 B0 0 _ _ _ H0]; rfl
  have r1 : W1.cell? ⟨B0, 1, none⟩ = some (.int .i64 0) := by rw [cell_of_row W1 B0 1 _ _ _ H0]; rfl
  have s0 : W1.frozen? ⟨B0, 0, none⟩ = false := frozen_of_row W1 B0 0 _ _ H0
  have s1 : W1.frozen? ⟨B0, 1, none⟩ = false := frozen_of_row W1 B0 1 _ _ H0
  have lt0 : B0 < W1.heap.size := (Array.getElem?_eq_some_iff.1 H0).1
  have lg1 : g < W1.heap.size := Nat.lt_of_lt_of_le glt G1.out.size
  have lq1 : q < W1.heap.size := Nat.lt_of_lt_of_le lq G1.out.size
  have HB := Lib.hid (show w.heap.size ≤ B0 by omega)
  clear H0 H1 H2 hW1 hB0 hB1 hB2 fq0
  go_region
  go_wp2
  obtain ⟨P1, P2⟩ := POP.out W1 G1.out
  have GR := (grown_set (((W1.setCell ⟨q, p * 2, none⟩ (.int .i64 0)).setCell ⟨q, p * 2 + 1, none⟩ (.int .i64 0)).setCell ⟨g, 2, none⟩ (.slice (some ⟨q, 0, none⟩) p c)) B0 0 (.int .i64 x1)).trans (grown_set _ B0 1 (.int .i64 x2))
  have GR := GR.trans (grown_drew _ (some B0))
  refine bodyPost_ret (v := .tuple #[.agg #[.int .i64 x1, .int .i64 x2], .bool true]) ?_ rfl ⟨rfl, ?_, ?_⟩
  · simp [results, Tryz.results290, go_sem, *]
  · exact P1.gr (Gr.one (L := [B0]) GR (by simp)) (fun q' hq h => by rw [List.mem_singleton] at h; have := KO.out q' hq; have := HB.out; omega)
  · exact gr_aside P2 GR HB.out
end
end Go.Proofs.YtkgdcgmbapchcaaGreatDoor.sk
