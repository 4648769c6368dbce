/- Joined: SkA, SkB, SkC. -/
import Derived.Test.YtfloleflcoiidaaGreatDoorEnA
import Derived.Test.YtfloleflcoiidaaGreatDoorGrA
import Derived.Lib.SliceRun
import Derived.RegionTactic
import Derived.Deep.RegionLaw
import Derived.Deep.AppendLies
import Derived.Deep.RegionHeld3
import Derived.Deep.RegionHeldLaw
import Derived.BigRegion
/- A stack in memory: an object of its room, its note and a list of entries. What its small calls answer. -/
namespace Go.Proofs.YtfloleflcoiidaaGreatDoor.sk
open Go.ChangeShapes Go.WideShapes Go.ChangeAt Go.RowKit gen li en gr
set_option linter.unusedVariables false
set_option maxHeartbeats 4000000
set_option maxRecDepth 100000

/-- No list. -/
abbrev nl : Value := .slice none 0 0
/-- A stack at g: its room r, whether a loss is noted, its list, which lies in v. (The one that New did not make has no room.) -/
structure Ob (w : World) (g r : Nat) (b : Bool) (v : Value) (m : List Va) : Prop where
  ob : w.heap[g]? = some (.cells #[.int .i64 r, .bool b, v] 121 (0, 0))
  li : Lv w 0 v m
  hi : r ≤ 256
  fit : m.length ≤ r
/-- The blocks of a stack. -/
def ks (g : Nat) (v : Value) : List Nat := g :: v.ownBlock.toList
theorem ks_of {g q : Nat} {v : Value} : q ∈ ks g v ↔ q = g ∨ v.ownBlock = some q := by
  unfold ks
  rw [List.mem_cons]
  cases v.ownBlock <;> simp [eq_comm]
/-- A stack in the blocks K. -/
def Sk (w : World) (K : List Nat) (g r : Nat) (b : Bool) (m : List Va) : Prop := ∃ v, Ob w g r b v m ∧ K = ks g v
section
variable {w w' : World} {g r : Nat} {b : Bool} {v : Value} {m : List Va} {K L : List Nat}
theorem Ob.lt (h : Ob w g r b v m) : g < w.heap.size := (Array.getElem?_eq_some_iff.1 h.ob).1
theorem Ob.c0 (h : Ob w g r b v m) : w.cell? ⟨g, 0, none⟩ = some (.int .i64 r) := by rw [cell_of_row w g 0 _ _ _ h.ob]; rfl
theorem Ob.c1 (h : Ob w g r b v m) : w.cell? ⟨g, 1, none⟩ = some (.bool b) := by rw [cell_of_row w g 1 _ _ _ h.ob]; rfl
theorem Ob.c2 (h : Ob w g r b v m) : w.cell? ⟨g, 2, none⟩ = some v := by rw [cell_of_row w g 2 _ _ _ h.ob]; rfl
theorem Ob.free (h : Ob w g r b v m) (k : Nat) : w.frozen? ⟨g, k, none⟩ = false := frozen_of_row w g k _ _ h.ob
theorem Ob.off (h : Ob w g r b v m) : v.ownBlock ≠ some g := h.li.off h.ob (fun cs z => by simp)
theorem Ob.gr (h : Ob w g r b v m) (hg : Gr L w w') (h1 : g ∉ L) (h2 : ∀ q, v.ownBlock = some q → q ∉ L) : Ob w' g r b v m :=
  ⟨hg.heap h.ob h1, own_gr_any h.li hg h2, h.hi, h.fit⟩
theorem Ob.new (h : Ob w g r b v m) (hg : w.grownBy w' none) : Ob w' g r b v m := h.gr (Gr.new (L := []) hg) (by simp) (by simp)
theorem Sk.gr (h : Sk w K g r b m) (hg : Gr L w w') (hL : ∀ q, q ∈ K → q ∉ L) : Sk w' K g r b m := by
  obtain ⟨v, h, rfl⟩ := h
  exact ⟨v, h.gr hg (hL g (ks_of.2 (.inl rfl))) (fun q e => hL q (ks_of.2 (.inr e))), rfl⟩
theorem Sk.new (h : Sk w K g r b m) (hg : w.grownBy w' none) : Sk w' K g r b m := h.gr (Gr.new (L := []) hg) (by simp)
theorem Sk.lt (h : Sk w K g r b m) : ∀ q, q ∈ K → q < w.heap.size := fun q hq => by
  obtain ⟨v, h, rfl⟩ := h
  rcases ks_of.1 hq with rfl | e
  · exact h.lt
  · exact h.li.lt q e
theorem Sk.hi (h : Sk w K g r b m) : r ≤ 256 := by obtain ⟨v, h, rfl⟩ := h; exact h.hi
theorem Sk.fit (h : Sk w K g r b m) : m.length ≤ r := by obtain ⟨v, h, rfl⟩ := h; exact h.fit
theorem Sk.le (h : Sk w K g r b m) : m.length ≤ 256 := Nat.le_trans h.fit h.hi
theorem Sk.g_in (h : Sk w K g r b m) : g ∈ K := by obtain ⟨v, h, rfl⟩ := h; exact ks_of.2 (.inl rfl)
/-- What is of another type is none of a stack's. -/
theorem Sk.off (h : Sk w K g r b m) {B : Nat} {cs : Array Value} {t : TypeId} {z : Nat × Nat} (hb : w.heap[B]? = some (.cells cs t z)) (h1 : t ≠ 121) (h2 : t ≠ 202) : B ∉ K := fun hB => by
  obtain ⟨v, h, rfl⟩ := h
  rcases ks_of.1 hB with rfl | e
  · exact ty_ne hb h.ob h1 rfl
  · exact h.li.off hb (fun cs z e => by injection e with _ e _; exact h2 e) e
/-- One that New did not make. -/
theorem Ob.zero (w : World) : Ob (w.alloc (.cells #[.int .i64 0, .bool false, .slice none 0 0] 121)) w.heap.size 0 false nl [] := ⟨heap_alloc_new _ _, Lv.nil _ _, by omega, by simp⟩
theorem Sk.zero (w : World) : Sk (w.alloc (.cells #[.int .i64 0, .bool false, .slice none 0 0] 121)) [w.heap.size] w.heap.size 0 false [] := ⟨nl, Ob.zero w, rfl⟩
end
/-! ### there -/
/-- What stands where nil's stack is asked. -/
def ThA (w : World) (e : Ending) (w' : World) : Prop := e = .returned (.pointer (some ⟨w.heap.size, 0, none⟩)) ∧ Sk w' [w.heap.size] w.heap.size 0 false [] ∧ w.grownBy w' none
/-! ### The pile's own calls that change nothing -/
section
variable {w w' : World} {g r : Nat} {b : Bool} {v : Value} {m : List Va} {K L : List Nat}
/-! ### slices.Clone, all -/
theorem eql_nil : ∀ (w : World) (a : Option Addr) (n c : Nat), (binOp .eql 117 (.slice a n c) (.slice none 0 0)).run Tryz.prog w = .ok (.bool a.isNone) w := fun w a n c => Lib.run_eql_slice_nil w _ _ a n c 0 0 Tryz.underlying117
end
end Go.Proofs.YtfloleflcoiidaaGreatDoor.sk

/- What a pile's push, pop and settle do. -/
namespace Go.Proofs.YtfloleflcoiidaaGreatDoor.sk
open Go.ChangeShapes Go.WideShapes Go.ChangeAt Go.RowKit gen li en gr
set_option linter.unusedVariables false
set_option maxHeartbeats 4000000
set_option maxRecDepth 100000

theorem grown_step {a b c : World} {row : Option Nat} (h : b.grownBy c row) (gg : a.grownBy b none) : a.grownBy c row := li.grown_then gg h
/-- What is written on what was made on the way counts as nothing. -/
theorem gr_aside {L : List Nat} {a b c : World} {q : Nat} (h : Gr L a b) (k : b.grownBy c (some q)) (hq : a.heap.size ≤ q) : Gr L a c :=
  h.own (M := [q]) (Gr.one k (by simp)) (fun i hi => by simp at hi; subst hi; exact .inr hq)
/-- An entry appended to a list of one's own, at a step of a region that draws its order. -/
theorem step_append_en {w : World} {ops : Array Oper} {o : Oper} {a : Act} {K : Act → World → Prop} {Q : Exit → Act → World → Prop} {E : Prop} (hgd : o.guard = none) (s x : Operand) (ho : o.op = .call { callee := .builtin .append, args := #[s, x], argTypes := #[117, 117] })
    (base : Nat) (v : Value) (m : List Va) (hs : a.eval s = v) (hown : Lv w base v m) (b : Nat) (z1 z2 : Int) (hx : a.eval x = .slice (some ⟨b, 0, none⟩) 1 1)
    (hz1' : w.cell? ⟨b, 0, none⟩ = some (.int .i64 z1)) (hz2' : w.cell? ⟨b, 1, none⟩ = some (.int .i64 z2)) (hm : m.length ≤ 1048576) (hbase : base ≤ w.heap.size)
    (h : ∀ g N' c' w', N' = (m ++ [(z1, z2)]).length → Lv w' base (.slice (some ⟨g, 0, none⟩) N' c') (m ++ [(z1, z2)]) → w.grownBy w' v.ownBlock → (v.ownBlock = some g ∨ w.heap.size ≤ g) → K (a.put o.dst (.slice (some ⟨g, 0, none⟩) N' c')) w') :
    if Region.wanted o (yielded ops a.tmps) = true then Oper.wp Tryz.prog o a w K Q else E := by
  obtain ⟨i0, hi, hz0, hz1, hz2⟩ := info_parts info_va
  refine step_append_lies w hgd s x 117 ho base 202 i0 (.agg #[.int .i64 0, .int .i64 0]) 2 16 Tryz.underlying117 hi hz0 hz1 hz2 rfl (by omega) v m.length (vc m) hs hown ⟨b, 0, none⟩ 1 1 [.int .i64 z1, .int .i64 z2] hx rfl
    (fun j u hj => ?_) (fun u hu => by simp at hu; rcases hu with rfl | rfl <;> rfl) (by omega) (by unfold maxLen; omega) (by omega) hbase _ rfl (fun g c' w' h1 h2 h3 h4 => ?_)
  · match j, hj with
    | 0, hj => simp at hj; subst hj; simpa [Addr.add] using hz1'
    | 1, hj => simp at hj; subst hj; simpa [Addr.add] using hz2'
  · refine h g (m.length + 1) c' w' (by simp) ?_ h2 (h3.elim .inl (fun e => .inr (Nat.le_of_eq e.symm)))
    unfold Lv
    rw [vc_add, List.length_append]
    exact h1
section
variable {w w' W : World} {g r : Nat} {b : Bool} {v : Value} {m : List Va} {K L : List Nat}
/-! ### push -/
/-- What is left by a call that took it. -/
def PushA (K : List Nat) (g r : Nat) (b : Bool) (m : List Va) (w : World) (e : Ending) (w' : World) : Prop := e = .returned (.bool true) ∧ ∃ K', (∀ q, q ∈ K' → q ∈ K ∨ w.heap.size ≤ q) ∧ Sk w' K' g r b m ∧ Gr K w w'
theorem Ob.far (h : Ob w g r b v m) (hg : w.grownBy W v.ownBlock) : W.cell? ⟨g, 2, none⟩ = some v ∧ W.frozen? ⟨g, 2, none⟩ = false ∧ g < W.heap.size :=
  ⟨hg.cell h.c2 (Ne.symm h.off), (hg.frozen_far ⟨g, 2, none⟩ h.lt (Ne.symm h.off)).trans (h.free 2), Nat.lt_of_lt_of_le h.lt hg.size⟩
theorem set_ob {x y : Nat} {b b2 : Bool} {v v2 : Value} (h : w.heap[g]? = some (.cells #[.int .i64 x, .bool b, v] 121 (0, 0))) : (w.setCell ⟨g, 2, none⟩ v2).heap[g]? = some (.cells #[.int .i64 x, .bool b, v2] 121 (0, 0)) := by
  have := heap_setCell_same w g 2 _ _ v2 h
  exact this
theorem set_ob1 {x : Nat} {b b2 : Bool} {v : Value} (h : w.heap[g]? = some (.cells #[.int .i64 x, .bool b, v] 121 (0, 0))) : (w.setCell ⟨g, 1, none⟩ (.bool b2)).heap[g]? = some (.cells #[.int .i64 x, .bool b2, v] 121 (0, 0)) := by
  have := heap_setCell_same w g 1 _ _ (.bool b2) h
  exact this
/-- Another list in its place. -/
theorem Ob.put (h : Ob w g r b v m) (hg : w.grownBy W v.ownBlock) {v2 : Value} {m2 : List Va} (hl : Lv W 0 v2 m2) (hv : ∀ q, v2.ownBlock = some q → v.ownBlock = some q ∨ w.heap.size ≤ q) (hm : m2.length ≤ r) :
    Ob (W.setCell ⟨g, 2, none⟩ v2) g r b v2 m2 ∧ (∀ q, q ∈ ks g v2 → q ∈ ks g v ∨ w.heap.size ≤ q) ∧ Gr (ks g v) w (W.setCell ⟨g, 2, none⟩ v2) := by
  have G := grown_set W g 2 v2
  have hb := (hg.block g h.lt (Ne.symm h.off)).trans h.ob
  refine ⟨⟨set_ob (b2 := b) (y := 0) hb, hl.kept G (.inr (hl.off hb (fun cs z => by simp))), h.hi, hm⟩, fun q hq => ?_, (Gr.of hg (fun q e => ks_of.2 (.inr e))).trans (Gr.one G (ks_of.2 (.inl rfl)))⟩
  rcases ks_of.1 hq with rfl | e
  · exact .inl (ks_of.2 (.inl rfl))
  · exact (hv q e).imp (fun e => ks_of.2 (.inr e)) id
end
end Go.Proofs.YtfloleflcoiidaaGreatDoor.sk

/- What a pile's settle and pop do. -/
namespace Go.Proofs.YtfloleflcoiidaaGreatDoor.sk
open Go.ChangeShapes Go.WideShapes Go.ChangeAt Go.RowKit gen li en gr
set_option linter.unusedVariables false
set_option maxHeartbeats 4000000
set_option maxRecDepth 100000

/-- An answer: an entry, and whether there is one. -/
abbrev vb (x : Va) (b : Bool) : Ending := .returned (.tuple #[.agg #[.int .i64 x.1, .int .i64 x.2], .bool b])
section
variable {w w' W : World} {g r : Nat} {b : Bool} {v : Value} {m : List Va} {K L : List Nat}
/-! ### pop -/
/-- The topmost one is gone: what it was is nothing, and the list ends ahead of it. -/
theorem Lv.popd {base : Nat} {q p c : Nat} {x : Va} (h : Lv w base (.slice (some ⟨q, 0, none⟩) (p + 1) c) (m ++ [x])) (hp : m.length = p) :
    Lv ((w.setCell ⟨q, p * 2, none⟩ (.int .i64 0)).setCell ⟨q, p * 2 + 1, none⟩ (.int .i64 0)) base (.slice (some ⟨q, 0, none⟩) p c) m := by
  subst hp
  refine ⟨by rw [vc_length]; omega, ?_⟩
  rcases h.2 with ⟨e, _⟩ | ⟨g, cap, cur, e, hb, hg, h1, h2, h3, h4⟩
  · cases e
  · injection e with e1 e2 e3
    injection e1 with e1
    injection e1 with e1 _ _
    subst e1 e3
    have s1 := heap_setCell_same w q (m.length * 2) _ _ (.int .i64 0) hg
    have s2 := heap_setCell_same _ q (m.length * 2 + 1) _ _ (.int .i64 0) s1
    refine .inr ⟨q, c, _, rfl, hb, s2, by rw [List.length_append] at h1; simp at h1; omega, h2, by simpa using h3, ?_⟩
    have h5 := congrArg (List.take (m.length * 2)) h4
    rw [vc_append, List.take_take, List.take_append_of_le_length (by rw [vc_length]; omega), List.take_of_length_le (l := vc m) (by rw [vc_length]; omega)] at h5
    rw [← h5, show min (m.length * 2) ((m ++ [x]).length * 2) = m.length * 2 by rw [List.length_append]; omega]
    simp only [Array.toList_setIfInBounds]
    rw [List.take_set_of_le (by omega), List.take_set_of_le (by omega)]
end
end Go.Proofs.YtfloleflcoiidaaGreatDoor.sk
