/- The plain grey of the statement in memory: 2048 marks, a list, a room, a note, a page. -/
import Derived.Test.YtokjpibaaioehaaDoorRnA
import Derived.Test.YtokjpibaaioehaaDoorShA
namespace Go.Proofs.YtokjpibaaioehaaDoor.sh
open Go.ChangeShapes Go.WideShapes Go.ChangeAt Go.RowKit gen li en gr
set_option linter.unusedVariables false
set_option maxHeartbeats 4000000
set_option maxRecDepth 100000
/-- Marks as cells. -/
def marks (ws : List Nat) : List Value := (List.range 2048).map fun i => .bool (bm.bit ws i)
theorem marks_len (ws : List Nat) : (marks ws).length = 2048 := by simp [marks]
theorem marks_at (ws : List Nat) {i : Nat} (hi : i < 2048) : (marks ws)[i]? = some (.bool (bm.bit ws i)) := by simp [marks, hi]
theorem marks_set {ws ws' : List Nat} {i : Nat} {b : Bool} (h : ∀ j, bm.bit ws' j = if j = i then b else bm.bit ws j) : (marks ws).set i (.bool b) = marks ws' := by
  apply List.ext_getElem?
  intro j
  rw [List.getElem?_set]
  by_cases hj : j < 2048
  · rw [marks_at ws' hj, marks_at ws hj, h j]
    by_cases e : i = j
    · subst e
      rw [if_pos rfl, if_pos (by rw [marks_len]; exact hj), if_pos rfl]
    · rw [if_neg e, if_neg (fun h => e h.symm)]
  · rw [List.getElem?_eq_none (l := marks ws') (by rw [marks_len]; omega), List.getElem?_eq_none (l := marks ws) (by rw [marks_len]; omega), marks_len]
    by_cases e : i = j
    · rw [if_pos e, if_neg (by omega)]
    · rw [if_neg e]
theorem marks_put {ws : List Nat} {i : Nat} (hf : bm.Fine 2048 ws) (hi : i < 2048) : (marks ws).set i (.bool true) = marks (bm.put ws i) :=
  marks_set (fun j => by
    rw [bm.bit_put ws i j (by rw [hf.1]; omega)]
    by_cases e : j = i <;> simp [e])
theorem marks_cut {ws : List Nat} {i : Nat} (hf : bm.Fine 2048 ws) (hi : i < 2048) : (marks ws).set i (.bool false) = marks (bm.cut ws i) :=
  marks_set (fun j => by
    rw [bm.bit_cut ws i j (by rw [hf.1]; omega)]
    by_cases e : j = i <;> simp [e])
theorem marks_zeros : marks bm.zeros = List.replicate 2048 (.bool false) := by
  apply List.ext_getElem?
  intro j
  by_cases hj : j < 2048
  · rw [marks_at _ hj, List.getElem?_replicate, if_pos hj, bm.bit_zeros]
  · rw [List.getElem?_eq_none (by rw [marks_len]; omega), List.getElem?_replicate, if_neg hj]
/-- All its cells. -/
def rcs (ws : List Nat) (v : Value) (r : Nat) (b : Bool) : Array Value := (marks ws ++ [v, .int .i64 r, .bool b, .int .i64 (-1)]).toArray
/-- The plain grey at M: its list lies in v. -/
structure Bo (w : World) (M r : Nat) (v : Value) (s : Ps) : Prop where
  ob : w.heap[M]? = some (.cells (rcs s.ws v r s.b) 57 (0, 0))
  li : rn.Lv w 0 v s.m
  hi : r ≤ 256
  fit : s.m.length ≤ r
  fi : bm.Fine 2048 s.ws
def js (M : Nat) (v : Value) : List Nat := M :: v.ownBlock.toList
theorem js_of {M q : Nat} {v : Value} : q ∈ js M v ↔ q = M ∨ v.ownBlock = some q := by
  unfold js
  rw [List.mem_cons]
  cases v.ownBlock <;> simp [eq_comm]
/-- The same, in the blocks J. -/
def Bk (w : World) (J : List Nat) (M r : Nat) (s : Ps) : Prop := ∃ v, Bo w M r v s ∧ J = js M v
theorem rcs_at {ws : List Nat} {v : Value} {r : Nat} {b : Bool} {i : Nat} (hi : i < 2048) : (rcs ws v r b)[i]? = some (.bool (bm.bit ws i)) := by
  unfold rcs
  rw [List.getElem?_toArray, List.getElem?_append_left (by rw [marks_len]; exact hi), marks_at ws hi]
theorem rcs_end {ws : List Nat} {v : Value} {r : Nat} {b : Bool} (j : Nat) : (rcs ws v r b)[2048 + j]? = [v, .int .i64 r, .bool b, .int .i64 (-1)][j]? := by
  unfold rcs
  rw [List.getElem?_toArray, List.getElem?_append_right (by rw [marks_len]; omega), marks_len, Nat.add_sub_cancel_left]
theorem rcs_mark {ws ws' : List Nat} {v u : Value} {r : Nat} {b : Bool} {i : Nat} (hi : i < 2048) (h : (marks ws).set i u = marks ws') : (rcs ws v r b).setIfInBounds i u = rcs ws' v r b := by
  unfold rcs
  rw [List.setIfInBounds_toArray, List.set_append_left _ _ (by rw [marks_len]; exact hi), h]
theorem rcs_set {ws : List Nat} {v : Value} {r : Nat} {b : Bool} (j : Nat) (u : Value) : (rcs ws v r b).setIfInBounds (2048 + j) u = (marks ws ++ [v, .int .i64 r, .bool b, .int .i64 (-1)].set j u).toArray := by
  unfold rcs
  rw [List.setIfInBounds_toArray, List.set_append_right _ _ (by rw [marks_len]; omega), marks_len, Nat.add_sub_cancel_left]
section
variable {w w' W : World} {M r B : Nat} {J L : List Nat} {s : Ps} {v v' : Value} {m : List Va} {ws : List Nat}
theorem Bo.lt (h : Bo w M r v s) : M < w.heap.size := (Array.getElem?_eq_some_iff.1 h.ob).1
theorem Bo.mark (h : Bo w M r v s) {i : Nat} (hi : i < 2048) : w.cell? ⟨M, i, none⟩ = some (.bool (bm.bit s.ws i)) := by rw [cell_of_row w M i _ _ _ h.ob]; exact rcs_at hi
theorem Bo.c0 (h : Bo w M r v s) : w.cell? ⟨M, 2048, none⟩ = some v := by rw [cell_of_row w M 2048 _ _ _ h.ob]; exact rcs_end 0
theorem Bo.c1 (h : Bo w M r v s) : w.cell? ⟨M, 2049, none⟩ = some (.int .i64 r) := by rw [cell_of_row w M 2049 _ _ _ h.ob]; exact rcs_end 1
theorem Bo.c2 (h : Bo w M r v s) : w.cell? ⟨M, 2050, none⟩ = some (.bool s.b) := by rw [cell_of_row w M 2050 _ _ _ h.ob]; exact rcs_end 2
theorem Bo.free (h : Bo w M r v s) (k : Nat) : w.frozen? ⟨M, k, none⟩ = false := frozen_of_row w M k _ _ h.ob
theorem Bo.off (h : Bo w M r v s) : v.ownBlock ≠ some M := h.li.off h.ob (fun cs z => by simp)
theorem Bo.gr (h : Bo w M r v s) (hg : Gr L w w') (h1 : M ∉ L) (h2 : ∀ q, v.ownBlock = some q → q ∉ L) : Bo w' M r v s := ⟨hg.heap h.ob h1, own_gr_any h.li hg h2, h.hi, h.fit, h.fi⟩
theorem Bo.new (h : Bo w M r v s) (hg : w.grownBy w' none) : Bo w' M r v s := h.gr (Gr.new (L := []) hg) (by simp) (by simp)
theorem Bk.gr (h : Bk w J M r s) (hg : Gr L w w') (hL : ∀ q, q ∈ J → q ∉ L) : Bk w' J M r s := by
  obtain ⟨v, h, rfl⟩ := h
  exact ⟨v, h.gr hg (hL M (js_of.2 (.inl rfl))) (fun q e => hL q (js_of.2 (.inr e))), rfl⟩
theorem Bk.new (h : Bk w J M r s) (hg : w.grownBy w' none) : Bk w' J M r s := h.gr (Gr.new (L := []) hg) (by simp)
theorem Bk.lt (h : Bk w J M r s) : ∀ q, q ∈ J → q < w.heap.size := fun q hq => by
  obtain ⟨v, h, rfl⟩ := h
  rcases js_of.1 hq with rfl | e
  · exact h.lt
  · exact h.li.lt q e
/-- What is of another type is none of its blocks. -/
theorem Bk.off (h : Bk w J M r s) {cs : Array Value} {t : TypeId} {z : Nat × Nat} (hb : w.heap[B]? = some (.cells cs t z)) (h1 : t ≠ 57) (h2 : t ≠ 58) : B ∉ J := fun hB => by
  obtain ⟨v, h, rfl⟩ := h
  rcases js_of.1 hB with rfl | e
  · exact ty_ne hb h.ob h1 rfl
  · exact h.li.off hb (fun cs z e => by injection e with _ e _; exact h2 e) e
/-- A mark, the note, the list are another one. -/
theorem Bo.put_mark (h : Bo w M r v s) {i : Nat} (hi : i < 2048) {b : Bool} (hm : (marks s.ws).set i (.bool b) = marks ws) (hf : bm.Fine 2048 ws) : Bo (w.setCell ⟨M, i, none⟩ (.bool b)) M r v ⟨ws, s.m, s.b⟩ ∧ Gr (js M v) w (w.setCell ⟨M, i, none⟩ (.bool b)) := by
  have G := grown_set w M i (.bool b)
  refine ⟨⟨?_, h.li.kept G (.inr h.off), h.hi, h.fit, hf⟩, Gr.one G (js_of.2 (.inl rfl))⟩
  rw [heap_setCell_same w M i _ _ (.bool b) h.ob]
  dsimp only
  rw [← rcs_mark hi hm]
theorem Bo.put_over (h : Bo w M r v s) (b : Bool) : Bo (w.setCell ⟨M, 2050, none⟩ (.bool b)) M r v ⟨s.ws, s.m, b⟩ ∧ Gr (js M v) w (w.setCell ⟨M, 2050, none⟩ (.bool b)) := by
  have G := grown_set w M 2050 (.bool b)
  refine ⟨⟨?_, h.li.kept G (.inr h.off), h.hi, h.fit, h.fi⟩, Gr.one G (js_of.2 (.inl rfl))⟩
  rw [heap_setCell_same w M 2050 _ _ (.bool b) h.ob]
  have := rcs_set (ws := s.ws) (v := v) (r := r) (b := s.b) 2 (.bool b)
  rw [this]
  rfl
theorem Bo.put_list (h : Bo w M r v s) (hg : w.grownBy W v.ownBlock) (hl : rn.Lv W 0 v' m) (hv : ∀ q, v'.ownBlock = some q → v.ownBlock = some q ∨ w.heap.size ≤ q) (hm : m.length ≤ r) :
    Bo (W.setCell ⟨M, 2048, none⟩ v') M r v' ⟨s.ws, m, s.b⟩ ∧ (∀ q, q ∈ js M v' → q ∈ js M v ∨ w.heap.size ≤ q) ∧ Gr (js M v) w (W.setCell ⟨M, 2048, none⟩ v') := by
  have G := grown_set W M 2048 v'
  have hb := (hg.block M h.lt (Ne.symm h.off)).trans h.ob
  refine ⟨⟨?_, hl.kept G (.inr (hl.off hb (fun cs z => by simp))), h.hi, hm, h.fi⟩, fun q hq => ?_, (Gr.of hg (fun q e => js_of.2 (.inr e))).trans (Gr.one G (js_of.2 (.inl rfl)))⟩
  · rw [heap_setCell_same W M 2048 _ _ v' hb]
    have := rcs_set (ws := s.ws) (v := v) (r := r) (b := s.b) 0 v'
    rw [this]
    rfl
  · rcases js_of.1 hq with rfl | e
    · exact .inl (js_of.2 (.inl rfl))
    · exact (hv q e).imp (fun e => js_of.2 (.inr e)) id
end
end Go.Proofs.YtokjpibaaioehaaDoor.sh
