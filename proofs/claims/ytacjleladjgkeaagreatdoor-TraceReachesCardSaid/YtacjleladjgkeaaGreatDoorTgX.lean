/- Joined: TgE, TgF. -/
import Derived.Test.YtacjleladjgkeaaGreatDoorRnA
import Derived.Test.YtacjleladjgkeaaGreatDoorShX
/- The plain grey of the statement in memory: 2048 marks, a list, a room, a note, a page. -/
namespace Go.Proofs.YtacjleladjgkeaaGreatDoor.sh
open Go.ChangeShapes Go.WideShapes Go.ChangeAt Go.RowKit gen li en gr
set_option linter.unusedVariables false
set_option maxHeartbeats 4000000
set_option maxRecDepth 100000
variable {pp : Int}
/-- Marks as cells. -/
def marks (ws : List Nat) : List Value := (List.range 2048).map fun i => .bool (bm.bit ws i)
theorem marks_len (ws : List Nat) : (marks ws).length = 2048 := by simp [marks]
theorem marks_at (ws : List Nat) {i : Nat} (hi : i < 2048) : (marks ws)[i]? = some (.bool (bm.bit ws i)) := by simp [marks, hi]
theorem marks_set {ws ws' : List Nat} {i : Nat} {b : Bool} (h : ∀ j, bm.bit ws' j = if j = i then b else bm.bit ws j) : (marks ws).set i (.bool b) = marks ws' := by
  apply List.ext_getElem?
  intro j
  rw [List.getElem?_set]
  by_cases hj : j < 2048
  · rw [marks_at ws' hj, marks_at ws hj, h j]
    by_cases e : i = j
    · subst e
      rw [if_pos rfl, if_pos (by rw [marks_len]; exact hj), if_pos rfl]
    · rw [if_neg e, if_neg (fun h => e h.symm)]
  · rw [List.getElem?_eq_none (l := marks ws') (by rw [marks_len]; omega), List.getElem?_eq_none (l := marks ws) (by rw [marks_len]; omega), marks_len]
    by_cases e : i = j
    · rw [if_pos e, if_neg (by omega)]
    · rw [if_neg e]
theorem marks_put {ws : List Nat} {i : Nat} (hf : bm.Fine 2048 ws) (hi : i < 2048) : (marks ws).set i (.bool true) = marks (bm.put ws i) :=
  marks_set (fun j => by
    rw [bm.bit_put ws i j (by rw [hf.1]; omega)]
    by_cases e : j = i <;> simp [e])
theorem marks_cut {ws : List Nat} {i : Nat} (hf : bm.Fine 2048 ws) (hi : i < 2048) : (marks ws).set i (.bool false) = marks (bm.cut ws i) :=
  marks_set (fun j => by
    rw [bm.bit_cut ws i j (by rw [hf.1]; omega)]
    by_cases e : j = i <;> simp [e])
theorem marks_zeros : marks bm.zeros = List.replicate 2048 (.bool false) := by
  apply List.ext_getElem?
  intro j
  by_cases hj : j < 2048
  · rw [marks_at _ hj, List.getElem?_replicate, if_pos hj, bm.bit_zeros]
  · rw [List.getElem?_eq_none (by rw [marks_len]; omega), List.getElem?_replicate, if_neg hj]
/-- All its cells. -/
def rcs (pp : Int) (ws : List Nat) (v : Value) (r : Nat) (b : Bool) : Array Value := (marks ws ++ [v, .int .i64 r, .bool b, .int .i64 pp]).toArray
/-- The plain grey at M: its list lies in v. -/
structure Bo (pp : Int) (w : World) (M r : Nat) (v : Value) (s : Ps) : Prop where
  ob : w.heap[M]? = some (.cells (rcs pp s.ws v r s.b) 77 (0, 0))
  li : rn.Lv w 0 v s.m
  hi : r ≤ 256
  fit : s.m.length ≤ r
  fi : bm.Fine 2048 s.ws
def js (M : Nat) (v : Value) : List Nat := M :: v.ownBlock.toList
theorem js_of {M q : Nat} {v : Value} : q ∈ js M v ↔ q = M ∨ v.ownBlock = some q := by
  unfold js
  rw [List.mem_cons]
  cases v.ownBlock <;> simp [eq_comm]
/-- The same, in the blocks J. -/
def Bk (pp : Int) (w : World) (J : List Nat) (M r : Nat) (s : Ps) : Prop := ∃ v, Bo pp w M r v s ∧ J = js M v
theorem rcs_at {ws : List Nat} {v : Value} {r : Nat} {b : Bool} {i : Nat} (hi : i < 2048) : (rcs pp ws v r b)[i]? = some (.bool (bm.bit ws i)) := by
  unfold rcs
  rw [List.getElem?_toArray, List.getElem?_append_left (by rw [marks_len]; exact hi), marks_at ws hi]
theorem rcs_end {ws : List Nat} {v : Value} {r : Nat} {b : Bool} (j : Nat) : (rcs pp ws v r b)[2048 + j]? = [v, .int .i64 r, .bool b, .int .i64 pp][j]? := by
  unfold rcs
  rw [List.getElem?_toArray, List.getElem?_append_right (by rw [marks_len]; omega), marks_len, Nat.add_sub_cancel_left]
theorem rcs_mark {ws ws' : List Nat} {v u : Value} {r : Nat} {b : Bool} {i : Nat} (hi : i < 2048) (h : (marks ws).set i u = marks ws') : (rcs pp ws v r b).setIfInBounds i u = rcs pp ws' v r b := by
  unfold rcs
  rw [List.setIfInBounds_toArray, List.set_append_left _ _ (by rw [marks_len]; exact hi), h]
theorem rcs_set {ws : List Nat} {v : Value} {r : Nat} {b : Bool} (j : Nat) (u : Value) : (rcs pp ws v r b).setIfInBounds (2048 + j) u = (marks ws ++ [v, .int .i64 r, .bool b, .int .i64 pp].set j u).toArray := by
  unfold rcs
  rw [List.setIfInBounds_toArray, List.set_append_right _ _ (by rw [marks_len]; omega), marks_len, Nat.add_sub_cancel_left]
section
variable {w w' W : World} {M r B : Nat} {J L : List Nat} {s : Ps} {v v' : Value} {m : List Va} {ws : List Nat}
theorem Bo.lt (h : Bo pp w M r v s) : M < w.heap.size := (Array.getElem?_eq_some_iff.1 h.ob).1
theorem Bo.mark (h : Bo pp w M r v s) {i : Nat} (hi : i < 2048) : w.cell? ⟨M, i, none⟩ = some (.bool (bm.bit s.ws i)) := by rw [cell_of_row w M i _ _ _ h.ob]; exact rcs_at hi
theorem Bo.c0 (h : Bo pp w M r v s) : w.cell? ⟨M, 2048, none⟩ = some v := by rw [cell_of_row w M 2048 _ _ _ h.ob]; exact rcs_end 0
theorem Bo.c1 (h : Bo pp w M r v s) : w.cell? ⟨M, 2049, none⟩ = some (.int .i64 r) := by rw [cell_of_row w M 2049 _ _ _ h.ob]; exact rcs_end 1
theorem Bo.c2 (h : Bo pp w M r v s) : w.cell? ⟨M, 2050, none⟩ = some (.bool s.b) := by rw [cell_of_row w M 2050 _ _ _ h.ob]; exact rcs_end 2
theorem Bo.free (h : Bo pp w M r v s) (k : Nat) : w.frozen? ⟨M, k, none⟩ = false := frozen_of_row w M k _ _ h.ob
theorem Bo.off (h : Bo pp w M r v s) : v.ownBlock ≠ some M := h.li.off h.ob (fun cs z => by simp)
theorem Bo.gr (h : Bo pp w M r v s) (hg : Gr L w w') (h1 : M ∉ L) (h2 : ∀ q, v.ownBlock = some q → q ∉ L) : Bo pp w' M r v s := ⟨hg.heap h.ob h1, own_gr_any h.li hg h2, h.hi, h.fit, h.fi⟩
theorem Bo.new (h : Bo pp w M r v s) (hg : w.grownBy w' none) : Bo pp w' M r v s := h.gr (Gr.new (L := []) hg) (by simp) (by simp)
theorem Bk.gr (h : Bk pp w J M r s) (hg : Gr L w w') (hL : ∀ q, q ∈ J → q ∉ L) : Bk pp w' J M r s := by
  obtain ⟨v, h, rfl⟩ := h
  exact ⟨v, h.gr hg (hL M (js_of.2 (.inl rfl))) (fun q e => hL q (js_of.2 (.inr e))), rfl⟩
theorem Bk.new (h : Bk pp w J M r s) (hg : w.grownBy w' none) : Bk pp w' J M r s := h.gr (Gr.new (L := []) hg) (by simp)
theorem Bk.lt (h : Bk pp w J M r s) : ∀ q, q ∈ J → q < w.heap.size := fun q hq => by
  obtain ⟨v, h, rfl⟩ := h
  rcases js_of.1 hq with rfl | e
  · exact h.lt
  · exact h.li.lt q e
/-- What is of another type is none of its blocks. -/
theorem Bk.off (h : Bk pp w J M r s) {cs : Array Value} {t : TypeId} {z : Nat × Nat} (hb : w.heap[B]? = some (.cells cs t z)) (h1 : t ≠ 77) (h2 : t ≠ 115) : B ∉ J := fun hB => by
  obtain ⟨v, h, rfl⟩ := h
  rcases js_of.1 hB with rfl | e
  · exact ty_ne hb h.ob h1 rfl
  · exact h.li.off hb (fun cs z e => by injection e with _ e _; exact h2 e) e
/-- A mark, the note, the list are another one. -/
theorem Bo.put_mark (h : Bo pp w M r v s) {i : Nat} (hi : i < 2048) {b : Bool} (hm : (marks s.ws).set i (.bool b) = marks ws) (hf : bm.Fine 2048 ws) : Bo pp (w.setCell ⟨M, i, none⟩ (.bool b)) M r v ⟨ws, s.m, s.b⟩ ∧ Gr (js M v) w (w.setCell ⟨M, i, none⟩ (.bool b)) := by
  have G := grown_set w M i (.bool b)
  refine ⟨⟨?_, h.li.kept G (.inr h.off), h.hi, h.fit, hf⟩, Gr.one G (js_of.2 (.inl rfl))⟩
  rw [heap_setCell_same w M i _ _ (.bool b) h.ob]
  dsimp only
  rw [← rcs_mark hi hm]
theorem Bo.put_over (h : Bo pp w M r v s) (b : Bool) : Bo pp (w.setCell ⟨M, 2050, none⟩ (.bool b)) M r v ⟨s.ws, s.m, b⟩ ∧ Gr (js M v) w (w.setCell ⟨M, 2050, none⟩ (.bool b)) := by
  have G := grown_set w M 2050 (.bool b)
  refine ⟨⟨?_, h.li.kept G (.inr h.off), h.hi, h.fit, h.fi⟩, Gr.one G (js_of.2 (.inl rfl))⟩
  rw [heap_setCell_same w M 2050 _ _ (.bool b) h.ob]
  have := rcs_set (pp := pp) (ws := s.ws) (v := v) (r := r) (b := s.b) 2 (.bool b)
  rw [this]
  rfl
theorem Bo.put_list (h : Bo pp w M r v s) (hg : w.grownBy W v.ownBlock) (hl : rn.Lv W 0 v' m) (hv : ∀ q, v'.ownBlock = some q → v.ownBlock = some q ∨ w.heap.size ≤ q) (hm : m.length ≤ r) :
    Bo pp (W.setCell ⟨M, 2048, none⟩ v') M r v' ⟨s.ws, m, s.b⟩ ∧ (∀ q, q ∈ js M v' → q ∈ js M v ∨ w.heap.size ≤ q) ∧ Gr (js M v) w (W.setCell ⟨M, 2048, none⟩ v') := by
  have G := grown_set W M 2048 v'
  have hb := (hg.block M h.lt (Ne.symm h.off)).trans h.ob
  refine ⟨⟨?_, hl.kept G (.inr (hl.off hb (fun cs z => by simp))), h.hi, hm, h.fi⟩, fun q hq => ?_, (Gr.of hg (fun q e => js_of.2 (.inr e))).trans (Gr.one G (js_of.2 (.inl rfl)))⟩
  · rw [heap_setCell_same W M 2048 _ _ v' hb]
    have := rcs_set (pp := pp) (ws := s.ws) (v := v) (r := r) (b := s.b) 0 v'
    rw [this]
    rfl
  · rcases js_of.1 hq with rfl | e
    · exact .inl (js_of.2 (.inl rfl))
    · exact (hv q e).imp (fun e => js_of.2 (.inr e)) id
end
end Go.Proofs.YtacjleladjgkeaaGreatDoor.sh

/- The plain grey's calls: New, Push, Pop, Black, Shade. -/
namespace Go.Proofs.YtacjleladjgkeaaGreatDoor.sh
open Go.ChangeShapes Go.WideShapes Go.ChangeAt Go.RowKit gen li en gr
set_option linter.unusedVariables false
set_option maxHeartbeats 4000000
set_option maxRecDepth 100000
variable {pp : Int}
/-- An entry appended to a list of one's own, at a step of a region that draws its order. -/
theorem step_append_rn {w : World} {ops : Array Oper} {o : Oper} {a : Act} {K : Act → World → Prop} {Q : Exit → Act → World → Prop} {E : Prop} (hgd : o.guard = none) (s x : Operand) (ho : o.op = .call { callee := .builtin .append, args := #[s, x], argTypes := #[75, 75] })
    (base : Nat) (v : Value) (m : List Va) (hs : a.eval s = v) (hown : rn.Lv w base v m) (b : Nat) (z1 z2 : Int) (hx : a.eval x = .slice (some ⟨b, 0, none⟩) 1 1)
    (hz1' : w.cell? ⟨b, 0, none⟩ = some (.int .i64 z1)) (hz2' : w.cell? ⟨b, 1, none⟩ = some (.int .i64 z2)) (hm : m.length ≤ 1048576) (hbase : base ≤ w.heap.size)
    (h : ∀ g N' c' w', N' = (m ++ [(z1, z2)]).length → rn.Lv w' base (.slice (some ⟨g, 0, none⟩) N' c') (m ++ [(z1, z2)]) → w.grownBy w' v.ownBlock → (v.ownBlock = some g ∨ w.heap.size ≤ g) → K (a.put o.dst (.slice (some ⟨g, 0, none⟩) N' c')) w') :
    if Region.wanted o (yielded ops a.tmps) = true then Oper.wp Tryz.prog o a w K Q else E := by
  obtain ⟨i0, hi, hz0, hz1, hz2⟩ := info_parts rn.info_va
  refine step_append_lies w hgd s x 75 ho base 115 i0 (.agg #[.int .i64 0, .int .i64 0]) 2 16 Tryz.underlying75 hi hz0 hz1 hz2 rfl (by omega) v m.length (rn.vc m) hs hown ⟨b, 0, none⟩ 1 1 [.int .i64 z1, .int .i64 z2] hx rfl
    (fun j u hj => ?_) (fun u hu => by simp at hu; rcases hu with rfl | rfl <;> rfl) (by omega) (by unfold maxLen; omega) (by omega) hbase _ rfl (fun g c' w' h1 h2 h3 h4 => ?_)
  · match j, hj with
    | 0, hj => simp at hj; subst hj; simpa [Addr.add] using hz1'
    | 1, hj => simp at hj; subst hj; simpa [Addr.add] using hz2'
  · refine h g (m.length + 1) c' w' (by simp) ?_ h2 (h3.elim .inl (fun e => .inr (Nat.le_of_eq e.symm)))
    unfold rn.Lv
    rw [rn.vc_add, List.length_append]
    exact h1
/-- What a call of the plain one leaves. -/
def Ba (pp : Int) (J : List Nat) (M r : Nat) (v : Value) (s : Ps) (w : World) (e : Ending) (w' : World) : Prop := e = .returned v ∧ ∃ J', (∀ q, q ∈ J' → q ∈ J ∨ w.heap.size ≤ q) ∧ Bk pp w' J' M r s ∧ Gr J w w'
/-- A plain one that was made. -/
def NewB (r : Nat) (s : Ps) (w : World) (e : Ending) (w' : World) : Prop := ∃ M J, e = .returned (.pointer (some ⟨M, 0, none⟩)) ∧ Bk (-1) w' J M r s ∧ (∀ q, q ∈ J → w.heap.size ≤ q) ∧ w.grownBy w' none
theorem rNew_any (n : Int) (r : Nat) (hk : sk.near n 1 256 = r) (h8 : r ≤ 256) (w : World) : Calls Tryz.prog 28 #[.int .i64 n] w (NewB r none0 w) := by
  have Z := Lib.hid (show NewB r none0 w (.returned (.pointer (some ⟨w.heap.size, 0, none⟩))) (w.alloc (.cells (rcs (-1) bm.zeros (.slice none 0 0) r false) 77)) from
    ⟨_, _, rfl, ⟨.slice none 0 0, ⟨heap_alloc_new _ _, rn.Lv.nil _ _, h8, by simp, bm.Fine.zeros (by omega)⟩, rfl⟩, fun q hq => (by
      rcases js_of.1 hq with rfl | e
      · exact Nat.le_refl _
      · cases e), World.grownBy_alloc _ _ _⟩)
  by_cases h1 : n < 1
  · obtain rfl : r = 1 := by unfold sk.near at hk; rw [if_pos h1] at hk; omega
    go_enter Tryz.func28, Tryz.ntmps28
    go_wp2
    go_ret
    exact Z.out
  · by_cases h2 : 256 < n
    · obtain rfl : r = 256 := by unfold sk.near at hk; rw [if_neg h1, if_pos h2] at hk; omega
      go_enter Tryz.func28, Tryz.ntmps28
      go_wp2
      go_ret
      exact Z.out
    · obtain rfl : n = r := by unfold sk.near at hk; rw [if_neg h1, if_neg h2] at hk; exact hk
      go_enter Tryz.func28, Tryz.ntmps28
      go_wp2
      go_ret
      exact Z.out
end Go.Proofs.YtacjleladjgkeaaGreatDoor.sh
