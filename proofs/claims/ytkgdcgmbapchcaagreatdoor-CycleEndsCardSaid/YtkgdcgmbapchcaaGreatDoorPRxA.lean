/- Texts that this claim stands on. -/
import Derived.Deep.MidRow
import Derived.Test.YtkgdcgmbapchcaaGreatDoorPRoX
namespace Go.Proofs.YtkgdcgmbapchcaaGreatDoor.rx
open Go.ChangeShapes Go.WideShapes Go.ChangeAt Go.RowKit gen li va wd
open ro (rc rc_length rc_at rc_end rc_push rc_pop grown_set arr16 vb gt has grown_of grown_aside append_int Contains_any rf rf_more rf_length rfA rfA_no1 rfA_no2 rfA_yes info_roots rc_size rc_one)
set_option linter.unusedVariables false
set_option maxHeartbeats 4000000
set_option maxRecDepth 100000
def Sg (cs : List Value) (o : Nat) (l : List Value) : Prop := l.length = 33 ∧ ∀ i, i < 33 → cs[o + i]? = l[i]?
def Out (o : Nat) (cs cs' : List Value) : Prop := cs'.length = cs.length ∧ ∀ i, i < o ∨ o + 33 ≤ i → cs'[i]? = cs[i]?
section
variable {cs cs' l : List Value} {o j : Nat} {v : Value}
theorem Out.trans {cs'' : List Value} (h : Out o cs cs') (k : Out o cs' cs'') : Out o cs cs'' := ⟨k.1.trans h.1, fun i hi => (k.2 i hi).trans (h.2 i hi)⟩
theorem Sg.len (h : Sg cs o l) : o + 33 ≤ cs.length := by
  have h1 := h.2 32 (by omega)
  have h2 : l[32]? = some (l[32]'(by have := h.1; omega)) := List.getElem?_eq_getElem _
  rw [h2] at h1
  have := (List.getElem?_eq_some_iff.1 h1).1
  omega
theorem Sg.set (h : Sg cs o l) (hj : j < 33) : Sg (cs.set (o + j) v) o (l.set j v) ∧ Out o cs (cs.set (o + j) v) := by
  have hl := h.len
  refine ⟨⟨by rw [List.length_set]; exact h.1, fun i hi => ?_⟩, by rw [List.length_set], fun i hi => ?_⟩
  · rw [List.getElem?_set, List.getElem?_set, h.1]
    by_cases e : j = i
    · subst e; rw [if_pos rfl, if_pos rfl, if_pos (by omega), if_pos (by omega)]
    · rw [if_neg (by omega), if_neg e]; exact h.2 i hi
  · rw [List.getElem?_set, if_neg (by omega)]
def putl (cs : List Value) : Nat → List Value → List Value
  | _, [] => cs
  | o, v :: vs => putl (cs.set o v) (o + 1) vs
theorem putl_len : ∀ (vs : List Value) (cs : List Value) (o : Nat), (putl cs o vs).length = cs.length
  | [], cs, o => rfl
  | v :: vs, cs, o => by unfold putl; rw [putl_len vs, List.length_set]
theorem putl_at : ∀ (vs : List Value) (cs : List Value) (o : Nat), o + vs.length ≤ cs.length → ∀ i, (putl cs o vs)[i]? = if o ≤ i ∧ i < o + vs.length then vs[i - o]? else cs[i]?
  | [], cs, o, h, i => by unfold putl; rw [if_neg (by rw [List.length_nil]; omega)]
  | v :: vs, cs, o, h, i => by
    rw [List.length_cons] at h
    unfold putl
    rw [putl_at vs (cs.set o v) (o + 1) (by rw [List.length_set]; omega) i, List.length_cons]
    by_cases e : o = i
    · subst e
      rw [if_neg (by omega), if_pos (by omega), Nat.sub_self, List.getElem?_set, if_pos rfl, if_pos (by omega)]
      rfl
    · by_cases h2 : o + 1 ≤ i ∧ i < o + 1 + vs.length
      · rw [if_pos h2, if_pos (by omega), show i - o = (i - (o + 1)) + 1 by omega, List.getElem?_cons_succ]
      · rw [if_neg h2, if_neg (by omega), List.getElem?_set, if_neg e]
theorem heap_setCells {b : Nat} {t : TypeId} : ∀ (vs : List Value) (cs : List Value) (o : Nat) (w : World), w.heap[b]? = some (.cells cs.toArray t (0, 0)) → (w.setCells b o vs).heap[b]? = some (.cells (putl cs o vs).toArray t (0, 0))
  | [], cs, o, w, h => h
  | v :: vs, cs, o, w, h => by
    have h1 := heap_setCell_same w b o _ _ v h
    rw [List.setIfInBounds_toArray] at h1
    exact heap_setCells vs (cs.set o v) (o + 1) (w.setCell ⟨b, o, none⟩ v) h1
theorem grown_setCells (b : Nat) : ∀ (vs : List Value) (o : Nat) (w : World), w.grownBy (w.setCells b o vs) (some b)
  | [], o, w => World.grownBy.refl _ _
  | v :: vs, o, w => (grown_set w b o v).trans (grown_setCells b vs (o + 1) _)
end
def Rt (w : World) (g o : Nat) (cs : List Value) (m : List Va) : Prop := w.heap[g]? = some (.cells cs.toArray 65 (0, 0)) ∧ m.length ≤ 16 ∧ Sg cs o (rc m)
section
variable {w w' : World} {g o : Nat} {cs : List Value} {m : List Va}
theorem Rt.lt (h : Rt w g o cs m) : g < w.heap.size := (Array.getElem?_eq_some_iff.1 h.1).1
theorem Rt.kept {row : Option Nat} (h : Rt w g o cs m) (hg : w.grownBy w' row) (h1 : some g ≠ row) : Rt w' g o cs m := ⟨(hg.block g h.lt h1).trans h.1, h.2⟩
theorem Rt.new (h : Rt w g o cs m) (hg : w.grownBy w' none) : Rt w' g o cs m := h.kept hg (by simp)
theorem Rt.drewN (h : Rt w g o cs m) (n : Nat) : Rt (w.drewN n) g o cs m := h
theorem Rt.cell (h : Rt w g o cs m) {i : Nat} (hi : i < 33) : w.cell? ⟨g, o + i, none⟩ = (rc m)[i]? := by
  rw [cell_of_row w g _ _ _ _ h.1]
  simpa using h.2.2.2 i hi
theorem Rt.count (h : Rt w g o cs m) : w.cell? ⟨g, o, none⟩ = some (.int .i64 m.length) := (h.cell (i := 0) (by omega)).trans rfl
theorem Rt.free (h : Rt w g o cs m) (k : Nat) : w.frozen? ⟨g, k, none⟩ = false := frozen_of_row w g k _ _ h.1
theorem Rt.at_ (h : Rt w g o cs m) {i : Nat} (hi : i < m.length) : w.cell? ⟨g, o + 1 + i * 2, none⟩ = some (.int .i64 (m.getD i (0, 0)).1) ∧ w.cell? ⟨g, o + 1 + i * 2 + 1, none⟩ = some (.int .i64 (m.getD i (0, 0)).2) := by
  obtain ⟨a1, a2⟩ := rc_at hi
  have l := h.2.1
  exact ⟨by rw [show o + 1 + i * 2 = o + (1 + i * 2) by omega, h.cell (by omega), a1], by rw [show o + 1 + i * 2 + 1 = o + (1 + i * 2 + 1) by omega, h.cell (by omega), a2]⟩
theorem Rt.end_ (h : Rt w g o cs m) {i : Nat} (hi : m.length ≤ i) (h16 : i < 16) : w.cell? ⟨g, o + 1 + i * 2, none⟩ = some (.int .i64 0) ∧ w.cell? ⟨g, o + 1 + i * 2 + 1, none⟩ = some (.int .i64 0) := by
  obtain ⟨a1, a2⟩ := rc_end hi h16
  exact ⟨by rw [show o + 1 + i * 2 = o + (1 + i * 2) by omega, h.cell (by omega), a1], by rw [show o + 1 + i * 2 + 1 = o + (1 + i * 2 + 1) by omega, h.cell (by omega), a2]⟩
theorem Rt.push (h : Rt w g o cs m) {p : Nat} (hp : m.length = p) (hm : p < 16) (k n : Int) : ∃ cs', Rt (((w.setCell ⟨g, o + 1 + p * 2, none⟩ (.int .i64 k)).setCell ⟨g, o + 1 + p * 2 + 1, none⟩ (.int .i64 n)).drew.setCell ⟨g, o, none⟩ (.int .i64 ((p : Int) + 1))) g o cs' (m ++ [(k, n)]) ∧ Out o cs cs' := by
  have h1 := heap_setCell_same w g (o + 1 + p * 2) _ _ (.int .i64 k) h.1
  rw [List.setIfInBounds_toArray] at h1
  have h2 := heap_setCell_same _ g (o + 1 + p * 2 + 1) _ _ (.int .i64 n) h1
  rw [List.setIfInBounds_toArray] at h2
  have h3 := heap_setCell_same (((w.setCell ⟨g, o + 1 + p * 2, none⟩ (.int .i64 k)).setCell ⟨g, o + 1 + p * 2 + 1, none⟩ (.int .i64 n)).drew) g o _ _ (.int .i64 ((p : Int) + 1)) h2
  rw [List.setIfInBounds_toArray] at h3
  obtain ⟨s1, t1⟩ := h.2.2.set (j := 1 + p * 2) (v := .int .i64 k) (by omega)
  obtain ⟨s2, t2⟩ := s1.set (j := 1 + p * 2 + 1) (v := .int .i64 n) (by omega)
  obtain ⟨s3, t3⟩ := s2.set (j := 0) (v := .int .i64 ((p : Int) + 1)) (by omega)
  rw [rc_push hp hm] at s3
  rw [show o + (1 + p * 2) = o + 1 + p * 2 by omega, show o + (1 + p * 2 + 1) = o + 1 + p * 2 + 1 by omega, Nat.add_zero] at *
  exact ⟨_, ⟨h3, by simp; omega, s3⟩, (t1.trans t2).trans t3⟩
theorem Rt.pop {x : Va} (h : Rt w g o cs (m ++ [x])) {p : Nat} (hp : m.length = p) (hm : p < 16) : ∃ cs', Rt (((w.setCell ⟨g, o, none⟩ (.int .i64 p)).setCell ⟨g, o + 1 + p * 2, none⟩ (.int .i64 0)).setCell ⟨g, o + 1 + p * 2 + 1, none⟩ (.int .i64 0)) g o cs' m ∧ Out o cs cs' := by
  have h1 := heap_setCell_same w g o _ _ (.int .i64 p) h.1
  rw [List.setIfInBounds_toArray] at h1
  have h2 := heap_setCell_same _ g (o + 1 + p * 2) _ _ (.int .i64 0) h1
  rw [List.setIfInBounds_toArray] at h2
  have h3 := heap_setCell_same _ g (o + 1 + p * 2 + 1) _ _ (.int .i64 0) h2
  rw [List.setIfInBounds_toArray] at h3
  obtain ⟨s1, t1⟩ := h.2.2.set (j := 0) (v := .int .i64 p) (by omega)
  obtain ⟨s2, t2⟩ := s1.set (j := 1 + p * 2) (v := .int .i64 0) (by omega)
  obtain ⟨s3, t3⟩ := s2.set (j := 1 + p * 2 + 1) (v := .int .i64 0) (by omega)
  rw [rc_pop hp hm] at s3
  rw [show o + (1 + p * 2) = o + 1 + p * 2 by omega, show o + (1 + p * 2 + 1) = o + 1 + p * 2 + 1 by omega, Nat.add_zero] at *
  exact ⟨_, ⟨h3, by omega, s3⟩, (t1.trans t2).trans t3⟩
theorem Rt.rv (h : Rt w g o cs m) : Rv w w.heap.size (some ⟨g, o + 1, none⟩) m.length 16 m :=
  ⟨rfl, h.2.1, by unfold maxLen; omega, fun i hi => ⟨g, o + 1, rfl, h.lt, h.at_ hi⟩⟩
theorem slice16 (g o n : Nat) (hn : n ≤ 16) : ∀ w : World, (Instr.sliceAt 60 (.pointer (some ⟨g, o + 1, none⟩)) none (some (.int .i64 n)) none).run Tryz.prog w = .ok (.slice (some ⟨g, o + 1, none⟩) n 16) w := fun w => by
  rw [run_sliceAt_array_h w _ _ (by kernel_rfl) .i64 n (by omega) (by rw [arr16]; omega)]
  have e : ∀ w, (Go.sizeOf (Tryz.prog.elem 60)).run Tryz.prog w = .ok 2 w := fun w => by kernel_rfl
  rw [e, arr16]
  simp [slicedAt, Addr.add, Result.andThen]
theorem held_any (h : Rt w g o cs m) : Calls Tryz.prog 133 #[.pointer (some ⟨g, o, none⟩)] w fun e w' => e = .returned (.slice (some ⟨g, o + 1, none⟩) m.length 16) ∧ Drew w w' := by
  have c := h.count
  have l1 := h.2.1
  generalize m.length = n at c l1
  have SL := slice16 g o n l1
  clear h
  go_enter Tryz.func133, Tryz.ntmps133
  go_wp2
  go_quiet (fail)
  go_wp2
  go_ret
  exact ⟨rfl, _, rfl⟩
theorem Len_any (h : Rt w g o cs m) : Calls Tryz.prog 151 #[.pointer (some ⟨g, o, none⟩)] w fun e w' => e = .returned (.int .i64 m.length) ∧ Drew w w' := by
  have HP := Lib.hid (held_any h)
  have l1 := h.2.1
  generalize m.length = n at HP l1
  clear h
  go_enter Tryz.func151, Tryz.ntmps151
  go_wp2_with (go_at_call 133; (with_reducible refine HP.out.mono ?_); rintro e w' ⟨rfl, q, rfl⟩)
  go_ret
  exact ⟨rfl, _, rfl⟩
theorem Push_yes (h : Rt w g o cs m) (hm : m.length < 16) (k n : Int) (hc : chk k n = 0) :
    Calls Tryz.prog 90 #[.pointer (some ⟨g, o, none⟩), .agg #[.int .i64 k, .int .i64 n]] w fun e w' => e = .returned (.bool true) ∧ (∃ cs', Rt w' g o cs' (m ++ [(k, n)]) ∧ Out o cs cs') ∧ w.grownBy w' (some g) := by
  have c := h.count
  have l1 : m.length < 16 := hm
  have hlt := h.lt
  have H := Lib.hid h
  have HC := Lib.hid hc
  obtain ⟨p, hp⟩ : ∃ p, m.length = p := ⟨_, rfl⟩
  have HP := Lib.hid hp
  rw [hp] at c l1
  have t1 : ((p : Int) == 16) = false := by simp; omega
  have C0 := Lib.hid (Two.new w 36 k n rfl)
  have G0 := Lib.hid (World.grownBy_alloc w (.cells #[.int .i64 k, .int .i64 n] 36) none)
  clear h hm hc hp
  go_enter Tryz.func90, Tryz.ntmps90
  go_wp2_with (go_at_call 164; (with_reducible refine (Check_any k n _).mono ?_); rintro e w1 ⟨rfl, hb⟩; rw [HC.out]; obtain ⟨d0, d1, d2, d3⟩ := Two.below hb C0.out; have G1 := Lib.hid (G0.out.trans (grown_of hb)); have R1 := Lib.hid (H.out.new G1.out); have c1 := R1.out.count; rw [HP.out] at c1; have fz := R1.out.free; obtain ⟨e0, e1⟩ := R1.out.end_ (i := p) (by rw [HP.out]; exact Nat.le_refl _) l1; have hz : w.heap.size < w1.heap.size := (World.block_lt_of_cell? w1 _ d0); clear hb)
  go_region
  go_wp2
  go_ret
  exact ⟨rfl, R1.out.push HP.out l1 k n, grown_then G1.out ((((grown_set _ _ _ _).trans (grown_set _ _ _ _)).trans (grown_set _ _ _ _)).trans (grown_drewN _ 1 _))⟩
theorem Push_full (h : Rt w g o cs m) (hm : m.length = 16) (k n : Int) :
    Calls Tryz.prog 90 #[.pointer (some ⟨g, o, none⟩), .agg #[.int .i64 k, .int .i64 n]] w fun e w' => e = .returned (.bool false) ∧ w.grownBy w' none := by
  have c := h.count
  rw [hm] at c
  have hlt := h.lt
  have G0 := Lib.hid (World.grownBy_alloc w (.cells #[.int .i64 k, .int .i64 n] 36) none)
  clear h hm
  go_enter Tryz.func90, Tryz.ntmps90
  go_wp2
  go_ret
  exact ⟨rfl, G0.out⟩
theorem Get_in (h : Rt w g o cs m) (i : Int) (h1 : 0 ≤ i) (h2 : i < m.length) :
    Calls Tryz.prog 150 #[.pointer (some ⟨g, o, none⟩), .int .i64 i] w fun e w' => e = vb (m.getD i.toNat (0, 0)) true ∧ w.grownBy w' none := by
  obtain ⟨k, rfl⟩ : ∃ k : Nat, i = k := ⟨i.toNat, by omega⟩
  have G0 := Lib.hid (World.grownBy_alloc w (.cells #[.int .i64 0, .int .i64 0] 36) none)
  have hk : k < m.length := by omega
  have HL := Lib.hid (Len_any (h.new G0.out))
  obtain ⟨e0, e1⟩ := (h.new G0.out).at_ hk
  have l16 := h.2.1
  rw [show ((k : Int)).toNat = k from rfl]
  generalize m.getD k (0, 0) = x at e0 e1
  generalize m.length = p at *
  have l1 : (0 : Int) ≤ (k : Int) := h1
  have l2 : k < 16 := by omega
  clear h
  go_enter Tryz.func150, Tryz.ntmps150
  go_wp2_with (go_at_call 151; (with_reducible refine HL.out.mono ?_); rintro e w1 ⟨rfl, q, rfl⟩)
  refine bodyPost_ret (v := .tuple #[.agg #[.int .i64 x.1, .int .i64 x.2], .bool true]) ?_ rfl ⟨rfl, ?_⟩
  · simp [results, Tryz.results150, go_sem, *]
  · exact grown_new (G0.out.trans (grown_drewN _ q _)) ((grown_set _ _ _ _).trans (grown_set _ _ _ _)) (Nat.le_refl _)
theorem Get_out (h : Rt w g o cs m) (i : Int) (ho : i < 0 ∨ (m.length : Int) ≤ i) :
    Calls Tryz.prog 150 #[.pointer (some ⟨g, o, none⟩), .int .i64 i] w fun e w' => e = vb (0, 0) false ∧ w.grownBy w' none := by
  have G0 := Lib.hid (World.grownBy_alloc w (.cells #[.int .i64 0, .int .i64 0] 36) none)
  have HL := Lib.hid (Len_any (h.new G0.out))
  have l16 := h.2.1
  generalize m.length = p at *
  clear h
  by_cases h1 : i < 0
  · clear ho
    go_enter Tryz.func150, Tryz.ntmps150
    go_wp2
    exact bodyPost_ret (v := .tuple #[.agg #[.int .i64 0, .int .i64 0], .bool false]) (by simp [results, Tryz.results150, go_sem]) rfl ⟨rfl, G0.out⟩
  · have h2 : 0 ≤ i := by omega
    have h3 : (p : Int) ≤ i := by omega
    clear ho h1
    go_enter Tryz.func150, Tryz.ntmps150
    go_wp2_with (go_at_call 151; (with_reducible refine HL.out.mono ?_); rintro e w1 ⟨rfl, q, rfl⟩)
    refine bodyPost_ret (v := .tuple #[.agg #[.int .i64 0, .int .i64 0], .bool false]) (by simp [results, Tryz.results150, go_sem]) rfl ⟨rfl, ?_⟩
    exact grown_new (G0.out.trans (grown_drewN _ q _)) ((grown_set _ _ _ _).trans (grown_set _ _ _ _)) (Nat.le_refl _)
theorem Pop_none (h : Rt w g o cs []) : Calls Tryz.prog 79 #[.pointer (some ⟨g, o, none⟩)] w fun e w' => e = vb (0, 0) false ∧ w.grownBy w' none := by
  have G0 := Lib.hid (World.grownBy_alloc w (.cells #[.int .i64 0, .int .i64 0] 36) none)
  have C0 := Lib.hid (Two.new w 36 0 0 rfl)
  have HL := Lib.hid (Len_any (h.new G0.out))
  have HG := Lib.hid (fun q => Get_out ((h.new G0.out).drewN q) (-1) (by omega))
  clear h
  go_enter Tryz.func79, Tryz.ntmps79
  go_wp2_with (first
    | (go_at_call 151; (with_reducible refine HL.out.mono ?_); rintro e w' ⟨rfl, q, rfl⟩)
    | (go_at_call 150; (with_reducible refine (HG.out _).mono ?_); rintro e w1 ⟨rfl, hg⟩; have hg' := (grown_drewN _ q none).trans hg; obtain ⟨d0, d1, d2, d3⟩ := Two.below (li.grown_below hg') C0.out; have G1 := Lib.hid (G0.out.trans hg'); have hz : w.heap.size < w1.heap.size := (World.block_lt_of_cell? w1 _ d0); clear hg hg'))
  exact bodyPost_ret (v := .tuple #[.agg #[.int .i64 0, .int .i64 0], .bool false]) (by simp [results, Tryz.results79, go_sem, *]) rfl ⟨rfl, (grown_new G1.out ((grown_set _ _ _ _).trans (grown_set _ _ _ _)) (Nat.le_refl _)).trans (World.grownBy_alloc _ _ _)⟩
theorem Pop_yes {x : Va} (h : Rt w g o cs (m ++ [x])) : Calls Tryz.prog 79 #[.pointer (some ⟨g, o, none⟩)] w fun e w' => e = vb x true ∧ (∃ cs', Rt w' g o cs' m ∧ Out o cs cs') ∧ w.grownBy w' (some g) := by
  have l16 := h.2.1
  have hlt := h.lt
  obtain ⟨p, hp⟩ : ∃ p, m.length = p := ⟨_, rfl⟩
  have HP := Lib.hid hp
  have hl : (m ++ [x]).length = p + 1 := by simp [hp]
  rw [hl] at l16
  have G0 := Lib.hid (World.grownBy_alloc w (.cells #[.int .i64 0, .int .i64 0] 36) none)
  have C0 := Lib.hid (Two.new w 36 0 0 rfl)
  have HL := Len_any (h.new G0.out)
  rw [hl] at HL
  have HLL := Lib.hid HL
  have hx : (m ++ [x]).getD p (0, 0) = x := by rw [← hp]; simp
  have HG := Lib.hid (fun q (i : Int) (hi : i = p) => show Calls Tryz.prog 150 #[.pointer (some ⟨g, o, none⟩), .int .i64 i] ((w.alloc (.cells #[.int .i64 0, .int .i64 0] 36)).drewN q) fun e w' => e = vb x true ∧ ((w.alloc (.cells #[.int .i64 0, .int .i64 0] 36)).drewN q).grownBy w' none by
    subst hi
    have := Get_in ((h.new G0.out).drewN q) p (by omega) (by rw [hl]; omega)
    rwa [show ((p : Int)).toNat = p from rfl, hx] at this)
  have H := Lib.hid h
  have HLN := Lib.hid hl
  obtain ⟨x1, x2⟩ := x
  clear h hp hl HL hx
  go_enter Tryz.func79, Tryz.ntmps79
  go_wp2_with (first
    | (go_at_call 151; (with_reducible refine HLL.out.mono ?_); rintro e w' ⟨rfl, q, rfl⟩)
    | (go_at_call 150; (with_reducible refine (HG.out _ _ (by omega)).mono ?_); rintro e w1 ⟨rfl, hg⟩; have hg' := (grown_drewN _ q none).trans hg; obtain ⟨d0, d1, d2, d3⟩ := Two.below (li.grown_below hg') C0.out; have G1 := Lib.hid (G0.out.trans hg'); have R1 := Lib.hid (H.out.new G1.out); have c1 := R1.out.count; rw [HLN.out] at c1; have fz := R1.out.free; obtain ⟨e0, e1⟩ := R1.out.at_ (i := p) (by rw [HLN.out]; omega); have hlt1 := R1.out.lt; have hz : w.heap.size < w1.heap.size := (World.block_lt_of_cell? w1 _ d0); clear hg hg'))
  go_region
  go_wp2
  have R3 := Lib.hid (R1.out.pop HP.out (by omega))
  have G3 := Lib.hid (grown_then G1.out (((grown_set w1 g o (.int .i64 p)).trans (grown_set _ g (o + 1 + p * 2) (.int .i64 0))).trans (grown_set _ g (o + 1 + p * 2 + 1) (.int .i64 0))))
  refine bodyPost_ret (v := .tuple #[.agg #[.int .i64 x1, .int .i64 x2], .bool true]) ?_ rfl ⟨rfl, ?_, ?_⟩
  · simp [results, Tryz.results79, go_sem, *]
  · obtain ⟨cs3, r3, o3⟩ := R3.out
    refine ⟨cs3, r3.kept ((((grown_set _ w.heap.size _ _).trans (grown_set _ _ _ _)).trans (World.grownBy_alloc _ _ _)).trans (grown_drewN _ 1 _)) (by simp; omega), o3⟩
  · exact grown_aside G3.out ((((grown_set _ w.heap.size _ _).trans (grown_set _ _ _ _)).trans (World.grownBy_alloc _ _ _)).trans (grown_drewN _ 1 _)) (Nat.le_refl _)
theorem Refs_any (h : Rt w g o cs m) : Calls Tryz.prog 70 #[.pointer (some ⟨g, o, none⟩)] w (ListAns (rf m) w) := by
  have HH := Lib.hid (held_any h)
  have l16 := h.2.1
  have H := Lib.hid h
  obtain ⟨n, hn⟩ : ∃ n, m.length = n := ⟨_, rfl⟩
  have HN := Lib.hid hn
  rw [hn] at HH l16
  clear h hn
  go_enter Tryz.func70, Tryz.ntmps70
  go_wp2_with (go_at_call 133; (with_reducible refine HH.out.mono ?_); rintro e w' ⟨rfl, q, rfl⟩)
  go_loopw [3, 10] (fun v i wr => ∃ (k N : Nat) (A' : Option Addr) (c' : Nat), k ≤ n ∧ i = .int .i64 k ∧ v = .slice A' N c' ∧ N = (rf (m.take k)).length ∧ wr.ownsRow w.heap.size 3 1 (.slice A' N c') (rf (m.take k)).length (ints (rf (m.take k))) ∧ w.grownBy wr none) (fun _ i _ => n - (intOf i).toNat)
  case atStart => exact ⟨0, 0, none, 0, Nat.zero_le _, rfl, rfl, rfl, World.ownsRow_nil _ _ _ _, li.grown_drewN _ _ _⟩
  case round =>
    obtain ⟨k, N, A', c', hk, rfl, rfl, hm, ho, hg⟩ := hrel
    have HM := Lib.hid hm
    have HO := Lib.hid ho
    have HG := Lib.hid hg
    have R := Lib.hid (H.out.new hg)
    have LT := R.out.lt
    clear hm ho hg
    by_cases hlt : k < n
    · have hk' : k < m.length := by rw [HN.out]; exact hlt
      obtain ⟨e0, e1⟩ := R.out.at_ hk'
      have HF := Lib.hid (rf_more hk')
      have HL := Lib.hid (show N ≤ 16 by rw [HM.out]; exact Nat.le_trans (rf_length _) (by rw [List.length_take, HN.out]; omega))
      clear hk'
      generalize m.getD k (0, 0) = x at e0 e1 HF
      obtain ⟨x1, x2⟩ := x
      dsimp only at e0 e1
      by_cases h1 : x1 = 2
      · have t1 : (x1 == 2) = true := by simpa using h1
        by_cases h2 : x2 ∈ rf (m.take k)
        · have t2 : decide (x2 ∈ rf (m.take k)) = true := decide_eq_true h2
          have FF := Lib.hid (show rf (m.take (k + 1)) = rf (m.take k) by rw [HF.out, rfA_no2 h2])
          clear h1 h2
          go_wp2_with (go_at_call 134; (with_reducible refine (Contains_any (xs := rf (m.take k)) (by have := HL.out; omega) (rd_own (by have := HO.out.alloc (.cells #[.int .i64 x1, .int .i64 x2] 36); rwa [← HM.out] at this)) _).mono ?_); rintro e w' ⟨rfl, rfl⟩)
          go_roundw
          case rel => exact ⟨k + 1, N, A', c', by omega, by go_num, rfl, by rw [FF.out]; exact HM.out, by rw [FF.out]; exact HO.out.alloc _, HG.out.trans (World.grownBy_alloc _ _ _)⟩
          case measure => simp [intOf]; omega
        · have t2 : decide (x2 ∈ rf (m.take k)) = false := decide_eq_false h2
          have FF := Lib.hid (show rf (m.take (k + 1)) = rf (m.take k) ++ [x2] by rw [HF.out, rfA_yes h1 h2])
          have HS := Lib.hid (HG.out.size)
          clear h1 h2
          go_wp2_with (first
            | (go_at_call 134; (with_reducible refine (Contains_any (xs := rf (m.take k)) (by have := HL.out; omega) (rd_own (by have := HO.out.alloc (.cells #[.int .i64 x1, .int .i64 x2] 36); rwa [← HM.out] at this)) _).mono ?_); rintro e w' ⟨rfl, rfl⟩)
            | (refine append_int rfl (.tmp 25) (.tmp 27) rfl w.heap.size (.slice A' N c') (rf (m.take k)) rfl ((HO.out.alloc _).alloc _) _ x2 rfl (by go_simp) (by have := HL.out; have := HM.out; omega) (by have := HS.out; simp; omega) ?_; intro A3 N3 c3 w2 hn3 own1 gr1; have HN3 := Lib.hid hn3; have OWN1 := Lib.hid own1; have GR1 := Lib.hid gr1; clear hn3 own1 gr1))
          go_roundw
          case rel => exact ⟨k + 1, N3, A3, c3, by omega, by go_num, rfl, by rw [FF.out]; exact HN3.out, by rw [FF.out]; exact OWN1.out, grown_own ((HG.out.trans (World.grownBy_alloc _ _ _)).trans (World.grownBy_alloc _ _ _)) ((HO.out.alloc _).alloc _) GR1.out (Nat.le_refl _)⟩
          case measure => simp [intOf]; omega
      · have t1 : (x1 == 2) = false := by simpa using h1
        have FF := Lib.hid (show rf (m.take (k + 1)) = rf (m.take k) by rw [HF.out, rfA_no1 h1])
        clear h1
        go_wp2
        go_roundw
        case rel => exact ⟨k + 1, N, A', c', by omega, by go_num, rfl, by rw [FF.out]; exact HM.out, by rw [FF.out]; exact HO.out.alloc _, HG.out.trans (World.grownBy_alloc _ _ _)⟩
        case measure => simp [intOf]; omega
    · obtain rfl : k = n := by omega
      go_wp2
      go_ret
      have hm := HM.out
      have ho := HO.out
      rw [List.take_of_length_le (by rw [HN.out]; omega)] at hm ho
      subst hm
      exact ⟨A', c', rfl, ho, HG.out⟩
theorem All_any (h : Rt w g o cs m) : Calls Tryz.prog 96 #[.pointer (some ⟨g, o, none⟩)] w (VasAns m w) := by
  have l16 := h.2.1
  have mk := make_vas m.length (by omega)
  have HL := Lib.hid (Len_any h)
  have H := Lib.hid h
  have ZL := Lib.hid (show (List.replicate m.length ((0, 0) : Va)).length = m.length by simp)
  generalize hz : List.replicate m.length ((0, 0) : Va) = zs at mk ZL
  obtain ⟨n, hn⟩ : ∃ n, m.length = n := ⟨_, rfl⟩
  have HN := Lib.hid hn
  have HH := Lib.hid (fun W (hW : Rt W g o cs m) => show Calls Tryz.prog 133 #[.pointer (some ⟨g, o, none⟩)] W fun e w' => e = .returned (.slice (some ⟨g, o + 1, none⟩) n 16) ∧ Drew W w' by have := held_any hW; rwa [hn] at this)
  rw [hn] at HL l16 mk ZL
  clear h hn hz
  go_enter Tryz.func96, Tryz.ntmps96
  go_wp2_with (first
    | (go_at_call 151; (with_reducible refine HL.out.mono ?_); rintro e w' ⟨rfl, q, rfl⟩)
    | (go_at_call 133; (with_reducible refine (HH.out _ (H.out.new ((li.grown_drewN _ q none).trans (World.grownBy_alloc _ _ _)))).mono ?_); rintro e w' ⟨rfl, q2, rfl⟩)
    | (refine wpList_copy_vas rfl (.tmp 7) (.tmp 9) rfl w.heap.size n 16 ⟨g, o + 1, none⟩ m zs rfl rfl (by have := (H.out.new (((li.grown_drewN w q none).trans (World.grownBy_alloc (w.drewN q) (.cells (vc zs).toArray 36) _)).trans (li.grown_drewN _ q2 none))).rv; rwa [HN.out] at this) (heap_alloc_new (w.drewN q) _) ZL.out ?_; intro w2 hw2 hg2; have W2 := Lib.hid hw2; have G2 := Lib.hid hg2; clear hw2 hg2))
  go_ret
  have hn := HN.out
  subst hn
  exact ⟨_, m.length, rfl, Lv.whole W2.out (Nat.le_refl _) (by unfold maxLen; omega), grown_new (((li.grown_drewN w q none).trans (World.grownBy_alloc (w.drewN q) (.cells (vc zs).toArray 36) _)).trans (li.grown_drewN _ q2 none)) G2.out (Nat.le_refl _)⟩
theorem Clear_any (h : Rt w g o cs m) : Calls Tryz.prog 86 #[.pointer (some ⟨g, o, none⟩)] w fun e w' => e = .returned (.tuple #[]) ∧ (∃ cs', Rt w' g o cs' [] ∧ Out o cs cs') ∧ w.grownBy w' (some g) := by
  have TH := Lib.hid (show w.there g o (rc []).toArray.size from fun j hj => by
    rw [rc_size (by simp)] at hj
    refine ⟨?_, h.free _⟩
    rw [h.cell hj, List.getElem?_eq_getElem (by rw [h.2.2.1]; exact hj)]
    rfl)
  have H := Lib.hid h
  clear h
  go_enter Tryz.func86, Tryz.ntmps86
  go_wp2_with (refine wpList_store_mid rfl 62 (.tmp 6) (.tmp 5) rfl g o (rc []).toArray rfl (by kernel_rfl) TH.out (by rw [rc_size (by simp)]; exact info_roots) (rc_one _) ?_)
  go_end0
  have hl := H.out.2.2.len
  have ln : (rc []).length = 33 := rc_length (by simp)
  have hp := heap_setCells (rc []) cs o w H.out.1
  have at_ := putl_at (rc []) cs o (by omega)
  refine ⟨rfl, ⟨putl cs o (rc []), ⟨by simpa using hp, by simp, ln, fun i hi => ?_⟩, putl_len _ _ _, fun i hi => ?_⟩, ?_⟩
  · rw [at_, if_pos (by omega), show o + i - o = i by omega]
  · rw [at_, if_neg (by omega)]
  · exact grown_setCells _ _ _ _
end
end Go.Proofs.YtkgdcgmbapchcaaGreatDoor.rx
