/- Texts that this claim stands on. -/
import Derived.Test.YtfhebjkoojodiaaDoorQGqK
namespace Go.Proofs.YtfhebjkoojodiaaDoor.gq
open Go.ChangeShapes Go.WideShapes Go.ChangeAt Go.RowKit gen va cd gp
set_option linter.unusedVariables false
set_option linter.unusedSimpArgs false
set_option maxHeartbeats 1000000
set_option maxRecDepth 100000
section
variable {w : World} {K : List Nat} {g : Nat} {σ : Gs} {R tc : Nat} {A : Option Addr} {nc : Nat} {vs : Nat → Value} {bs : Nat → Nat}
theorem Tset.alive {o : Nat} {b : Bool} (h : Tw w R o [] b) {w1 : World} (hg : w.grownBy w1 none) : Tset w R o [] true (w1.setCell ⟨R, o + 33, none⟩ (.bool true)) := by
  refine Tset.one h hg (fun cs h1 hc => ⟨.one (gr.grown_set _ _ _ _) (by simp), fun cs' e => ?_⟩)
  rw [h1] at e
  injection e with e
  injection e with e
  subst e
  obtain ⟨t1, t2, t3⟩ := hc
  have e1 := heap_setCell_same _ R (o + 33) _ _ (.bool true) h1
  have s0 := (Array.getElem?_eq_some_iff.1 t2).1
  refine ⟨_, e1, ⟨?_, ?_, fun j hj => ?_⟩, fun j hj => ?_⟩
  · rw [Array.getElem?_setIfInBounds_ne (by omega)]
    exact t1
  · rw [Array.getElem?_setIfInBounds_self_of_lt s0]
  · obtain ⟨x, y, q1, q2, q3⟩ := t3 j hj
    refine ⟨x, y, ?_, ?_, q3⟩
    · rw [Array.getElem?_setIfInBounds_ne (by omega)]
      exact q1
    · rw [Array.getElem?_setIfInBounds_ne (by omega)]
      exact q2
  · rw [Array.getElem?_setIfInBounds_ne (by omega)]
theorem act_1 (h : PwI w K g σ R tc A nc vs bs) {t : Nat} (ht : t < σ.N) (t' i f j c n no : Int) (hl : σ.lv t = false) : Calls Tryd.prog 40 #[.pointer (some ⟨g, 0, none⟩), .pointer (some ⟨R, t * 34, none⟩), .agg #[.int .i64 1, .int .i64 t', .int .i64 i, .int .i64 f, .int .i64 j, .int .i64 c, .int .i64 n], .int .i64 no] w fun e w' => e = .returned (.tuple #[.agg #[.int .i64 0, .int .i64 0], .int .i64 0]) ∧ Pn w K g { σ with lv := upd σ.lv t true, hd := upd σ.hd t [] } R tc w' := by
  obtain ⟨w0, hw0⟩ : ∃ w0, w0 = (w.alloc (.cells #[.int .i64 1, .int .i64 t', .int .i64 i, .int .i64 f, .int .i64 j, .int .i64 c, .int .i64 n] 39)).alloc (.cells #[.int .i64 0, .int .i64 0] 57) := ⟨_, rfl⟩
  have B0 := Lib.hid (show Bx w 1 t' i f j c n w0 by rw [hw0]; exact Bx.start _ _ _ _ _ _ _ _)
  have HW := Lib.hid hw0
  clear hw0
  have H := Lib.hid h
  have TW := h.tw ht
  have c33 := (TW.new B0.out.grow).c33
  have z33 := (TW.new B0.out.grow).free (t * 34 + 33)
  have lt := h.lt R h.kR
  have ne0 : R ≠ w.heap.size + 1 := by omega
  have ne0' := ne0.symm
  have ne1 : R ≠ w.heap.size := by omega
  have ne1' := ne1.symm
  have hd := h.ok.dead t hl
  have TS := Lib.hid (Tset.alive (show Tw w0 R (t * 34) [] (σ.lv t) by rw [hd] at TW; exact TW.new B0.out.grow) (World.grownBy.refl _ none))
  have sz0 := B0.out.sz
  clear h hl TW hd
  obtain ⟨⟨a0, a1, f0, f1⟩, s0, s1, s2, s3, s4, s5, s6⟩ := B0.out.at_
  go_enter Tryd.func40, Tryd.ntmps40
  go_upto_region 3 with fail
  rw [← HW.out]
  go_wp2
  refine bodyPost_ret (v := .tuple #[.agg #[.int .i64 0, .int .i64 0], .int .i64 0]) (by simp [results, Tryd.results40, go_sem, a0, a1, ne0, ne0']) rfl ⟨rfl, ?_⟩
  exact (Pn.tset (H.out.new B0.out.grow) ht TS.out (by simp) (fun v hv => (by cases hv)) (fun _ => rfl)).fin B0.out.grow (Nat.le_succ _) (by omega) H.out.lt (.one (gp.set2 _ _ _ _) (by simp))
def putl (cs : List Value) : Nat → List Value → List Value
  | _, [] => cs
  | o, v :: vs => putl (cs.set o v) (o + 1) vs
theorem putl_at : ∀ (vs : List Value) (cs : List Value) (o : Nat), o + vs.length ≤ cs.length → ∀ i, (putl cs o vs)[i]? = if o ≤ i ∧ i < o + vs.length then vs[i - o]? else cs[i]?
  | [], cs, o, h, i => by unfold putl; rw [if_neg (by rw [List.length_nil]; omega)]
  | v :: vs, cs, o, h, i => by
    rw [List.length_cons] at h
    unfold putl
    rw [putl_at vs (cs.set o v) (o + 1) (by rw [List.length_set]; omega) i, List.length_cons]
    by_cases e : o = i
    · subst e
      rw [if_neg (by omega), if_pos (by omega), Nat.sub_self, List.getElem?_set, if_pos rfl, if_pos (by omega)]
      rfl
    · by_cases h2 : o + 1 ≤ i ∧ i < o + 1 + vs.length
      · rw [if_pos h2, if_pos (by omega), show i - o = (i - (o + 1)) + 1 by omega, List.getElem?_cons_succ]
      · rw [if_neg h2, if_neg (by omega), List.getElem?_set, if_neg e]
theorem heap_setCells {b : Nat} {t : TypeId} : ∀ (vs : List Value) (cs : List Value) (o : Nat) (w : World), w.heap[b]? = some (.cells cs.toArray t (0, 0)) → (w.setCells b o vs).heap[b]? = some (.cells (putl cs o vs).toArray t (0, 0))
  | [], cs, o, w, h => h
  | v :: vs, cs, o, w, h => by
    have h1 := heap_setCell_same w b o _ _ v h
    rw [List.setIfInBounds_toArray] at h1
    exact heap_setCells vs (cs.set o v) (o + 1) (w.setCell ⟨b, o, none⟩ v) h1
theorem grown_setCells (b : Nat) : ∀ (vs : List Value) (o : Nat) (w : World), w.grownBy (w.setCells b o vs) (some b)
  | [], o, w => World.grownBy.refl _ _
  | v :: vs, o, w => (gr.grown_set w b o v).trans (grown_setCells b vs (o + 1) _)
def zc : List Value := .int .i64 0 :: (List.replicate 32 (.int .i64 0) ++ [.bool false])
theorem zc_length : zc.length = 34 := by simp [zc]
theorem zc_mid {x : Nat} (h0 : 0 < x) (h1 : x < 33) : zc[x]? = some (.int .i64 0) := by
  obtain ⟨y, rfl⟩ : ∃ y, x = y + 1 := ⟨x - 1, by omega⟩
  rw [zc, List.getElem?_cons_succ, List.getElem?_append_left (by simp; omega)]
  rw [List.getElem?_replicate, if_pos (by omega)]
theorem info_th2 : (Tryd.prog.info? 84).map (·.size) = some 34 := by kernel_rfl
theorem zc_one : zc.toArray.all (·.oneCell') = true := by
  rw [Array.all_eq_true_iff_forall_mem]
  intro v hv
  simp [zc] at hv
  rcases hv with rfl | rfl | rfl <;> rfl
theorem Tw.there {o : Nat} {m : List Va} {b : Bool} (h : Tw w R o m b) : w.there R o 34 := fun j hj => by
  refine ⟨?_, h.free _⟩
  by_cases e0 : j = 0
  · subst e0
    rw [Nat.add_zero, h.c0]
    rfl
  · by_cases e1 : j = 33
    · subst e1
      rw [h.c33]
      rfl
    · obtain ⟨x, y, q1, q2⟩ := h.any (j := (j - 1) / 2) (by omega)
      rcases Nat.mod_two_eq_zero_or_one (j - 1) with e | e
      · rw [show o + j = o + 1 + (j - 1) / 2 * 2 by omega, q1]
        rfl
      · rw [show o + j = o + 1 + (j - 1) / 2 * 2 + 1 by omega, q2]
        rfl
theorem Tset.over {o : Nat} {m : List Va} {b : Bool} (h : Tw w R o m b) (vs : List Value) (hl : vs.length = 34) (v0 : vs[0]? = some (.int .i64 0)) (v33 : vs[33]? = some (.bool false)) (vm : ∀ x, 0 < x → x < 33 → vs[x]? = some (.int .i64 0)) : Tset w R o [] false (w.setCells R o vs) := by
  refine Tset.one h (World.grownBy.refl _ none) (fun cs h1 hc => ⟨.one (grown_setCells _ _ _ _) (by simp), fun cs' e => ?_⟩)
  rw [h1] at e
  injection e with e
  injection e with e
  subst e
  obtain ⟨t1, t2, t3⟩ := hc
  have s2 := (Array.getElem?_eq_some_iff.1 t2).1
  have hp := heap_setCells vs cs.toList o w (by simpa using h1)
  have at_ := putl_at vs cs.toList o (by rw [hl, Array.length_toList]; omega)
  rw [hl] at at_
  refine ⟨_, hp, ⟨?_, ?_, fun j hj => ⟨0, 0, ?_, ?_, fun hl => by simp at hl⟩⟩, fun j hj => ?_⟩
  · rw [List.getElem?_toArray, at_, if_pos (by omega), Nat.sub_self]
    exact v0
  · rw [List.getElem?_toArray, at_, if_pos (by omega), show o + 33 - o = 33 by omega]
    exact v33
  · rw [List.getElem?_toArray, at_, if_pos (by omega)]
    exact vm _ (by omega) (by omega)
  · rw [List.getElem?_toArray, at_, if_pos (by omega)]
    exact vm _ (by omega) (by omega)
  · rw [List.getElem?_toArray, at_, if_neg (by omega)]
    simp
theorem zc_last : zc[33]? = some (.bool false) := by
  rw [zc, show (33 : Nat) = 32 + 1 from rfl, List.getElem?_cons_succ, List.getElem?_append_right (by simp)]
  simp
theorem Tset.gone {o : Nat} {m : List Va} {b : Bool} (h : Tw w R o m b) : Tset w R o [] false (w.setCells R o zc.toArray.toList) := Tset.over h zc zc_length rfl zc_last (fun x h0 h1 => zc_mid h0 h1)
theorem zc_size : zc.toArray.size = 34 := zc_length
theorem wpList_store_th {o : Nat} {m : List Va} {b : Bool} {ops : Array Oper} {rest : List Oper} {op : Oper} {a : Act} {Q : Exit → Act → World → Prop} (h : Tw w R o m b) (hgd : op.guard = none) (x y : Operand) (ho : op.op = .store 84 x y)
    (hx : a.eval x = .pointer (some ⟨R, o, none⟩)) (hy : a.eval y = .agg zc.toArray) (hk : ∀ X, Tset w R o [] false X → wpList Tryd.prog ops Q rest (a.put op.dst undef) X) : wpList Tryd.prog ops Q (op :: rest) a w :=
  wpList_store_mid hgd 84 x y ho R o zc.toArray hx hy (by rw [zc_size]; exact h.there) (by rw [zc_size]; exact info_th2) zc_one (hk _ (Tset.gone h))
theorem act_2 (h : PwI w K g σ R tc A nc vs bs) {t : Nat} (ht : t < σ.N) (t' i f j c n no : Int) : Calls Tryd.prog 40 #[.pointer (some ⟨g, 0, none⟩), .pointer (some ⟨R, t * 34, none⟩), .agg #[.int .i64 2, .int .i64 t', .int .i64 i, .int .i64 f, .int .i64 j, .int .i64 c, .int .i64 n], .int .i64 no] w fun e w' => e = .returned (.tuple #[.agg #[.int .i64 0, .int .i64 0], .int .i64 0]) ∧ Pn w K g { σ with lv := upd σ.lv t false, hd := upd σ.hd t [] } R tc w' := by
  obtain ⟨w0, hw0⟩ : ∃ w0, w0 = (w.alloc (.cells #[.int .i64 2, .int .i64 t', .int .i64 i, .int .i64 f, .int .i64 j, .int .i64 c, .int .i64 n] 39)).alloc (.cells #[.int .i64 0, .int .i64 0] 57) := ⟨_, rfl⟩
  have B0 := Lib.hid (show Bx w 2 t' i f j c n w0 by rw [hw0]; exact Bx.start _ _ _ _ _ _ _ _)
  have HW := Lib.hid hw0
  clear hw0
  have H := Lib.hid h
  have TW := h.tw ht
  have lt := h.lt R h.kR
  have ne0 : R ≠ w.heap.size + 1 := by omega
  have ne0' := ne0.symm
  have ne1 : R ≠ w.heap.size := by omega
  have ne1' := ne1.symm
  have sz0 := B0.out.sz
  have TWH := Lib.hid (TW.new B0.out.grow)
  clear h TW
  obtain ⟨⟨a0, a1, f0, f1⟩, s0, s1, s2, s3, s4, s5, s6⟩ := B0.out.at_
  go_enter Tryd.func40, Tryd.ntmps40
  go_upto_region 5 with fail
  rw [← HW.out]
  go_wp2_with (refine wpList_store_th TWH.out rfl (.tmp 21) (.tmp 20) rfl rfl (by kernel_rfl) ?_; intro X hX; have TS := Lib.hid hX; obtain ⟨b0, b1, e0, e1⟩ := (TS.out.z2 B0.out.zz (by omega) ne0').at_; clear hX)
  refine bodyPost_ret (v := .tuple #[.agg #[.int .i64 0, .int .i64 0], .int .i64 0]) (by simp [results, Tryd.results40, go_sem, b0, b1, e0, e1]) rfl ⟨rfl, ?_⟩
  exact (Pn.tset (H.out.new B0.out.grow) ht TS.out (by simp) (fun v hv => (by cases hv)) (fun _ => rfl)).fin B0.out.grow (Nat.le_succ _) (by omega) H.out.lt (.one (gp.set2 _ _ _ _) (by simp))
end
end Go.Proofs.YtfhebjkoojodiaaDoor.gq
