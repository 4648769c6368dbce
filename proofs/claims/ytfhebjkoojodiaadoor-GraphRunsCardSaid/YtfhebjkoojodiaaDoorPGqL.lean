/- Texts that this claim stands on. -/
import Derived.Test.YtfhebjkoojodiaaDoorPGqK
import Derived.Test.YtfhebjkoojodiaaDoorPGqQ
namespace Go.Proofs.YtfhebjkoojodiaaDoor.gq
open Go.ChangeShapes Go.WideShapes Go.ChangeAt Go.RowKit gen va cd gp
set_option linter.unusedVariables false
set_option linter.unusedSimpArgs false
set_option maxHeartbeats 1000000
set_option maxRecDepth 100000
section
variable {w : World} {K : List Nat} {g : Nat} {σ : Gs} {R tc : Nat} {A : Option Addr} {nc : Nat} {vs : Nat → Value} {bs : Nat → Nat}
theorem Tset.alive {o : Nat} {b : Bool} (h : Tw w R o [] b) {w1 : World} (hg : w.grownBy w1 none) : Tset w R o [] true (w1.setCell ⟨R, o + 33, none⟩ (.bool true)) := by
  refine Tset.one h hg (fun cs h1 hc => ⟨.one (gr.grown_set _ _ _ _) (by simp), fun cs' e => ?_⟩)
  rw [h1] at e
  injection e with e
  injection e with e
  subst e
  obtain ⟨t1, t2, t3⟩ := hc
  have e1 := heap_setCell_same _ R (o + 33) _ _ (.bool true) h1
  have s0 := (Array.getElem?_eq_some_iff.1 t2).1
  refine ⟨_, e1, ⟨?_, ?_, fun j hj => ?_⟩, fun j hj => ?_⟩
  · rw [Array.getElem?_setIfInBounds_ne (by omega)]
    exact t1
  · rw [Array.getElem?_setIfInBounds_self_of_lt s0]
  · obtain ⟨x, y, q1, q2, q3⟩ := t3 j hj
    refine ⟨x, y, ?_, ?_, q3⟩
    · rw [Array.getElem?_setIfInBounds_ne (by omega)]
      exact q1
    · rw [Array.getElem?_setIfInBounds_ne (by omega)]
      exact q2
  · rw [Array.getElem?_setIfInBounds_ne (by omega)]
theorem act_1 (h : PwI w K g σ R tc A nc vs bs) {t : Nat} (ht : t < σ.N) (t' i f j c n no : Int) (hl : σ.lv t = false) : Calls Tryd.prog 40 #[.pointer (some ⟨g, 0, none⟩), .pointer (some ⟨R, t * 34, none⟩), .agg #[.int .i64 1, .int .i64 t', .int .i64 i, .int .i64 f, .int .i64 j, .int .i64 c, .int .i64 n], .int .i64 no] w fun e w' => e = .returned (.tuple #[.agg #[.int .i64 0, .int .i64 0], .int .i64 0]) ∧ Pn w K g { σ with lv := upd σ.lv t true, hd := upd σ.hd t [] } R tc w' := by
  obtain ⟨w0, hw0⟩ : ∃ w0, w0 = (w.alloc (.cells #[.int .i64 1, .int .i64 t', .int .i64 i, .int .i64 f, .int .i64 j, .int .i64 c, .int .i64 n] 39)).alloc (.cells #[.int .i64 0, .int .i64 0] 57) := ⟨_, rfl⟩
  have B0 := Lib.hid (show Bx w 1 t' i f j c n w0 by rw [hw0]; exact Bx.start _ _ _ _ _ _ _ _)
  have HW := Lib.hid hw0
  clear hw0
  have H := Lib.hid h
  have TW := h.tw ht
  have c33 := (TW.new B0.out.grow).c33
  have z33 := (TW.new B0.out.grow).free (t * 34 + 33)
  have lt := h.lt R h.kR
  have ne0 : R ≠ w.heap.size + 1 := by omega
  have ne0' := ne0.symm
  have ne1 : R ≠ w.heap.size := by omega
  have ne1' := ne1.symm
  have hd := h.ok.dead t hl
  have TS := Lib.hid (Tset.alive (show Tw w0 R (t * 34) [] (σ.lv t) by rw [hd] at TW; exact TW.new B0.out.grow) (World.grownBy.refl _ none))
  have sz0 := B0.out.sz
  clear h hl TW hd
  obtain ⟨⟨a0, a1, f0, f1⟩, s0, s1, s2, s3, s4, s5, s6⟩ := B0.out.at_
  go_enter Tryd.func40, Tryd.ntmps40
  go_upto_region 3 with fail
  rw [← HW.out]
  go_wp2
  refine bodyPost_ret (v := .tuple #[.agg #[.int .i64 0, .int .i64 0], .int .i64 0]) (by simp [results, Tryd.results40, go_sem, a0, a1, ne0, ne0']) rfl ⟨rfl, ?_⟩
  exact (Pn.tset (H.out.new B0.out.grow) ht TS.out (by simp) (fun v hv => (by cases hv)) (fun _ => rfl)).fin B0.out.grow (Nat.le_succ _) (by omega) H.out.lt (.one (gp.set2 _ _ _ _) (by simp))
def putl (cs : List Value) : Nat → List Value → List Value
  | _, [] => cs
  | o, v :: vs => putl (cs.set o v) (o + 1) vs
theorem putl_at : ∀ (vs : List Value) (cs : List Value) (o : Nat), o + vs.length ≤ cs.length → ∀ i, (putl cs o vs)[i]? = if o ≤ i ∧ i < o + vs.length then vs[i - o]? else cs[i]?
  | [], cs, o, h, i => by unfold putl; rw [if_neg (by rw [List.length_nil]; omega)]
  | v :: vs, cs, o, h, i => by
    rw [List.length_cons] at h
    unfold putl
    rw [putl_at vs (cs.set o v) (o + 1) (by rw [List.length_set]; omega) i, List.length_cons]
    by_cases e : o = i
    · subst e
      rw [if_neg (by omega), if_pos (by omega), Nat.sub_self, List.getElem?_set, if_pos rfl, if_pos (by omega)]
      rfl
    · by_cases h2 : o + 1 ≤ i ∧ i < o + 1 + vs.length
      · rw [if_pos h2, if_pos (by omega), show i - o = (i - (o + 1)) + 1 by omega, List.getElem?_cons_succ]
      · rw [if_neg h2, if_neg (by omega), List.getElem?_set, if_neg e]
theorem heap_setCells {b : Nat} {t : TypeId} : ∀ (vs : List Value) (cs : List Value) (o : Nat) (w : World), w.heap[b]? = some (.cells cs.toArray t (0, 0)) → (w.setCells b o vs).heap[b]? = some (.cells (putl cs o vs).toArray t (0, 0))
  | [], cs, o, w, h => h
  | v :: vs, cs, o, w, h => by
    have h1 := heap_setCell_same w b o _ _ v h
    rw [List.setIfInBounds_toArray] at h1
    exact heap_setCells vs (cs.set o v) (o + 1) (w.setCell ⟨b, o, none⟩ v) h1
theorem grown_setCells (b : Nat) : ∀ (vs : List Value) (o : Nat) (w : World), w.grownBy (w.setCells b o vs) (some b)
  | [], o, w => World.grownBy.refl _ _
  | v :: vs, o, w => (gr.grown_set w b o v).trans (grown_setCells b vs (o + 1) _)
def zc : List Value := .int .i64 0 :: (List.replicate 32 (.int .i64 0) ++ [.bool false])
theorem zc_length : zc.length = 34 := by simp [zc]
theorem zc_mid {x : Nat} (h0 : 0 < x) (h1 : x < 33) : zc[x]? = some (.int .i64 0) := by
  obtain ⟨y, rfl⟩ : ∃ y, x = y + 1 := ⟨x - 1, by omega⟩
  rw [zc, List.getElem?_cons_succ, List.getElem?_append_left (by simp; omega)]
  rw [List.getElem?_replicate, if_pos (by omega)]
theorem info_th2 : (Tryd.prog.info? 84).map (·.size) = some 34 := by kernel_rfl
theorem zc_one : zc.toArray.all (·.oneCell') = true := by
  rw [Array.all_eq_true_iff_forall_mem]
  intro v hv
  simp [zc] at hv
  rcases hv with rfl | rfl | rfl <;> rfl
theorem Tw.there {o : Nat} {m : List Va} {b : Bool} (h : Tw w R o m b) : w.there R o 34 := fun j hj => by
  refine ⟨?_, h.free _⟩
  by_cases e0 : j = 0
  · subst e0
    rw [Nat.add_zero, h.c0]
    rfl
  · by_cases e1 : j = 33
    · subst e1
      rw [h.c33]
      rfl
    · obtain ⟨x, y, q1, q2⟩ := h.any (j := (j - 1) / 2) (by omega)
      rcases Nat.mod_two_eq_zero_or_one (j - 1) with e | e
      · rw [show o + j = o + 1 + (j - 1) / 2 * 2 by omega, q1]
        rfl
      · rw [show o + j = o + 1 + (j - 1) / 2 * 2 + 1 by omega, q2]
        rfl
theorem Tset.over {o : Nat} {m : List Va} {b : Bool} (h : Tw w R o m b) (vs : List Value) (hl : vs.length = 34) (v0 : vs[0]? = some (.int .i64 0)) (v33 : vs[33]? = some (.bool false)) (vm : ∀ x, 0 < x → x < 33 → vs[x]? = some (.int .i64 0)) : Tset w R o [] false (w.setCells R o vs) := by
  refine Tset.one h (World.grownBy.refl _ none) (fun cs h1 hc => ⟨.one (grown_setCells _ _ _ _) (by simp), fun cs' e => ?_⟩)
  rw [h1] at e
  injection e with e
  injection e with e
  subst e
  obtain ⟨t1, t2, t3⟩ := hc
  have s2 := (Array.getElem?_eq_some_iff.1 t2).1
  have hp := heap_setCells vs cs.toList o w (by simpa using h1)
  have at_ := putl_at vs cs.toList o (by rw [hl, Array.length_toList]; omega)
  rw [hl] at at_
  refine ⟨_, hp, ⟨?_, ?_, fun j hj => ⟨0, 0, ?_, ?_, fun hl => by simp at hl⟩⟩, fun j hj => ?_⟩
  · rw [List.getElem?_toArray, at_, if_pos (by omega), Nat.sub_self]
    exact v0
  · rw [List.getElem?_toArray, at_, if_pos (by omega), show o + 33 - o = 33 by omega]
    exact v33
  · rw [List.getElem?_toArray, at_, if_pos (by omega)]
    exact vm _ (by omega) (by omega)
  · rw [List.getElem?_toArray, at_, if_pos (by omega)]
    exact vm _ (by omega) (by omega)
  · rw [List.getElem?_toArray, at_, if_neg (by omega)]
    simp
theorem zc_last : zc[33]? = some (.bool false) := by
  rw [zc, show (33 : Nat) = 32 + 1 from rfl, List.getElem?_cons_succ, List.getElem?_append_right (by simp)]
  simp
theorem Tset.gone {o : Nat} {m : List Va} {b : Bool} (h : Tw w R o m b) : Tset w R o [] false (w.setCells R o zc.toArray.toList) := Tset.over h zc zc_length rfl zc_last (fun x h0 h1 => zc_mid h0 h1)
theorem zc_size : zc.toArray.size = 34 := zc_length
theorem wpList_store_th {o : Nat} {m : List Va} {b : Bool} {ops : Array Oper} {rest : List Oper} {op : Oper} {a : Act} {Q : Exit → Act → World → Prop} (h : Tw w R o m b) (hgd : op.guard = none) (x y : Operand) (ho : op.op = .store 84 x y)
    (hx : a.eval x = .pointer (some ⟨R, o, none⟩)) (hy : a.eval y = .agg zc.toArray) (hk : ∀ X, Tset w R o [] false X → wpList Tryd.prog ops Q rest (a.put op.dst undef) X) : wpList Tryd.prog ops Q (op :: rest) a w :=
  wpList_store_mid hgd 84 x y ho R o zc.toArray hx hy (by rw [zc_size]; exact h.there) (by rw [zc_size]; exact info_th2) zc_one (hk _ (Tset.gone h))
theorem act_2 (h : PwI w K g σ R tc A nc vs bs) {t : Nat} (ht : t < σ.N) (t' i f j c n no : Int) : Calls Tryd.prog 40 #[.pointer (some ⟨g, 0, none⟩), .pointer (some ⟨R, t * 34, none⟩), .agg #[.int .i64 2, .int .i64 t', .int .i64 i, .int .i64 f, .int .i64 j, .int .i64 c, .int .i64 n], .int .i64 no] w fun e w' => e = .returned (.tuple #[.agg #[.int .i64 0, .int .i64 0], .int .i64 0]) ∧ Pn w K g { σ with lv := upd σ.lv t false, hd := upd σ.hd t [] } R tc w' := by
  obtain ⟨w0, hw0⟩ : ∃ w0, w0 = (w.alloc (.cells #[.int .i64 2, .int .i64 t', .int .i64 i, .int .i64 f, .int .i64 j, .int .i64 c, .int .i64 n] 39)).alloc (.cells #[.int .i64 0, .int .i64 0] 57) := ⟨_, rfl⟩
  have B0 := Lib.hid (show Bx w 2 t' i f j c n w0 by rw [hw0]; exact Bx.start _ _ _ _ _ _ _ _)
  have HW := Lib.hid hw0
  clear hw0
  have H := Lib.hid h
  have TW := h.tw ht
  have lt := h.lt R h.kR
  have ne0 : R ≠ w.heap.size + 1 := by omega
  have ne0' := ne0.symm
  have ne1 : R ≠ w.heap.size := by omega
  have ne1' := ne1.symm
  have sz0 := B0.out.sz
  have TWH := Lib.hid (TW.new B0.out.grow)
  clear h TW
  obtain ⟨⟨a0, a1, f0, f1⟩, s0, s1, s2, s3, s4, s5, s6⟩ := B0.out.at_
  go_enter Tryd.func40, Tryd.ntmps40
  go_upto_region 5 with fail
  rw [← HW.out]
  go_wp2_with (refine wpList_store_th TWH.out rfl (.tmp 21) (.tmp 20) rfl rfl (by kernel_rfl) ?_; intro X hX; have TS := Lib.hid hX; obtain ⟨b0, b1, e0, e1⟩ := (TS.out.z2 B0.out.zz (by omega) ne0').at_; clear hX)
  refine bodyPost_ret (v := .tuple #[.agg #[.int .i64 0, .int .i64 0], .int .i64 0]) (by simp [results, Tryd.results40, go_sem, b0, b1, e0, e1]) rfl ⟨rfl, ?_⟩
  exact (Pn.tset (H.out.new B0.out.grow) ht TS.out (by simp) (fun v hv => (by cases hv)) (fun _ => rfl)).fin B0.out.grow (Nat.le_succ _) (by omega) H.out.lt (.one (gp.set2 _ _ _ _) (by simp))
end
end Go.Proofs.YtfhebjkoojodiaaDoor.gq
namespace Go.Proofs.YtfhebjkoojodiaaDoor.gq
open Go.ChangeShapes Go.WideShapes Go.ChangeAt Go.RowKit gen va cd gp
set_option linter.unusedVariables false
set_option linter.unusedSimpArgs false
set_option maxHeartbeats 2000000
set_option maxRecDepth 100000
def Thc (cs : Array Value) (m : List Va) (b : Bool) : Prop := cs.size = 34 ∧ cs.all (·.oneCell') = true ∧ Tc cs 0 m b
theorem tc_one {cs : Array Value} {o : Nat} {m : List Va} {b : Bool} (h : Tc cs o m b) {j : Nat} (hj : j < 34) : ∃ v, cs[o + j]? = some v ∧ v.oneCell' = true := by
  by_cases e0 : j = 0
  · subst e0
    exact ⟨_, h.1, rfl⟩
  · by_cases e1 : j = 33
    · subst e1
      exact ⟨_, h.2.1, rfl⟩
    · obtain ⟨x, y, q1, q2, _⟩ := h.2.2 ((j - 1) / 2) (by omega)
      rcases Nat.mod_two_eq_zero_or_one (j - 1) with e | e
      · exact ⟨_, by rw [show o + j = o + 1 + (j - 1) / 2 * 2 by omega]; exact q1, rfl⟩
      · exact ⟨_, by rw [show o + j = o + 1 + (j - 1) / 2 * 2 + 1 by omega]; exact q2, rfl⟩
section
variable {w : World} {R o : Nat} {m : List Va} {b : Bool}
theorem load_th (h : Tw w R o m b) : ∃ cs : List Value, Thc cs.toArray m b ∧ cs.length = 34 ∧ w.rangeAt R o cs := by
  obtain ⟨cr, h1, h2⟩ := h
  have s2 := (Array.getElem?_eq_some_iff.1 h2.2.1).1
  have at_ : ∀ j, j < 34 → ((cr.toList.drop o).take 34)[j]? = cr[o + j]? := fun j hj => by
    rw [List.getElem?_take, if_pos hj, List.getElem?_drop]
    simp
  have hl : ((cr.toList.drop o).take 34).length = 34 := by rw [List.length_take, List.length_drop, Array.length_toList]; omega
  refine ⟨(cr.toList.drop o).take 34, ⟨hl, ?_, ?_, ?_, fun j hj => ?_⟩, hl, fun j v hj => ?_⟩
  · rw [Array.all_eq_true_iff_forall_mem]
    intro v hv
    rw [List.mem_toArray] at hv
    obtain ⟨j, hj, rfl⟩ := List.mem_iff_getElem.1 hv
    rw [hl] at hj
    obtain ⟨u, e1, e2⟩ := tc_one h2 hj
    have e3 := at_ j hj
    rw [e1, List.getElem?_eq_getElem (by rw [hl]; exact hj)] at e3
    injection e3 with e3
    rw [e3]
    exact e2
  · rw [List.getElem?_toArray, at_ 0 (by omega)]
    exact h2.1
  · rw [List.getElem?_toArray, at_ _ (by omega)]
    have := h2.2.1
    rwa [show o + (0 + 33) = o + 33 by omega]
  · obtain ⟨x, y, q1, q2, q3⟩ := h2.2.2 j hj
    refine ⟨x, y, ?_, ?_, q3⟩
    · rw [List.getElem?_toArray, at_ _ (by omega), show o + (0 + 1 + j * 2) = o + 1 + j * 2 by omega]
      exact q1
    · rw [List.getElem?_toArray, at_ _ (by omega), show o + (0 + 1 + j * 2 + 1) = o + 1 + j * 2 + 1 by omega]
      exact q2
  · have hj' : j < 34 := by have := (List.getElem?_eq_some_iff.1 hj).1; omega
    rw [cell_of_row w R _ _ _ _ h1, ← at_ j hj']
    exact hj
theorem wpList_get_th {ops : Array Oper} {rest : List Oper} {op : Oper} {a : Act} {Q : Exit → Act → World → Prop} (h : Tw w R o m b) (hgd : op.guard = none) (x : Operand) (ho : op.op = .load 84 x)
    (hx : a.eval x = .pointer (some ⟨R, o, none⟩)) (hk : ∀ cs : Array Value, Thc cs m b → wpList Tryd.prog ops Q rest (a.put op.dst (.agg cs)) w) : wpList Tryd.prog ops Q (op :: rest) a w := by
  obtain ⟨cs, h1, h2, h3⟩ := load_th h
  exact wpList_load_mid hgd 84 x ho R o hx cs _ h3 Tryd.underlying84 rfl (by rw [h2]; exact info_th2) (hk _ h1)
theorem wpList_box_th {ops : Array Oper} {rest : List Oper} {op : Oper} {a : Act} {Q : Exit → Act → World → Prop} {cs : Array Value} (h : Thc cs m b) (hgd : op.guard = none) (x y : Operand) (ho : op.op = .store 84 x y)
    (B : Nat) (hx : a.eval x = .pointer (some ⟨B, 0, none⟩)) (hy : a.eval y = .agg cs) {old : Array Value} (hB : w.heap[B]? = some (.cells old 84 (0, 0))) (hs : old.size = 34)
    (hk : ∀ X, Tw X B 0 m b → w.grownBy X (some B) → wpList Tryd.prog ops Q rest (a.put op.dst undef) X) : wpList Tryd.prog ops Q (op :: rest) a w := by
  refine wpList_store_row hgd 84 x y ho B cs hx hy _ _ hB (by rw [h.1]; exact info_th2) (by rw [hs, h.1]) h.2.1 (hk _ ⟨cs, setRow_heap w B _ _ _ _ hB, h.2.2⟩ ?_)
  exact ⟨rfl, rfl, rfl, by simp [World.setRow], fun k _ hk => setRow_other w B k _ (fun e => hk (by simp [e]))⟩
end
section
variable {w : World} {K : List Nat} {g : Nat} {σ : Gs} {R tc : Nat} {A : Option Addr} {nc : Nat} {vs : Nat → Value} {bs : Nat → Nat}
def rts (σ : Gs) (t : Nat) : List (List Va) := (List.range t).map σ.hd
theorem rts_succ (σ : Gs) (t : Nat) : rts σ (t + 1) = rts σ t ++ [σ.hd t] := by simp [rts, List.range_succ]
theorem rts_length (σ : Gs) (t : Nat) : (rts σ t).length = t := by simp [rts]
theorem roots_any (h : PwI w K g σ R tc A nc vs bs) : Calls Tryd.prog 29 #[.pointer (some ⟨g, 0, none⟩)] w
    fun e w' => ∃ v, e = .returned v ∧ Rl w' w.heap.size v (rts σ σ.N) ∧ w.grownBy w' none := by
  have H := Lib.hid h
  have x1 := h.c1
  have hN := h.ok.n
  have LT := Lib.hid h.lt
  clear h
  go_enter Tryd.func29, Tryd.ntmps29
  go_wp2
  go_loopw [3, 11] (fun v x wr => ∃ t : Nat, t ≤ σ.N ∧ x = .int .i64 (t : Int) ∧ Rl wr w.heap.size v (rts σ t) ∧ w.grownBy wr none) (fun _ x _ => σ.N - (intOf x).toNat)
  case atStart => exact ⟨0, Nat.zero_le _, rfl, Rl.nil _ _, World.grownBy.refl _ _⟩
  case round =>
    obtain ⟨t, ht, rfl, hr, hg⟩ := hrel
    have RX := Lib.hid hr
    have GX := Lib.hid hg
    have SX := hg.size
    by_cases hlt : t < σ.N
    · have TWX := Lib.hid ((H.out.new hg).tw hlt)
      have l16 := H.out.ok.hl t
      have l1 : (0 : Int) ≤ (t : Int) := by omega
      have l2 : (t : Int) < (σ.N : Int) := by omega
      obtain ⟨A0, c0, rfl⟩ := hr.size
      clear hr hg
      go_wp2_with (first
        | (refine wpList_get_th TWX.out rfl (.tmp 13) rfl rfl ?_; intro cs hcs; have CS := Lib.hid hcs; clear hcs)
        | (refine wpList_box_th CS.out rfl (.tmp 5) (.tmp 14) rfl wr.heap.size rfl rfl (heap_alloc_new _ _) (by kernel_rfl) ?_; intro X hX hgX; have TX := Lib.hid hX; have G1 := Lib.hid (li.grown_new (grown_alloc wr _) hgX (Nat.le_refl _)); have RLX := Lib.hid (RX.out.new G1.out); clear hX hgX)
        | (go_at_call 47; (with_reducible refine (all_any TX.out l16).mono ?_); rintro e w2 ⟨rfl, hh, hg2⟩; have HH := Lib.hid hh; have G2 := Lib.hid (G1.out.trans hg2); have RL2 := Lib.hid (RLX.out.new hg2); have SZ := Lib.hid (G1.out.size); clear hh hg2)
        | (refine append_rl rfl (.tmp 15) (.tmp 18) rfl w.heap.size _ (rts σ t) rfl (RL2.out.new (grown_alloc w2 (.cells #[.slice (some ⟨X.heap.size, 0, none⟩) (σ.hd t).length (σ.hd t).length] 53))) w2.heap.size (.slice (some ⟨X.heap.size, 0, none⟩) (σ.hd t).length (σ.hd t).length) (σ.hd t) rfl (by simp [go_sem]) ⟨_, _, rfl, (Lv.whole HH.out (by have := SZ.out; omega) (by unfold maxLen; omega)).new (grown_alloc _ _)⟩ (by rw [rts_length]; omega) (by have := SZ.out; have := G2.out.size; simp; omega) ?_; intro v3 w3 h3 g3 f3; have R3 := Lib.hid h3; have G3 := Lib.hid ((GX.out.trans (G2.out.trans (grown_alloc _ _))).andThen g3 (fun j hj => .inl (f3 j hj))); clear h3 g3 f3))
      exact ⟨⟨t + 1, by omega, by go_num, by rw [rts_succ]; exact R3.out, G3.out⟩, by simp [intOf]; omega⟩
    · have et : t = σ.N := by omega
      subst et
      obtain ⟨A0, c0, rfl⟩ := hr.size
      clear hr hg
      go_wp2
      go_ret
      exact ⟨_, rfl, RX.out, GX.out⟩
end
end Go.Proofs.YtfhebjkoojodiaaDoor.gq
