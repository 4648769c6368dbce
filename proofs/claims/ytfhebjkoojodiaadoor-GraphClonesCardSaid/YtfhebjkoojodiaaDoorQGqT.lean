/- Texts that this claim stands on. -/
import Derived.Test.YtfhebjkoojodiaaDoorQGqQ
import Derived.Test.YtfhebjkoojodiaaDoorQGqL
namespace Go.Proofs.YtfhebjkoojodiaaDoor.gq
open Go.ChangeShapes Go.WideShapes Go.ChangeAt Go.RowKit gen va cd gp
set_option linter.unusedVariables false
set_option linter.unusedSimpArgs false
set_option maxHeartbeats 2000000
set_option maxRecDepth 100000
def Thc (cs : Array Value) (m : List Va) (b : Bool) : Prop := cs.size = 34 ∧ cs.all (·.oneCell') = true ∧ Tc cs 0 m b
theorem tc_one {cs : Array Value} {o : Nat} {m : List Va} {b : Bool} (h : Tc cs o m b) {j : Nat} (hj : j < 34) : ∃ v, cs[o + j]? = some v ∧ v.oneCell' = true := by
  by_cases e0 : j = 0
  · subst e0
    exact ⟨_, h.1, rfl⟩
  · by_cases e1 : j = 33
    · subst e1
      exact ⟨_, h.2.1, rfl⟩
    · obtain ⟨x, y, q1, q2, _⟩ := h.2.2 ((j - 1) / 2) (by omega)
      rcases Nat.mod_two_eq_zero_or_one (j - 1) with e | e
      · exact ⟨_, by rw [show o + j = o + 1 + (j - 1) / 2 * 2 by omega]; exact q1, rfl⟩
      · exact ⟨_, by rw [show o + j = o + 1 + (j - 1) / 2 * 2 + 1 by omega]; exact q2, rfl⟩
section
variable {w : World} {R o : Nat} {m : List Va} {b : Bool}
theorem load_th (h : Tw w R o m b) : ∃ cs : List Value, Thc cs.toArray m b ∧ cs.length = 34 ∧ w.rangeAt R o cs := by
  obtain ⟨cr, h1, h2⟩ := h
  have s2 := (Array.getElem?_eq_some_iff.1 h2.2.1).1
  have at_ : ∀ j, j < 34 → ((cr.toList.drop o).take 34)[j]? = cr[o + j]? := fun j hj => by
    rw [List.getElem?_take, if_pos hj, List.getElem?_drop]
    simp
  have hl : ((cr.toList.drop o).take 34).length = 34 := by rw [List.length_take, List.length_drop, Array.length_toList]; omega
  refine ⟨(cr.toList.drop o).take 34, ⟨hl, ?_, ?_, ?_, fun j hj => ?_⟩, hl, fun j v hj => ?_⟩
  · rw [Array.all_eq_true_iff_forall_mem]
    intro v hv
    rw [List.mem_toArray] at hv
    obtain ⟨j, hj, rfl⟩ := List.mem_iff_getElem.1 hv
    rw [hl] at hj
    obtain ⟨u, e1, e2⟩ := tc_one h2 hj
    have e3 := at_ j hj
    rw [e1, List.getElem?_eq_getElem (by rw [hl]; exact hj)] at e3
    injection e3 with e3
    rw [e3]
    exact e2
  · rw [List.getElem?_toArray, at_ 0 (by omega)]
    exact h2.1
  · rw [List.getElem?_toArray, at_ _ (by omega)]
    have := h2.2.1
    rwa [show o + (0 + 33) = o + 33 by omega]
  · obtain ⟨x, y, q1, q2, q3⟩ := h2.2.2 j hj
    refine ⟨x, y, ?_, ?_, q3⟩
    · rw [List.getElem?_toArray, at_ _ (by omega), show o + (0 + 1 + j * 2) = o + 1 + j * 2 by omega]
      exact q1
    · rw [List.getElem?_toArray, at_ _ (by omega), show o + (0 + 1 + j * 2 + 1) = o + 1 + j * 2 + 1 by omega]
      exact q2
  · have hj' : j < 34 := by have := (List.getElem?_eq_some_iff.1 hj).1; omega
    rw [cell_of_row w R _ _ _ _ h1, ← at_ j hj']
    exact hj
theorem wpList_get_th {ops : Array Oper} {rest : List Oper} {op : Oper} {a : Act} {Q : Exit → Act → World → Prop} (h : Tw w R o m b) (hgd : op.guard = none) (x : Operand) (ho : op.op = .load 84 x)
    (hx : a.eval x = .pointer (some ⟨R, o, none⟩)) (hk : ∀ cs : Array Value, Thc cs m b → wpList Tryd.prog ops Q rest (a.put op.dst (.agg cs)) w) : wpList Tryd.prog ops Q (op :: rest) a w := by
  obtain ⟨cs, h1, h2, h3⟩ := load_th h
  exact wpList_load_mid hgd 84 x ho R o hx cs _ h3 Tryd.underlying84 rfl (by rw [h2]; exact info_th2) (hk _ h1)
theorem wpList_box_th {ops : Array Oper} {rest : List Oper} {op : Oper} {a : Act} {Q : Exit → Act → World → Prop} {cs : Array Value} (h : Thc cs m b) (hgd : op.guard = none) (x y : Operand) (ho : op.op = .store 84 x y)
    (B : Nat) (hx : a.eval x = .pointer (some ⟨B, 0, none⟩)) (hy : a.eval y = .agg cs) {old : Array Value} (hB : w.heap[B]? = some (.cells old 84 (0, 0))) (hs : old.size = 34)
    (hk : ∀ X, Tw X B 0 m b → w.grownBy X (some B) → wpList Tryd.prog ops Q rest (a.put op.dst undef) X) : wpList Tryd.prog ops Q (op :: rest) a w := by
  refine wpList_store_row hgd 84 x y ho B cs hx hy _ _ hB (by rw [h.1]; exact info_th2) (by rw [hs, h.1]) h.2.1 (hk _ ⟨cs, setRow_heap w B _ _ _ _ hB, h.2.2⟩ ?_)
  exact ⟨rfl, rfl, rfl, by simp [World.setRow], fun k _ hk => setRow_other w B k _ (fun e => hk (by simp [e]))⟩
end
section
variable {w : World} {K : List Nat} {g : Nat} {σ : Gs} {R tc : Nat} {A : Option Addr} {nc : Nat} {vs : Nat → Value} {bs : Nat → Nat}
def rts (σ : Gs) (t : Nat) : List (List Va) := (List.range t).map σ.hd
theorem rts_succ (σ : Gs) (t : Nat) : rts σ (t + 1) = rts σ t ++ [σ.hd t] := by simp [rts, List.range_succ]
theorem rts_length (σ : Gs) (t : Nat) : (rts σ t).length = t := by simp [rts]
theorem roots_any (h : PwI w K g σ R tc A nc vs bs) : Calls Tryd.prog 29 #[.pointer (some ⟨g, 0, none⟩)] w
    fun e w' => ∃ v, e = .returned v ∧ Rl w' w.heap.size v (rts σ σ.N) ∧ w.grownBy w' none := by
  have H := Lib.hid h
  have x1 := h.c1
  have hN := h.ok.n
  have LT := Lib.hid h.lt
  clear h
  go_enter Tryd.func29, Tryd.ntmps29
  go_wp2
  go_loopw [3, 11] (fun v x wr => ∃ t : Nat, t ≤ σ.N ∧ x = .int .i64 (t : Int) ∧ Rl wr w.heap.size v (rts σ t) ∧ w.grownBy wr none) (fun _ x _ => σ.N - (intOf x).toNat)
  case atStart => exact ⟨0, Nat.zero_le _, rfl, Rl.nil _ _, World.grownBy.refl _ _⟩
  case round =>
    obtain ⟨t, ht, rfl, hr, hg⟩ := hrel
    have RX := Lib.hid hr
    have GX := Lib.hid hg
    have SX := hg.size
    by_cases hlt : t < σ.N
    · have TWX := Lib.hid ((H.out.new hg).tw hlt)
      have l16 := H.out.ok.hl t
      have l1 : (0 : Int) ≤ (t : Int) := by omega
      have l2 : (t : Int) < (σ.N : Int) := by omega
      obtain ⟨A0, c0, rfl⟩ := hr.size
      clear hr hg
      go_wp2_with (first
        | (refine wpList_get_th TWX.out rfl (.tmp 13) rfl rfl ?_; intro cs hcs; have CS := Lib.hid hcs; clear hcs)
        | (refine wpList_box_th CS.out rfl (.tmp 5) (.tmp 14) rfl wr.heap.size rfl rfl (heap_alloc_new _ _) (by kernel_rfl) ?_; intro X hX hgX; have TX := Lib.hid hX; have G1 := Lib.hid (li.grown_new (grown_alloc wr _) hgX (Nat.le_refl _)); have RLX := Lib.hid (RX.out.new G1.out); clear hX hgX)
        | (go_at_call 47; (with_reducible refine (all_any TX.out l16).mono ?_); rintro e w2 ⟨rfl, hh, hg2⟩; have HH := Lib.hid hh; have G2 := Lib.hid (G1.out.trans hg2); have RL2 := Lib.hid (RLX.out.new hg2); have SZ := Lib.hid (G1.out.size); clear hh hg2)
        | (refine append_rl rfl (.tmp 15) (.tmp 18) rfl w.heap.size _ (rts σ t) rfl (RL2.out.new (grown_alloc w2 (.cells #[.slice (some ⟨X.heap.size, 0, none⟩) (σ.hd t).length (σ.hd t).length] 53))) w2.heap.size (.slice (some ⟨X.heap.size, 0, none⟩) (σ.hd t).length (σ.hd t).length) (σ.hd t) rfl (by simp [go_sem]) ⟨_, _, rfl, (Lv.whole HH.out (by have := SZ.out; omega) (by unfold maxLen; omega)).new (grown_alloc _ _)⟩ (by rw [rts_length]; omega) (by have := SZ.out; have := G2.out.size; simp; omega) ?_; intro v3 w3 h3 g3 f3; have R3 := Lib.hid h3; have G3 := Lib.hid ((GX.out.trans (G2.out.trans (grown_alloc _ _))).andThen g3 (fun j hj => .inl (f3 j hj))); clear h3 g3 f3))
      exact ⟨⟨t + 1, by omega, by go_num, by rw [rts_succ]; exact R3.out, G3.out⟩, by simp [intOf]; omega⟩
    · have et : t = σ.N := by omega
      subst et
      obtain ⟨A0, c0, rfl⟩ := hr.size
      clear hr hg
      go_wp2
      go_ret
      exact ⟨_, rfl, RX.out, GX.out⟩
end
end Go.Proofs.YtfhebjkoojodiaaDoor.gq
