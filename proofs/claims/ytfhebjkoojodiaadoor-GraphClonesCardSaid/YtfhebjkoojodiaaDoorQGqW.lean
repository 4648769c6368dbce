/- Texts that this claim stands on. -/
import Derived.Test.YtfhebjkoojodiaaDoorQGqV
import Derived.Test.YtfhebjkoojodiaaDoorQGqP
namespace Go.Proofs.YtfhebjkoojodiaaDoor.gq
open Go.ChangeShapes Go.WideShapes Go.ChangeAt Go.RowKit gen va cd gp
set_option linter.unusedVariables false
set_option linter.unusedSimpArgs false
set_option maxHeartbeats 2000000
set_option maxRecDepth 100000
def Nz (w : World) (base : Nat) (v : Value) (L : List Int) : Prop := ∃ A n c, v = .slice A n c ∧ n = L.length ∧ w.ownsRow base 3 1 (.slice A n c) n (L.map (Value.int .i64)) ∧ Rd w w.heap.size A n c L
theorem Nz.kept {w w' : World} {base : Nat} {v : Value} {L : List Int} {row : Option Nat} (h : Nz w base v L) (hg : w.grownBy w' row) (hr : ∀ q, row = some q → q < base) : Nz w' base v L := by
  obtain ⟨A, n, c, rfl, hn, ho, _⟩ := h
  have ho' := World.ownsRow.kept ho hg (by
    cases e : (Value.slice A n c).ownBlock with
    | none => exact .inl rfl
    | some q =>
      refine .inr (fun e2 => ?_)
      have h1 := (gr.own_lt ho q e).1
      have h2 := hr q e2.symm
      omega)
  obtain ⟨A', c', e, hr'⟩ := Rd.of_own ho'
  injection e with e1 e2 e3
  subst e1 e3
  exact ⟨A, n, c, rfl, hn, ho', hr'⟩
theorem Nz.split {w : World} {base : Nat} {v : Value} {L : List Int} (h : Nz w base v L) : ∃ A n c, v = .slice A n c ∧ n = L.length ∧ Rd w w.heap.size A n c L := by
  obtain ⟨A, n, c, e, hn, _, hr⟩ := h
  exact ⟨A, n, c, e, hn, hr⟩
theorem append_nz {w : World} {ops : Array Oper} {rest : List Oper} {o : Oper} {a : Act} {Q : Exit → Act → World → Prop} (hgd : o.guard = none) (s x : Operand) (ho : o.op = .call { callee := .builtin .append, args := #[s, x], argTypes := #[61, 61] })
    (base : Nat) (v : Value) (L : List Int) (hs : a.eval s = v) (hN : Nz w base v L) (b : Nat) (z : Int) (hx : a.eval x = .slice (some ⟨b, 0, none⟩) 1 1) (hz : w.cell? ⟨b, 0, none⟩ = some (.int .i64 z)) (hm : L.length ≤ 1048575) (hbase : base ≤ w.heap.size)
    (h : ∀ A' n' c' w', Nz w' base (.slice A' n' c') (L ++ [z]) → w.grownBy w' v.ownBlock → (∀ q, v.ownBlock = some q → base ≤ q) → wpList Tryd.prog ops Q rest (a.put o.dst (.slice A' n' c')) w') : wpList Tryd.prog ops Q (o :: rest) a w := by
  obtain ⟨A, n, c, rfl, hn, hown, hrd⟩ := hN
  obtain ⟨i0, hi, hz0, hz1, hz2⟩ := info_parts li.info_int
  subst hn
  refine wpList_append_rd hgd s x 61 ho base 3 i0 (.int .i64 0) 8 Tryd.underlying61 hi hz0 hz1 hz2 rfl _ _ L hs hown (some ⟨b, 0, none⟩) 1 1 w.heap.size [z] hx ⟨rfl, fun e => (by cases e), fun ad e i hi => ?_⟩ (by unfold maxLen; omega) (by omega) hbase (fun A' c' w' k1 k2 k3 => ?_)
  · injection e with e
    subst e
    obtain rfl : i = 0 := by omega
    exact ⟨World.block_lt_of_cell? _ _ hz, by simpa [Addr.add] using hz⟩
  · exact h A' _ c' w' ⟨A', _, c', rfl, by simp, k1, k2⟩ k3 (fun q hq => (gr.own_lt hown q hq).1)
section
variable {w : World} {K : List Nat} {g : Nat} {σ : Gs} {R tc : Nat} {A : Option Addr} {nc : Nat} {vs : Nat → Value} {bs : Nat → Nat}
def lvs (σ : Gs) (t : Nat) : List Int := ((List.range t).filter σ.lv).map fun (i : Nat) => (i : Int)
theorem lvs_yes {t : Nat} (h : σ.lv t = true) : lvs σ (t + 1) = lvs σ t ++ [(t : Int)] := by simp [lvs, List.range_succ, h]
theorem lvs_no {t : Nat} (h : σ.lv t = false) : lvs σ (t + 1) = lvs σ t := by simp [lvs, List.range_succ, h]
theorem lvs_length (t : Nat) : (lvs σ t).length ≤ t := by
  have := List.length_filter_le σ.lv (List.range t)
  simpa [lvs] using this
theorem Live_any (h : PwI w K g σ R tc A nc vs bs) : Calls Tryd.prog 19 #[.pointer (some ⟨g, 0, none⟩)] w
    fun e w' => ∃ A n c, e = .returned (.slice A n c) ∧ n = (lvs σ σ.N).length ∧ Rd w' w'.heap.size A n c (lvs σ σ.N) ∧ w.grownBy w' none := by
  have H := Lib.hid h
  have MA := Lib.hid (made_yes h)
  have x1 := h.c1
  have hN := h.ok.n
  clear h
  go_enter Tryd.func19, Tryd.ntmps19
  go_wp2_with (first
    | (go_at_call 28; (with_reducible refine MA.out.mono ?_); rintro e w1 ⟨rfl, hw⟩; subst hw))
  go_loopw [3, 14] (fun v x wr => ∃ t : Nat, t ≤ σ.N ∧ x = .int .i64 (t : Int) ∧ Nz wr w.heap.size v (lvs σ t) ∧ w.grownBy wr none) (fun _ x _ => σ.N - (intOf x).toNat)
  case atStart =>
    refine ⟨0, Nat.zero_le _, rfl, ⟨none, 0, 0, rfl, rfl, World.ownsRow_nil _ _ _ _, ?_⟩, World.grownBy.refl _ _⟩
    obtain ⟨A', c', e, hr'⟩ := Rd.of_own (xs := []) (World.ownsRow_nil w 0 3 1)
    injection e with e1 e2 e3
    subst e1 e3
    exact hr'
  case round =>
    obtain ⟨t, ht, rfl, hr, hg⟩ := hrel
    have RX := Lib.hid hr
    have GX := Lib.hid hg
    by_cases hlt : t < σ.N
    · have TWX := Lib.hid ((H.out.new hg).tw hlt)
      have l1 : (0 : Int) ≤ (t : Int) := by omega
      have l2 : (t : Int) < (σ.N : Int) := by omega
      obtain ⟨A0, n0, c0, rfl, rfl, -⟩ := hr.split
      have LL := Lib.hid (lvs_length (σ := σ) t)
      have SX := Lib.hid hg.size
      cases hl : σ.lv t with
      | false =>
        have LV := Lib.hid (lvs_no hl)
        rw [hl] at TWX
        clear hr hg
        go_wp2_with (first
          | (refine wpList_get_th TWX.out rfl (.tmp 17) rfl rfl ?_; intro cs hcs; have CS := Lib.hid hcs; clear hcs)
          | (refine wpList_box_th CS.out rfl (.tmp 5) (.tmp 18) rfl wr.heap.size rfl rfl (heap_alloc_new _ _) (by kernel_rfl) ?_; intro X hX hgX; have y33 := hX.c33; rw [Nat.zero_add] at y33; have G4 := Lib.hid (li.grown_new (grown_alloc wr _) hgX (Nat.le_refl _)); clear hX hgX))
        exact ⟨⟨t + 1, by omega, by go_num, by rw [LV.out]; exact RX.out.kept G4.out (by simp), GX.out.trans G4.out⟩, by simp [intOf]; omega⟩
      | true =>
        have LV := Lib.hid (lvs_yes hl)
        rw [hl] at TWX
        clear hr hg
        go_wp2_with (first
          | (refine wpList_get_th TWX.out rfl (.tmp 17) rfl rfl ?_; intro cs hcs; have CS := Lib.hid hcs; clear hcs)
          | (refine wpList_box_th CS.out rfl (.tmp 5) (.tmp 18) rfl wr.heap.size rfl rfl (heap_alloc_new _ _) (by kernel_rfl) ?_; intro X hX hgX; have y33 := hX.c33; rw [Nat.zero_add] at y33; have G4 := Lib.hid (li.grown_new (grown_alloc wr _) hgX (Nat.le_refl _)); clear hX hgX)
          | (refine append_nz rfl (.tmp 21) (.tmp 23) rfl w.heap.size _ _ rfl ((RX.out.kept G4.out (by simp)).kept (grown_alloc X (.cells #[.int .i64 (t : Int)] 3)) (by simp)) X.heap.size (t : Int) rfl (by simp [go_sem]) (by have := LL.out; omega) (by have := SX.out; have := G4.out.size; simp; omega) ?_; intro A3 n3 c3 w3 hn3 hg3 hb3; have N3 := Lib.hid hn3; have G5 := Lib.hid ((GX.out.trans (G4.out.trans (grown_alloc _ _))).andThen hg3 (fun j hj => .inl (hb3 j hj))); clear hn3 hg3 hb3))
        exact ⟨⟨t + 1, by omega, by go_num, by rw [LV.out]; exact N3.out, G5.out⟩, by simp [intOf]; omega⟩
    · have et : t = σ.N := by omega
      subst et
      obtain ⟨A0, n0, c0, rfl, rfl, hrd⟩ := hr.split
      have RD := Lib.hid hrd
      clear hr hg hrd
      go_wp2
      go_ret
      exact ⟨_, _, _, rfl, rfl, RD.out, GX.out⟩
end
end Go.Proofs.YtfhebjkoojodiaaDoor.gq
