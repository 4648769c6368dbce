/- Texts that this claim stands on. -/
import Derived.Test.YtfhebjkoojodiaaDoorPGqV
namespace Go.Proofs.YtfhebjkoojodiaaDoor.gq
open Go.ChangeShapes Go.WideShapes Go.ChangeAt Go.RowKit gen va cd gp
set_option linter.unusedVariables false
set_option linter.unusedSimpArgs false
set_option maxHeartbeats 2000000
set_option maxRecDepth 100000
theorem rl_row {w : World} {base : Nat} {v : Value} {rs : List (List Va)} (h : Rl w base v rs) : ∀ q, v.ownBlock = some q → ∃ cs, w.heap[q]? = some (.cells cs 53 (0, 0)) := fun q hq => by
  obtain ⟨xs, ho, _⟩ := h
  exact own_ty ho q hq
theorem Rl.past {w w' : World} {base : Nat} {v : Value} {rs : List (List Va)} {row : Option Nat} (h : Rl w base v rs) (hg : w.grownBy w' row) (hr : ∀ q, row = some q → ∃ cs, w.heap[q]? = some (Obj.cells cs 55 (0, 0))) : Rl w' base v rs := by
  obtain ⟨xs, ho, hx⟩ := h
  refine ⟨xs, World.ownsRow.kept ho hg ?_, fun i hi => ?_⟩
  · cases e : v.ownBlock with
    | none => exact .inl rfl
    | some q =>
      refine .inr (fun e2 => ?_)
      obtain ⟨c1, c2⟩ := own_ty ho q e
      obtain ⟨c3, c4⟩ := hr q e2.symm
      exact ty_ne' c2 c4 (by decide) rfl
  · obtain ⟨x, h1, h2⟩ := hx i hi
    refine ⟨x, h1, h2.kept hg ?_⟩
    cases e : x.ownBlock with
    | none => exact .inl rfl
    | some q =>
      refine .inr (fun e2 => ?_)
      obtain ⟨c3, c4⟩ := hr q e2.symm
      exact h2.off c4 (fun cs z e => by injection e with _ e _; exact absurd e (by decide)) e
def Vb (w : World) (B : Nat) (v u : Value) : Prop := w.heap[B]? = some (.cells #[v, u] 45 (0, 0))
section
variable {w w' : World} {B : Nat} {v u x : Value}
theorem Vb.at_ (h : Vb w B v u) : w.cell? ⟨B, 0, none⟩ = some v ∧ w.cell? ⟨B, 1, none⟩ = some u ∧ w.frozen? ⟨B, 0, none⟩ = false ∧ w.frozen? ⟨B, 1, none⟩ = false := ⟨(cell_of_row w B 0 _ _ _ h).trans rfl, (cell_of_row w B 1 _ _ _ h).trans rfl, frozen_of_row w B 0 _ _ h, frozen_of_row w B 1 _ _ h⟩
theorem Vb.kept {row : Option Nat} (h : Vb w B v u) (hg : w.grownBy w' row) (hr : row ≠ some B) : Vb w' B v u := (hg.block B (Array.getElem?_eq_some_iff.1 h).1 (fun e => hr e.symm)).trans h
theorem Vb.set0 (h : Vb w B v u) (x : Value) : Vb (w.setCell ⟨B, 0, none⟩ x) B x u := heap_setCell_same w B 0 _ _ x h
theorem Vb.set1 (h : Vb w B v u) (x : Value) : Vb (w.setCell ⟨B, 1, none⟩ x) B v x := heap_setCell_same w B 1 _ _ x h
end
section
variable {w : World} {K : List Nat} {g : Nat} {cf : Nat → Int} {σ : Gs}
theorem rview_any (h : Gw w K g cf σ) : Calls Tryd.prog 16 #[.pointer (some ⟨g, 0, none⟩)] w
    fun e w' => ∃ A1 c1 A2 c2, e = .returned (.agg #[.slice A1 σ.N c1, .slice A2 (vns σ).length c2]) ∧ Rl w' w.heap.size (.slice A1 σ.N c1) (rts σ σ.N) ∧ Nl w' w.heap.size (.slice A2 (vns σ).length c2) (vns σ) ∧ w.grownBy w' none := by
  have OK := Lib.hid h.ok
  have HG := Lib.hid h
  have RE := Lib.hid (fun W (hg : w.grownBy W none) => gp.reached_any (h.new hg))
  have hN := h.ok.n
  have hM := h.ok.m
  obtain ⟨R, A, nc, vs, bs, hi⟩ := h
  have H := Lib.hid hi
  clear hi
  obtain ⟨w0, hw0⟩ : ∃ w0, w0 = (w.alloc (.cells #[.slice none 0 0, .slice none 0 0] 45)).alloc (.cells #[.slice none 0 0, .slice none 0 0] 45) := ⟨_, rfl⟩
  have G0 := Lib.hid (show w.grownBy w0 none by rw [hw0]; exact (grown_alloc _ _).trans (grown_alloc _ _))
  have s0 : w0.heap.size = w.heap.size + 2 := by rw [hw0]; simp
  have VA := Lib.hid (show Vb w0 w.heap.size (.slice none 0 0) (.slice none 0 0) by rw [hw0]; exact heap_two w _ _)
  have VB := Lib.hid (show Vb w0 (w.heap.size + 1) (.slice none 0 0) (.slice none 0 0) by
    rw [hw0]
    have e : (w.alloc (.cells #[.slice none 0 0, .slice none 0 0] 45)).heap.size = w.heap.size + 1 := by simp
    rw [← e]
    exact heap_alloc_new _ _)
  have HW := Lib.hid hw0
  clear hw0
  go_enter Tryd.func16, Tryd.ntmps16
  go_wp2
  go_loopw [4] (fun x wr => ∃ t : Nat, t ≤ σ.N ∧ x = .int .i64 (t : Int) ∧ (∃ v, Vb wr (w.heap.size + 1) v (.slice none 0 0) ∧ Rl wr (w.heap.size + 2) v (rts σ t)) ∧ Vb wr w.heap.size (.slice none 0 0) (.slice none 0 0) ∧ w.grownBy wr none ∧ w.heap.size + 2 ≤ wr.heap.size) (fun x _ => σ.N - (intOf x).toNat)
  case atStart => exact ⟨0, Nat.zero_le _, rfl, ⟨_, by rw [← HW.out]; exact VB.out, Rl.nil _ _⟩, by rw [← HW.out]; exact VA.out, by rw [← HW.out]; exact G0.out, by rw [← HW.out]; omega⟩
  case round =>
    obtain ⟨t, ht, rfl, ⟨v, hv, hr⟩, ha, hg, hs⟩ := hrel
    have RX := Lib.hid hr
    have VX := Lib.hid hv
    have AX := Lib.hid ha
    have GX := Lib.hid hg
    have hq := H.out.new hg
    have x10 := hq.c10
    obtain ⟨b0, b1, z0, z1⟩ := hv.at_
    by_cases hlt : t < σ.N
    · have l1 : (0 : Int) ≤ (t : Int) := by omega
      have l2 : (t : Int) < (σ.N : Int) := by omega
      obtain ⟨C, m, k, hm, hm16, t1, hrv, hC⟩ := hq.hv hlt
      have RV := Lib.hid hrv
      have HC := Lib.hid hC
      have HMM := Lib.hid hm
      obtain ⟨A0, c0, rfl⟩ := hr.size
      clear hr hv ha hg hq hrv hC hm
      go_wp2_with (first
        | (refine append_vas rfl (.tmp 18) (.tmp 26) rfl (w.heap.size + 2) _ [] rfl (Lv.nil _ _) C m k _ (σ.hd t) rfl HC.out RV.out (by simp; omega) hs ?_; intro A3 N3 c3 w2 hn3 own1 gr1; have L3 := Lib.hid (show Lw w2 (w.heap.size + 2) (.slice A3 N3 c3) (σ.hd t) from ⟨A3, c3, by rw [hn3]; rfl, by rw [List.nil_append] at hn3 own1; rw [← hn3]; exact own1⟩); have G3 := Lib.hid (show wr.grownBy w2 none from gr1); have GA := Lib.hid (grown_alloc w2 (.cells #[.slice A3 N3 c3] 53)); have V3 := Lib.hid ((VX.out.kept G3.out (by simp)).kept GA.out (by simp)); obtain ⟨b0, b1, z0, z1⟩ := (VX.out.kept G3.out (by simp)).at_; have S3 := Lib.hid G3.out.size; clear hn3 own1 gr1)
        | (refine append_rl rfl (.tmp 29) (.tmp 31) rfl (w.heap.size + 2) _ (rts σ t) rfl ((RX.out.new G3.out).new GA.out) w2.heap.size (.slice A3 N3 c3) (σ.hd t) rfl (by simp [go_sem]) (L3.out.kept GA.out (by cases (Value.slice A3 N3 c3).ownBlock <;> simp)) (by rw [rts_length]; omega) (by have := S3.out; simp; omega) ?_; intro v4 w4 h4 g4 f4; obtain ⟨A4v, c4v, e4⟩ := h4.size; rw [List.length_append, List.length_singleton] at e4; subst e4; have R4 := Lib.hid h4; have N4 := (rl_row ((RX.out.new G3.out).new GA.out)); have V4 := Lib.hid (V3.out.kept g4 (fun e => by obtain ⟨c1, c2⟩ := N4 _ e; exact ty_ne' c2 V3.out (by decide) rfl)); have A4 := Lib.hid (((AX.out.kept G3.out (by simp)).kept GA.out (by simp)).kept g4 (fun e => by have := f4 _ e; omega)); have G4 := Lib.hid ((GX.out.trans (G3.out.trans GA.out)).andThen g4 (fun j hj => .inl (by have := f4 j hj; omega))); have S4 := Lib.hid g4.size; obtain ⟨q0, q1, y0, y1⟩ := V4.out.at_; clear h4 g4 f4 N4))
      have GS := gr.grown_set w4 (w.heap.size + 1) 0 (.slice A4v ((rts σ t).length + 1) c4v)
      exact ⟨⟨t + 1, by omega, by go_num, ⟨_, V4.out.set0 _, by rw [rts_succ]; exact R4.out.kept GS (fun q e => by injection e; omega)⟩, A4.out.kept GS (fun e => by injection e; omega), li.grown_new G4.out GS (by omega), by have q1 := S4.out; have q2 := S3.out; simp at q1; simp; omega⟩, by simp [intOf]; omega⟩
    · have et : t = σ.N := by omega
      subst et
      obtain ⟨A0, c0, rfl⟩ := hr.size
      clear hr hv ha hg hq
      go_wp2_with (first
        | (go_at_call 31; (with_reducible refine (RE.out _ GX.out).mono ?_); rintro e w1 ⟨m, rfl, hb, hm, hg⟩; have B1 := Lib.hid hb; have M1 := Lib.hid hm; have G1 := Lib.hid (GX.out.trans hg); have V1 := Lib.hid (VX.out.kept hg (by simp)); have A1 := Lib.hid (AX.out.kept hg (by simp)); have R1 := Lib.hid (RX.out.new hg); have S1 := Lib.hid hg.size; clear hb hm hg))
      obtain ⟨mb, hmb⟩ : ∃ mb, mb = wr.heap.size := ⟨_, rfl⟩
      rw [← hmb] at B1 ⊢
      have hs2 : w.heap.size + 2 ≤ mb := by omega
      have hs3 := Lib.hid (show w.heap.size + 2 ≤ w1.heap.size by have := S1.out; omega)
      clear b0 b1 z0 z1 x10 hmb
      go_loopw [7] (fun x wq => ∃ k : Nat, k ≤ σ.M ∧ x = .int .i64 (k : Int) ∧ (∃ u, Vb wq (w.heap.size + 1) (.slice A0 (rts σ σ.N).length c0) u ∧ Nl wq (w.heap.size + 2) u (nds σ m k)) ∧ Rl wq (w.heap.size + 2) (.slice A0 (rts σ σ.N).length c0) (rts σ σ.N) ∧ Vb wq w.heap.size (.slice none 0 0) (.slice none 0 0) ∧ Bb wq mb σ.M m ∧ w.grownBy wq none ∧ w.heap.size + 2 ≤ wq.heap.size) (fun x _ => σ.M - (intOf x).toNat)
      case atStart => exact ⟨0, Nat.zero_le _, rfl, ⟨_, V1.out, Nl.nil _ _⟩, R1.out, A1.out, B1.out, G1.out, hs3.out⟩
      case round =>
        obtain ⟨k, hk, rfl, ⟨u, hv, hn⟩, hr, ha, hb, hg, hs⟩ := hrel
        have NX := Lib.hid hn
        have RX := Lib.hid hr
        have VX := Lib.hid hv
        have AX := Lib.hid ha
        have BX := Lib.hid hb
        have GX := Lib.hid hg
        have hq := H.out.new hg
        have x11 := hq.c11
        obtain ⟨b0, b1, z0, z1⟩ := hv.at_
        obtain ⟨A5, c5, rfl⟩ := hn.size
        by_cases hlt : k < σ.M
        · have m0 := hb.at_ hlt
          have l1 : (0 : Int) ≤ (k : Int) := by omega
          have l2 : (k : Int) < (σ.M : Int) := by omega
          cases hmk : m k with
          | false =>
            rw [hmk] at m0
            have NS := Lib.hid (nds_no (σ := σ) hmk)
            clear hr hv ha hb hg hq hn hmk
            go_wp2
            exact ⟨⟨k + 1, by omega, by go_num, ⟨_, VX.out, by rw [NS.out]; exact NX.out⟩, RX.out, AX.out, BX.out, GX.out, hs⟩, by simp [intOf]; omega⟩
          | true =>
            rw [hmk] at m0
            have NS := Lib.hid (nds_yes (σ := σ) hmk)
            have NLn := Lib.hid (nds_length σ m k)
            obtain ⟨a, rfl, y1⟩ := hq.nv hlt
            have nl := OK.out.nl k
            have RV := Lib.hid (show Rv wr wr.heap.size (some ⟨bs k, 0, none⟩) (σ.nd k).length (σ.nd k).length (σ.nd k) from ⟨rfl, Nat.le_refl _, by unfold maxLen; omega, fun i hi => ⟨bs k, 0, rfl, hq.lt _ (hq.kb k hlt), by rw [Nat.zero_add]; exact (hq.fv hlt hi).1, by rw [Nat.zero_add]; exact (hq.fv hlt hi).2⟩⟩)
            clear hr hv ha hb hg hq hn hmk
            go_wp2_with (first
              | (refine append_vas rfl (.tmp 46) (.tmp 53) rfl (w.heap.size + 2) _ [] rfl (Lv.nil _ _) (some ⟨bs k, 0, none⟩) (σ.nd k).length (σ.nd k).length _ (σ.nd k) rfl (fun e => by cases e) RV.out (by simp; omega) hs ?_; intro A3 N3 c3 w2 hn3 own1 gr1; have L3 := Lib.hid (show Lw w2 (w.heap.size + 2) (.slice A3 N3 c3) (σ.nd k) from ⟨A3, c3, by rw [hn3]; rfl, by rw [List.nil_append] at hn3 own1; rw [← hn3]; exact own1⟩); have G3 := Lib.hid (show wr.grownBy w2 none from gr1); have GA := Lib.hid (grown_alloc w2 (.cells #[.int .i64 (k : Int), .slice A3 N3 c3] 55)); have V3 := Lib.hid ((VX.out.kept G3.out (by simp)).kept GA.out (by simp)); obtain ⟨b0, b1, z0, z1⟩ := (VX.out.kept G3.out (by simp)).at_; have S3 := Lib.hid G3.out.size; clear hn3 own1 gr1)
              | (refine append_nl rfl (.tmp 56) (.tmp 60) rfl (w.heap.size + 2) _ (nds σ m k) rfl ((NX.out.new G3.out).new GA.out) w2.heap.size (k : Int) (.slice A3 N3 c3) (σ.nd k) rfl (by simp [go_sem]) (by simp [go_sem]) (L3.out.kept GA.out (by cases (Value.slice A3 N3 c3).ownBlock <;> simp)) (by have := NLn.out; omega) (by have := S3.out; simp; omega) ?_; intro v4 w4 h4 g4 f4; obtain ⟨A4v, c4v, e4⟩ := h4.size; rw [List.length_append, List.length_singleton] at e4; subst e4; have R4 := Lib.hid h4; have N4 := (nl_row ((NX.out.new G3.out).new GA.out)); have V4 := Lib.hid (V3.out.kept g4 (fun e => by obtain ⟨c1, c2⟩ := N4 _ e; exact ty_ne' c2 V3.out (by decide) rfl)); have A4 := Lib.hid (((AX.out.kept G3.out (by simp)).kept GA.out (by simp)).kept g4 (fun e => by have := f4 _ e; omega)); have B4 := Lib.hid (((BX.out.kept G3.out (by simp)).kept GA.out (by simp)).kept g4 (fun e => by obtain ⟨c1, c2⟩ := N4 _ e; exact ty_ne' c2 ((BX.out.kept G3.out (by simp)).kept GA.out (by simp)) (by decide) rfl)); have RL4 := Lib.hid (((RX.out.new G3.out).new GA.out).past g4 (fun q hq => N4 q hq)); have G4 := Lib.hid ((GX.out.trans (G3.out.trans GA.out)).andThen g4 (fun j hj => .inl (by have := f4 j hj; omega))); have S4 := Lib.hid g4.size; obtain ⟨q0, q1, y2, y3⟩ := V4.out.at_; clear h4 g4 f4 N4))
            have GS := gr.grown_set w4 (w.heap.size + 1) 1 (.slice A4v ((nds σ m k).length + 1) c4v)
            exact ⟨⟨k + 1, by omega, by go_num, ⟨_, V4.out.set1 _, by rw [NS.out]; exact R4.out.kept GS (fun q e => by injection e; omega)⟩, RL4.out.kept GS (fun q e => by injection e; omega), A4.out.kept GS (fun e => by injection e; omega), B4.out.kept GS (fun e => by injection e; omega), li.grown_new G4.out GS (by omega), by have q1 := S4.out; have q2 := S3.out; simp at q1; simp; omega⟩, by simp [intOf]; omega⟩
        · have ek : k = σ.M := by omega
          subst ek
          obtain ⟨a0, a1, z2, z3⟩ := ha.at_
          have NV := Lib.hid (nds_vns M1.out)
          clear hr hv ha hb hg hq hn
          go_wp2
          refine bodyPost_ret (v := .agg #[.slice A0 (rts σ σ.N).length c0, .slice A5 (nds σ m σ.M).length c5]) (by simp [results, Tryd.results16, go_sem, a0, a1]) rfl ?_
          have GS : wr.grownBy ((wr.setCell ⟨w.heap.size, 0, none⟩ (.slice A0 (rts σ σ.N).length c0)).setCell ⟨w.heap.size, 1, none⟩ (.slice A5 (nds σ m σ.M).length c5)) (some w.heap.size) := (gr.grown_set _ _ _ _).trans (gr.grown_set _ _ _ _)
          have q1 := (RX.out.kept GS (fun q e => by injection e; omega)).mono (Nat.le_add_right w.heap.size 2)
          have q2 := (NX.out.kept GS (fun q e => by injection e; omega)).mono (Nat.le_add_right w.heap.size 2)
          rw [NV.out, rts_length] at q1 q2 ⊢
          exact ⟨A0, c0, A5, c5, rfl, q1, q2, li.grown_new GX.out (by rw [NV.out, rts_length] at GS; exact GS) (Nat.le_refl _)⟩
end
end Go.Proofs.YtfhebjkoojodiaaDoor.gq
