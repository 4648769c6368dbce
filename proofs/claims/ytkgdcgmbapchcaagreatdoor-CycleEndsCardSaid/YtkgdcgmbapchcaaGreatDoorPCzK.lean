/- Texts that this claim stands on. -/
import Derived.Test.YtkgdcgmbapchcaaGreatDoorPCzI
namespace Go.Proofs.YtkgdcgmbapchcaaGreatDoor.cy
open Go.ChangeShapes Go.WideShapes Go.ChangeAt Go.RowKit gen calls cls geos ce st sh
set_option linter.unusedVariables false
set_option maxHeartbeats 4000000
set_option maxRecDepth 100000
section
variable {w0 W w w1 w' : World} {k : Kn} {c : Cb} {L0 K0 L K M : List Nat} {σ τ : Cy} {y : Hs} {n : Nat}
theorem Write_none (h : Cw w k c L K σ) (hw : wok σ.x) (t : Int) {a i v1 v2 : Int} (hf : fget σ.x a i = none) : Calls Tryz.prog 37 #[.pointer (some ⟨c.B, 0, none⟩), .int .i64 t, .int .i64 a, .int .i64 i, .agg #[.int .i64 v1, .int .i64 v2]] w fun e w' => e = .returned (.bool false) ∧ w.grownBy w' none := by
  have G0 := Lib.hid (World.grownBy_alloc w (.cells #[.int .i64 v1, .int .i64 v2] 36) none)
  have GT := Lib.hid (sGet (h.new G0.out).tw.sr h.tw.iv hw h.tw.s8 a i)
  rw [hf] at GT
  have c0 := (h.new G0.out).cells.1
  have C0 := Lib.hid (wd.Two.new w 36 v1 v2 rfl)
  obtain ⟨d0, d1, _⟩ := C0.out
  clear h hw hf
  go_enter Tryz.func37, Tryz.ntmps37
  go_wp2_with (first
    | (go_at_call 64; (with_reducible refine (there_any _ _).mono ?_); rintro e w1 ⟨rfl, rfl⟩)
    | (go_at_call 83; (with_reducible refine GT.out.mono ?_); rintro e w2 ⟨rfl, hg⟩; have G2 := Lib.hid ((G0.out.trans hg).trans (World.grownBy_alloc w2 (.cells #[.int .i64 (va0 none).1, .int .i64 (va0 none).2] 36) none));  have H2 := Lib.hid hg; clear hg))
  go_quiet (first | fail)
  go_wp2
  go_ret
  exact ⟨rfl, G2.out.trans (li.grown_drewN _ _ _)⟩
theorem Write_dead (h : Cw w k c L K σ) (hw : wok σ.x) {t a i v1 v2 : Int} {u : Va} (hf : fget σ.x a i = some u) (hl : σ.lv t = false) : Calls Tryz.prog 37 #[.pointer (some ⟨c.B, 0, none⟩), .int .i64 t, .int .i64 a, .int .i64 i, .agg #[.int .i64 v1, .int .i64 v2]] w fun e w' => e = .returned (.bool false) ∧ w.grownBy w' none := by
  have G0 := Lib.hid (World.grownBy_alloc w (.cells #[.int .i64 v1, .int .i64 v2] 36) none)
  have GT := Lib.hid (sGet (h.new G0.out).tw.sr h.tw.iv hw h.tw.s8 a i)
  rw [hf] at GT
  obtain ⟨u1, u2⟩ := u
  rw [show va0 (some (u1, u2)) = (u1, u2) from rfl, show (some (u1, u2)).isSome = true from rfl] at GT
  have c0 := (h.new G0.out).cells.1
  have C0 := Lib.hid (wd.Two.new w 36 v1 v2 rfl)
  obtain ⟨d0, d1, _⟩ := C0.out
  have LV := Lib.hid (fun W (hg : w.grownBy W none) => same_symm (Live_any (h.new hg) t))
  rw [hl] at LV
  clear h hw hf hl
  go_enter Tryz.func37, Tryz.ntmps37
  go_wp2_with (first
    | (go_at_call 64; (with_reducible refine (there_any _ _).mono ?_); rintro e w1 ⟨rfl, rfl⟩)
    | (go_at_call 83; (with_reducible refine GT.out.mono ?_); rintro e w2 ⟨rfl, hg⟩; have G2 := Lib.hid ((G0.out.trans hg).trans (World.grownBy_alloc w2 (.cells #[.int .i64 u1, .int .i64 u2] 36) none));  have H2 := Lib.hid hg; clear hg))
  go_quiet (first | (go_at_call 38; refine Calls.quiet_of_same (LV.out _ (G2.out.trans (li.grown_drewN _ _ _)))))
  go_wp2
  go_ret
  exact ⟨rfl, G2.out.trans (li.grown_drewN _ _ _)⟩
theorem Write_not (h : Cw w k c L K σ) (hw : wok σ.x) {t a i v1 v2 : Int} {u : Va} (hf : fget σ.x a i = some u) (hl : σ.lv t = true) (htk : σ.tks (v1, v2) = false) : Calls Tryz.prog 37 #[.pointer (some ⟨c.B, 0, none⟩), .int .i64 t, .int .i64 a, .int .i64 i, .agg #[.int .i64 v1, .int .i64 v2]] w fun e w' => e = .returned (.bool false) ∧ w.grownBy w' none := by
  have G0 := Lib.hid (World.grownBy_alloc w (.cells #[.int .i64 v1, .int .i64 v2] 36) none)
  have GT := Lib.hid (sGet (h.new G0.out).tw.sr h.tw.iv hw h.tw.s8 a i)
  rw [hf] at GT
  obtain ⟨u1, u2⟩ := u
  rw [show va0 (some (u1, u2)) = (u1, u2) from rfl, show (some (u1, u2)).isSome = true from rfl] at GT
  have c0 := (h.new G0.out).cells.1
  have C0 := Lib.hid (wd.Two.new w 36 v1 v2 rfl)
  obtain ⟨d0, d1, _⟩ := C0.out
  have LV := Lib.hid (fun W (hg : w.grownBy W none) => same_symm (Live_any (h.new hg) t))
  rw [hl] at LV
  have TK := Lib.hid (fun W (hg : w.grownBy W none) => takes_any (h.new hg) v1 v2)
  rw [htk] at TK
  have KD := Lib.hid (fun W (hg : (w.alloc (.cells #[.int .i64 v1, .int .i64 v2] 36)).grownBy W none) => (show W.cell? ⟨w.heap.size, 0, none⟩ = some (.int .i64 v1) ∧ W.cell? ⟨w.heap.size, 1, none⟩ = some (.int .i64 v2) from by obtain ⟨d0, d1, _⟩ := wd.Two.below (li.grown_below hg) C0.out; exact ⟨d0, d1⟩))
  clear h hw hf hl htk
  go_enter Tryz.func37, Tryz.ntmps37
  go_wp2_with (first
    | (go_at_call 64; (with_reducible refine (there_any _ _).mono ?_); rintro e w1 ⟨rfl, rfl⟩)
    | (go_at_call 83; (with_reducible refine GT.out.mono ?_); rintro e w2 ⟨rfl, hg⟩; have G2 := Lib.hid ((G0.out.trans hg).trans (World.grownBy_alloc w2 (.cells #[.int .i64 u1, .int .i64 u2] 36) none)); obtain ⟨p0, p1⟩ := KD.out _ (hg.trans (World.grownBy_alloc w2 (.cells #[.int .i64 u1, .int .i64 u2] 36) none)); have A2 := Lib.hid (hg.trans (World.grownBy_alloc w2 (.cells #[.int .i64 u1, .int .i64 u2] 36) none)); have H2 := Lib.hid hg; clear hg))
  go_region_held3 (fun W => W.cell? ⟨w.heap.size, 0, none⟩ = some (.int .i64 v1) ∧ W.cell? ⟨w.heap.size, 1, none⟩ = some (.int .i64 v2)) (first | with_reducible exact ⟨p0, p1⟩ | with_reducible exact H3.out | go_keep) (first
    | (go_at_call 38; (with_reducible refine (LV.out _ (by first | exact G2.out | exact G2.out.trans (li.grown_drewN _ _ _) | exact G2.out.trans (gr.grown_drew _ _))).mono ?_); rintro e w1 ⟨rfl, rfl⟩)
    | (go_at_call 89; (with_reducible refine (TK.out _ (by first | exact G2.out | exact G2.out.trans (li.grown_drewN _ _ _) | exact G2.out.trans (gr.grown_drew _ _))).mono ?_); rintro e w3 ⟨rfl, hg⟩; have A3 := Lib.hid (show (w.alloc (.cells #[.int .i64 v1, .int .i64 v2] 36)).grownBy w3 none from World.grownBy.trans (by first | exact A2.out | exact A2.out.trans (li.grown_drewN _ _ _) | exact A2.out.trans (gr.grown_drew _ _)) hg); have H3 := Lib.hid (KD.out _ A3.out); clear hg))
  all_goals
    go_wp2
    go_ret
    exact ⟨rfl, G0.out.trans (by first | exact A3.out | exact A3.out.trans (li.grown_drewN _ _ _) | exact A3.out.trans (gr.grown_drew _ _))⟩
def Kc (n : Nat) (W w' : World) : Prop := ∀ b o v, n ≤ b → W.cell? ⟨b, o, none⟩ = some v → w'.cell? ⟨b, o, none⟩ = some v
theorem fget_some {x : Hs} {a i : Int} {u : Va} (hf : fget x a i = some u) : ∃ j : Nat, i = j ∧ a ∈ x.tk ∧ (tc.fls x a)[j]? = some u := by
  unfold fget at hf
  split at hf
  · rename_i h
    exact ⟨i.toNat, by omega, h.1, hf⟩
  · cases hf
theorem notes_q (h : Cw w k c L K σ) (t : Nat) : Calls Tryz.prog 91 #[.pointer (some ⟨c.B, 0, none⟩), .int .i64 t] w fun e w' => e = .returned (.bool (σ.notes t)) ∧ ∃ m, w' = w.drewN m := by
  obtain ⟨c0, c1, c2, c3, c4, c5, c6, c7, c8, c9, fz, hz⟩ := h.cells
  have KP := Lib.hid (fun q => same_symm (keeps_any (h.new (li.grown_drewN w q none))))
  have OF := Lib.hid (fun q => same_symm (ep.Of_any (h.new (li.grown_drewN w q none)).rg t))
  have EP := Lib.hid (fun q => same_symm (ep.Epoch_any (h.new (li.grown_drewN w q none)).rg))
  have HE := Lib.hid (show σ.notes t = (σ.keeps || (decide (σ.ph = 1) && decide (ep.of σ.th t = σ.e))) from rfl)
  generalize σ.notes t = y at *
  generalize ep.of σ.th t = z at *
  generalize σ.keeps = b at *
  generalize σ.ph = p at *
  generalize σ.e = ee at *
  clear h
  cases b with
  | true =>
    have HB := Lib.hid (show y = true by rw [HE.out]; rfl)
    clear HE
    go_enter Tryz.func91, Tryz.ntmps91
    go_wp2
    go_quiet (first | (go_at_call 85; refine Calls.quiet_of_same (KP.out _)))
    go_wp2
    go_ret
    exact ⟨by rw [HB.out]; rfl, _, rfl⟩
  | false =>
    by_cases h1 : p = 1
    · subst h1
      by_cases h2 : z = ee
      · subst h2
        have HB := Lib.hid (show y = true by rw [HE.out]; simp)
        clear HE
        go_enter Tryz.func91, Tryz.ntmps91
        go_wp2
        go_quiet (first | (go_at_call 85; refine Calls.quiet_of_same (KP.out _)) | (go_at_call 165; refine Calls.quiet_of_same (OF.out _)) | (go_at_call 166; refine Calls.quiet_of_same (EP.out _)))
        go_wp2
        go_ret
        exact ⟨by rw [HB.out]; rfl, _, rfl⟩
      · have HB := Lib.hid (show y = false by rw [HE.out]; simp [h2])
        have t2 : (z == (ee : Int)) = false := by simpa using h2
        clear HE h2
        go_enter Tryz.func91, Tryz.ntmps91
        go_wp2
        go_quiet (first | (go_at_call 85; refine Calls.quiet_of_same (KP.out _)) | (go_at_call 165; refine Calls.quiet_of_same (OF.out _)) | (go_at_call 166; refine Calls.quiet_of_same (EP.out _)))
        go_wp2
        go_ret
        exact ⟨by rw [HB.out]; rfl, _, rfl⟩
    · have HB := Lib.hid (show y = false by rw [HE.out]; simp [h1])
      have t2 : ((p : Int) == 1) = false := by simp; omega
      clear HE h1
      go_enter Tryz.func91, Tryz.ntmps91
      go_wp2
      go_quiet (first | (go_at_call 85; refine Calls.quiet_of_same (KP.out _)))
      go_wp2
      go_ret
      exact ⟨by rw [HB.out]; rfl, _, rfl⟩
theorem putb_any (h : Cw w k c L K σ) {t : Nat} (ht : t < σ.bf.length) {a : Int} (h1 : 0 ≤ a) (h2 : a < 2048) {W : World} (hg : w.grownBy W none) : Calls Tryz.prog 93 #[.pointer (some ⟨c.b, 0, none⟩), .int .i64 t, .int .i64 a] W fun e w' => (∃ b, e = .returned (.bool b)) ∧ Kc w.heap.size W w' ∧ Cx w k c L K { σ with bf := σ.bf.set t (putb (σ.bf.getD t []) a) } w' := by
  by_cases hm : a ∈ σ.bf.getD t []
  · refine (bf.Put_no (h.new hg).bf t ht a (.inr (.inr hm))).mono fun e w' ⟨k1, k2⟩ => ⟨⟨_, k1⟩, fun b o v _ hc => k2 ▸ hc, ?_⟩
    subst k2
    have e1 : putb (σ.bf.getD t []) a = σ.bf.getD t [] := by unfold putb; rw [if_pos hm]
    have e2 : σ.bf.set t (σ.bf.getD t []) = σ.bf := by
      rw [List.getD_eq_getElem?_getD, List.getElem?_eq_getElem ht]
      exact List.set_getElem_self ht
    rw [e1, e2]
    exact (Cx.start h).new hg
  · have e1 : putb (σ.bf.getD t []) a = σ.bf.getD t [] ++ [a] := by unfold putb; rw [if_neg hm]
    rw [e1]
    exact (bf.Put_yes (h.new hg).bf t ht a h1 h2 hm).mono fun e w' ⟨k1, K', k2, k3, k4⟩ => ⟨⟨_, k1⟩, fun b o v hb hc => (cg k4).cell hc (fun hq => absurd (h.lt b (in_al.2 (by simp [hq]))) (by show ¬ b < w.heap.size; omega)), Cx.base hg ⟨L, K', fun q => .inl, k2, (h.new hg).bufs k2 k3 (cg k4), (cg k4).mono fun q hq => in_al.2 (by simp [hq])⟩⟩
theorem setx_any (h : Cw w k c L K σ) {a s n i : Nat} {v1 v2 : Int} (hb : Ob σ.x a s n) (hs : s < σ.x.cnt) (hz : (n : Int) + 1 ≤ bz σ.x.ks a) (hi : i < n) (hv : wd.vb v1 v2 = true) {τ : Cy} (hx : Cx w k c L K τ W) (he : τ.x = σ.x) : Calls Tryz.prog 94 #[.pointer (some ⟨c.I.S, 0, none⟩), .int .i64 a, .int .i64 i, .agg #[.int .i64 v1, .int .i64 v2]] W fun e w' => (e = .returned (.bool true) ∧ Kc w.heap.size W w') ∧ Cx w k c L K { τ with x := σ.x.stored (a + 1 + i) (wd.wd v1 v2) } w' := by
  have V := (fls_stored (σ := σ) h.tw.iv hb hz hi (v := wd.wd v1 v2) (by have := st.wd_fits v1 v2; omega) hs).1
  exact hx.any fun L' K' hw => (Set_yes (I := c.I) (x := σ.x) (he ▸ hw.tw.sr) hb hi hz hv).mono fun e w' ⟨k1, k2, k3⟩ => ⟨⟨k1, fun b o v hb hc => k3.cell hc (fun hq => absurd (h.lt b (in_al.2 (by simp [sw.IL_all hq]))) (by show ¬ b < w.heap.size; omega))⟩, Cx.step (fun q => .inl) (fun q => .inl) ⟨rfl, rfl, rfl, Nat.le_refl _, fun _ _ _ => rfl⟩ (fun q => .inl) (fun q => .inl) (hw.store k2 V (show σ.x.cnt < _ from h.tw.s8) k3) k3 fun q hq => in_al.2 (by simp [sw.IL_all hq])⟩
theorem Write_yes (h : Cw w k c L K σ) (hi : Inv k σ) {t a i : Nat} {v1 v2 : Int} {u : Va} (ht : t < k.n) (hf : fget σ.x a i = some u) (hl : σ.lv t = true) (htk : σ.tks (v1, v2) = true) : Calls Tryz.prog 37 #[.pointer (some ⟨c.B, 0, none⟩), .int .i64 t, .int .i64 a, .int .i64 i, .agg #[.int .i64 v1, .int .i64 v2]] w fun e w' => e = .returned (.bool true) ∧ Cx w k c L K (σ.wrote t a i (v1, v2)) w' := by
  have hw := hi.wk
  obtain ⟨j, hj, ha, hju⟩ := fget_some hf
  obtain rfl : i = j := by omega
  have G0 := Lib.hid (World.grownBy_alloc w (.cells #[.int .i64 v1, .int .i64 v2] 36) none)
  have GT := Lib.hid (sGet (h.new G0.out).tw.sr h.tw.iv hw h.tw.s8 a i)
  rw [hf] at GT
  obtain ⟨u1, u2⟩ := u
  rw [show va0 (some (u1, u2)) = (u1, u2) from rfl, show (some (u1, u2)).isSome = true from rfl] at GT
  have c0 := (h.new G0.out).cells.1
  have C0 := Lib.hid (wd.Two.new w 36 v1 v2 rfl)
  have LV := Lib.hid (fun W (hg : w.grownBy W none) => same_symm (Live_any (h.new hg) t))
  rw [hl] at LV
  have TK := Lib.hid (fun W (hg : w.grownBy W none) => takes_any (h.new hg) v1 v2)
  rw [htk] at TK
  have KD := Lib.hid (fun W (hg : (w.alloc (.cells #[.int .i64 v1, .int .i64 v2] 36)).grownBy W none) => (show W.cell? ⟨w.heap.size, 0, none⟩ = some (.int .i64 v1) ∧ W.cell? ⟨w.heap.size, 1, none⟩ = some (.int .i64 v2) from by obtain ⟨d0, d1, _⟩ := wd.Two.below (li.grown_below hg) C0.out; exact ⟨d0, d1⟩))
  have KU := Lib.hid (fun (w2 W : World) (hg : (w2.alloc (.cells #[.int .i64 u1, .int .i64 u2] 36)).grownBy W none) => (show W.cell? ⟨w2.heap.size, 0, none⟩ = some (.int .i64 u1) ∧ W.cell? ⟨w2.heap.size, 1, none⟩ = some (.int .i64 u2) from by obtain ⟨d0, d1, _⟩ := wd.Two.below (li.grown_below hg) (wd.Two.new w2 36 u1 u2 rfl); exact ⟨d0, d1⟩))
  have NQ := Lib.hid (fun W (hg : w.grownBy W none) => notes_q (h.new hg) t)
  have NG := Lib.hid (fun W (hg : w.grownBy W none) => show Calls Tryz.prog 91 #[.pointer (some ⟨c.B, 0, none⟩), .int .i64 t] W fun e w' => e = .returned (.bool (σ.notes t)) ∧ W.grownBy w' none from (NQ.out W hg).mono fun e w' ⟨he, m, hm⟩ => ⟨he, hm ▸ li.grown_drewN W m none⟩)
  have CC := Lib.hid (fun W (hg : w.grownBy W none) => And.intro (h.new hg).cells.1 (h.new hg).cells.2.2.2.2.2.2.1)
  have XS := Lib.hid (fun W (hg : w.grownBy W none) => (Cx.start h).new hg)
  have SET := Lib.hid (show (∀ W τ, Cx w k c L K τ W → τ.x = σ.x → Calls Tryz.prog 94 #[.pointer (some ⟨c.I.S, 0, none⟩), .int .i64 a, .int .i64 i, .agg #[.int .i64 v1, .int .i64 v2]] W fun e w' => (e = .returned (.bool true) ∧ Kc w.heap.size W w') ∧ Cx w k c L K { τ with x := σ.x.stored (a + 1 + i) (wd.wd v1 v2) } w') from fun W τ hx he => by
    obtain ⟨A, s, n, e1, h1, h2, h3, h4, _⟩ := ob_at h.tw.iv h.tw.s8 ha
    obtain rfl : a = A := by omega
    refine setx_any h h1 h3 h2 ?_ ?_ hx he
    · have := (List.getElem?_eq_some_iff.1 hju).1
      omega
    · unfold Cy.tks at htk
      simp only [Bool.and_eq_true, decide_eq_true_eq] at htk
      unfold wd.vb
      simpa using htk.1)
  have gu : (tc.fls σ.x a).getD i (0, 0) = (u1, u2) := by rw [List.getD_eq_getElem?_getD, hju]; rfl
  have FN := Lib.hid (show σ.wrote t a i (v1, v2) = { σ with x := σ.x.stored (a + 1 + i) (wd.wd v1 v2), bf := if σ.notes t = true ∧ σ.white (u1, u2) = true then σ.bf.set t (putb (σ.bf.getD t []) u2) else σ.bf } by unfold Cy.wrote; rw [gu])
  have in2 : σ.notes t = true → u1 = 2 → u2 ∈ σ.x.tk := fun hn h2 => by
    have h5 : σ.ph ≠ 5 := fun e => by
      unfold Cy.notes Cy.keeps at hn
      rw [e] at hn
      simp at hn
    subst h2
    exact (hi.cl a (good_of h5 ha) i u2 hju).1
  have WH := Lib.hid (fun (hn : σ.notes t = true) W (hg : w.grownBy W none) => show Calls Tryz.prog 92 #[.pointer (some ⟨c.B, 0, none⟩), .agg #[.int .i64 u1, .int .i64 u2]] W fun e w' => e = .returned (.bool (σ.white (u1, u2))) ∧ W.grownBy w' none from by
    by_cases h2 : u1 = 2
    · have := in2 hn h2
      subst h2
      exact white_yes (h.new hg) this
    · exact white_no (h.new hg) h2)
  have PUT := Lib.hid (fun (hn : σ.notes t = true) (hwh : σ.white (u1, u2) = true) W (hg : w.grownBy W none) => by
    have hr := hi.rg (a := u2) (by unfold Cy.white at hwh; simp only [Bool.and_eq_true, decide_eq_true_eq] at hwh; exact hwh.1.2)
    exact putb_any h (t := t) (by rw [hi.bfl]; exact ht) hr.1 hr.2.1 hg)
  clear h hi hw hf hl htk gu in2 ha hju hj ht
  generalize σ.wrote t a i (v1, v2) = σ' at *
  cases hn : σ.notes t with
  | false =>
    rw [hn] at NQ FN
    rw [if_neg (fun e => absurd e.1 (by decide))] at FN
    clear WH PUT hn
    go_enter Tryz.func37, Tryz.ntmps37
    go_wp2_with (first
      | (go_at_call 64; (with_reducible refine (there_any _ _).mono ?_); rintro e w1 ⟨rfl, rfl⟩)
      | (go_at_call 83; (with_reducible refine GT.out.mono ?_); rintro e w2 ⟨rfl, hg⟩; have Z2 := Lib.hid (Nat.le_trans G0.out.size hg.size); have B2 := Lib.hid (World.grownBy.refl (w2.alloc (.cells #[.int .i64 u1, .int .i64 u2] 36)) none); have A2 := Lib.hid (hg.trans (World.grownBy_alloc w2 (.cells #[.int .i64 u1, .int .i64 u2] 36) none)); have G2 := Lib.hid (G0.out.trans A2.out); obtain ⟨p0, p1⟩ := KD.out _ A2.out; clear hg))
    go_region_held3 (fun W => W.cell? ⟨w.heap.size, 0, none⟩ = some (.int .i64 v1) ∧ W.cell? ⟨w.heap.size, 1, none⟩ = some (.int .i64 v2)) (first | with_reducible exact ⟨p0, p1⟩ | with_reducible exact H3.out | go_keep) (first
      | (go_at_call 38; (with_reducible refine (LV.out _ (by first | exact G2.out | exact World.grownBy.trans G2.out (li.grown_drewN _ _ _) | exact World.grownBy.trans G2.out (gr.grown_drew _ _))).mono ?_); rintro e w1 ⟨rfl, rfl⟩)
      | (go_at_call 89; (with_reducible refine (TK.out _ (by first | exact G2.out | exact World.grownBy.trans G2.out (li.grown_drewN _ _ _) | exact World.grownBy.trans G2.out (gr.grown_drew _ _))).mono ?_); rintro e w3 ⟨rfl, hg⟩; have A3 := Lib.hid (show (w.alloc (.cells #[.int .i64 v1, .int .i64 v2] 36)).grownBy w3 none from World.grownBy.trans (by first | exact A2.out | exact World.grownBy.trans A2.out (li.grown_drewN _ _ _) | exact World.grownBy.trans A2.out (gr.grown_drew _ _)) hg); have B3 := Lib.hid (show (w2.alloc (.cells #[.int .i64 u1, .int .i64 u2] 36)).grownBy w3 none from World.grownBy.trans (by first | exact B2.out | exact World.grownBy.trans B2.out (li.grown_drewN _ _ _) | exact World.grownBy.trans B2.out (gr.grown_drew _ _)) hg); have G3 := Lib.hid (G0.out.trans A3.out); have H3 := Lib.hid (KD.out _ A3.out); clear hg))
    go_wp2
    go_quiet (first | (go_at_call 91; refine Calls.quiet_of (NQ.out _ (G3.out.trans (li.grown_drewN _ _ _)))))
    go_wp2
    obtain ⟨r1, r2⟩ := KD.out _ A3.out
    have r0 := (CC.out _ G3.out).1
    go_region_held3 (fun W => W.cell? ⟨c.B, 0, none⟩ = some (.pointer (some ⟨c.I.S, 0, none⟩)) ∧ W.cell? ⟨w.heap.size, 0, none⟩ = some (.int .i64 v1) ∧ W.cell? ⟨w.heap.size, 1, none⟩ = some (.int .i64 v2)) (first | with_reducible exact ⟨r0, r1, r2⟩ | with_reducible exact H7.out | go_keep) (first
      | (go_at_call 94; (with_reducible refine (SET.out _ σ (by first | exact XS.out _ (G3.out.trans (li.grown_drewN _ _ _)) | exact XS.out _ ((G3.out.trans (li.grown_drewN _ _ _)).trans (li.grown_drewN _ _ _)) | exact XS.out _ ((G3.out.trans (li.grown_drewN _ _ _)).trans (gr.grown_drew _ _))) rfl).mono ?_); rintro e w7 ⟨⟨rfl, kc⟩, hx⟩; have X7 := Lib.hid hx; have H7 := Lib.hid (And.intro hx.cells.1 (And.intro (kc _ _ _ (Nat.le_refl _) (by first | exact r1 | go_keep)) (kc _ _ _ (Nat.le_refl _) (by first | exact r2 | go_keep)))); clear hx kc))
    go_wp2
    go_ret
    exact ⟨rfl, by rw [FN.out]; exact X7.out⟩
  | true =>
    rw [hn] at NG FN
    have WH := Lib.hid (WH.out hn)
    cases hwh : σ.white (u1, u2) with
    | false =>
      rw [hwh] at WH FN
      rw [if_neg (fun e => absurd e.2 (by decide))] at FN
      clear PUT hn hwh
      go_enter Tryz.func37, Tryz.ntmps37
      go_wp2_with (first
        | (go_at_call 64; (with_reducible refine (there_any _ _).mono ?_); rintro e w1 ⟨rfl, rfl⟩)
        | (go_at_call 83; (with_reducible refine GT.out.mono ?_); rintro e w2 ⟨rfl, hg⟩; have Z2 := Lib.hid (Nat.le_trans G0.out.size hg.size); have B2 := Lib.hid (World.grownBy.refl (w2.alloc (.cells #[.int .i64 u1, .int .i64 u2] 36)) none); have A2 := Lib.hid (hg.trans (World.grownBy_alloc w2 (.cells #[.int .i64 u1, .int .i64 u2] 36) none)); have G2 := Lib.hid (G0.out.trans A2.out); obtain ⟨p0, p1⟩ := KD.out _ A2.out; clear hg))
      go_region_held3 (fun W => W.cell? ⟨w.heap.size, 0, none⟩ = some (.int .i64 v1) ∧ W.cell? ⟨w.heap.size, 1, none⟩ = some (.int .i64 v2)) (first | with_reducible exact ⟨p0, p1⟩ | with_reducible exact H3.out | go_keep) (first
        | (go_at_call 38; (with_reducible refine (LV.out _ (by first | exact G2.out | exact World.grownBy.trans G2.out (li.grown_drewN _ _ _) | exact World.grownBy.trans G2.out (gr.grown_drew _ _))).mono ?_); rintro e w1 ⟨rfl, rfl⟩)
        | (go_at_call 89; (with_reducible refine (TK.out _ (by first | exact G2.out | exact World.grownBy.trans G2.out (li.grown_drewN _ _ _) | exact World.grownBy.trans G2.out (gr.grown_drew _ _))).mono ?_); rintro e w3 ⟨rfl, hg⟩; have A3 := Lib.hid (show (w.alloc (.cells #[.int .i64 v1, .int .i64 v2] 36)).grownBy w3 none from World.grownBy.trans (by first | exact A2.out | exact World.grownBy.trans A2.out (li.grown_drewN _ _ _) | exact World.grownBy.trans A2.out (gr.grown_drew _ _)) hg); have B3 := Lib.hid (show (w2.alloc (.cells #[.int .i64 u1, .int .i64 u2] 36)).grownBy w3 none from World.grownBy.trans (by first | exact B2.out | exact World.grownBy.trans B2.out (li.grown_drewN _ _ _) | exact World.grownBy.trans B2.out (gr.grown_drew _ _)) hg); have G3 := Lib.hid (G0.out.trans A3.out); have H3 := Lib.hid (KD.out _ A3.out); clear hg))
      go_wp2
      obtain ⟨q0, q1⟩ := KU.out _ _ B3.out
      go_region_held3 (fun W => W.cell? ⟨w2.heap.size, 0, none⟩ = some (.int .i64 u1) ∧ W.cell? ⟨w2.heap.size, 1, none⟩ = some (.int .i64 u2)) (first | with_reducible exact ⟨q0, q1⟩ | with_reducible exact H4.out | with_reducible exact H5.out | go_keep) (first
        | (go_at_call 91; (with_reducible refine (NG.out _ (by first | exact G3.out | exact World.grownBy.trans G3.out (li.grown_drewN _ _ _) | exact World.grownBy.trans G3.out (gr.grown_drew _ _))).mono ?_); rintro e w4 ⟨rfl, hg⟩; have A4 := Lib.hid (show (w.alloc (.cells #[.int .i64 v1, .int .i64 v2] 36)).grownBy w4 none from World.grownBy.trans (by first | exact A3.out | exact World.grownBy.trans A3.out (li.grown_drewN _ _ _) | exact World.grownBy.trans A3.out (gr.grown_drew _ _)) hg); have B4 := Lib.hid (show (w2.alloc (.cells #[.int .i64 u1, .int .i64 u2] 36)).grownBy w4 none from World.grownBy.trans (by first | exact B3.out | exact World.grownBy.trans B3.out (li.grown_drewN _ _ _) | exact World.grownBy.trans B3.out (gr.grown_drew _ _)) hg); have G4 := Lib.hid (G0.out.trans A4.out); have H4 := Lib.hid (KU.out _ _ B4.out); clear hg)
        | (go_at_call 92; (with_reducible refine (WH.out _ (by first | exact G4.out | exact World.grownBy.trans G4.out (li.grown_drewN _ _ _) | exact World.grownBy.trans G4.out (gr.grown_drew _ _))).mono ?_); rintro e w5 ⟨rfl, hg⟩; have A5 := Lib.hid (show (w.alloc (.cells #[.int .i64 v1, .int .i64 v2] 36)).grownBy w5 none from World.grownBy.trans (by first | exact A4.out | exact World.grownBy.trans A4.out (li.grown_drewN _ _ _) | exact World.grownBy.trans A4.out (gr.grown_drew _ _)) hg); have B5 := Lib.hid (show (w2.alloc (.cells #[.int .i64 u1, .int .i64 u2] 36)).grownBy w5 none from World.grownBy.trans (by first | exact B4.out | exact World.grownBy.trans B4.out (li.grown_drewN _ _ _) | exact World.grownBy.trans B4.out (gr.grown_drew _ _)) hg); have G5 := Lib.hid (G0.out.trans A5.out); have H5 := Lib.hid (KU.out _ _ B5.out); clear hg))
      go_wp2
      obtain ⟨r1, r2⟩ := KD.out _ A5.out
      have r0 := (CC.out _ G5.out).1
      go_region_held3 (fun W => W.cell? ⟨c.B, 0, none⟩ = some (.pointer (some ⟨c.I.S, 0, none⟩)) ∧ W.cell? ⟨w.heap.size, 0, none⟩ = some (.int .i64 v1) ∧ W.cell? ⟨w.heap.size, 1, none⟩ = some (.int .i64 v2)) (first | with_reducible exact ⟨r0, r1, r2⟩ | with_reducible exact H7.out | go_keep) (first
        | (go_at_call 94; (with_reducible refine (SET.out _ σ (XS.out _ (by first | exact G5.out | exact World.grownBy.trans G5.out (li.grown_drewN _ _ _) | exact World.grownBy.trans G5.out (gr.grown_drew _ _))) rfl).mono ?_); rintro e w7 ⟨⟨rfl, kc⟩, hx⟩; have X7 := Lib.hid hx; have H7 := Lib.hid (And.intro hx.cells.1 (And.intro (kc _ _ _ (Nat.le_refl _) (by first | exact r1 | go_keep)) (kc _ _ _ (Nat.le_refl _) (by first | exact r2 | go_keep)))); clear hx kc))
      go_wp2
      go_ret
      exact ⟨rfl, by rw [FN.out]; exact X7.out⟩
    | true =>
      have PUT := Lib.hid (PUT.out hn hwh)
      rw [hwh] at WH FN
      rw [if_pos ⟨rfl, rfl⟩] at FN
      clear hn hwh
      go_enter Tryz.func37, Tryz.ntmps37
      go_wp2_with (first
        | (go_at_call 64; (with_reducible refine (there_any _ _).mono ?_); rintro e w1 ⟨rfl, rfl⟩)
        | (go_at_call 83; (with_reducible refine GT.out.mono ?_); rintro e w2 ⟨rfl, hg⟩; have Z2 := Lib.hid (Nat.le_trans G0.out.size hg.size); have B2 := Lib.hid (World.grownBy.refl (w2.alloc (.cells #[.int .i64 u1, .int .i64 u2] 36)) none); have A2 := Lib.hid (hg.trans (World.grownBy_alloc w2 (.cells #[.int .i64 u1, .int .i64 u2] 36) none)); have G2 := Lib.hid (G0.out.trans A2.out); obtain ⟨p0, p1⟩ := KD.out _ A2.out; clear hg))
      go_region_held3 (fun W => W.cell? ⟨w.heap.size, 0, none⟩ = some (.int .i64 v1) ∧ W.cell? ⟨w.heap.size, 1, none⟩ = some (.int .i64 v2)) (first | with_reducible exact ⟨p0, p1⟩ | with_reducible exact H3.out | go_keep) (first
        | (go_at_call 38; (with_reducible refine (LV.out _ (by first | exact G2.out | exact World.grownBy.trans G2.out (li.grown_drewN _ _ _) | exact World.grownBy.trans G2.out (gr.grown_drew _ _))).mono ?_); rintro e w1 ⟨rfl, rfl⟩)
        | (go_at_call 89; (with_reducible refine (TK.out _ (by first | exact G2.out | exact World.grownBy.trans G2.out (li.grown_drewN _ _ _) | exact World.grownBy.trans G2.out (gr.grown_drew _ _))).mono ?_); rintro e w3 ⟨rfl, hg⟩; have A3 := Lib.hid (show (w.alloc (.cells #[.int .i64 v1, .int .i64 v2] 36)).grownBy w3 none from World.grownBy.trans (by first | exact A2.out | exact World.grownBy.trans A2.out (li.grown_drewN _ _ _) | exact World.grownBy.trans A2.out (gr.grown_drew _ _)) hg); have B3 := Lib.hid (show (w2.alloc (.cells #[.int .i64 u1, .int .i64 u2] 36)).grownBy w3 none from World.grownBy.trans (by first | exact B2.out | exact World.grownBy.trans B2.out (li.grown_drewN _ _ _) | exact World.grownBy.trans B2.out (gr.grown_drew _ _)) hg); have G3 := Lib.hid (G0.out.trans A3.out); have H3 := Lib.hid (KD.out _ A3.out); clear hg))
      go_wp2
      obtain ⟨q0, q1⟩ := KU.out _ _ B3.out
      go_region_held3 (fun W => W.cell? ⟨w2.heap.size, 0, none⟩ = some (.int .i64 u1) ∧ W.cell? ⟨w2.heap.size, 1, none⟩ = some (.int .i64 u2)) (first | with_reducible exact ⟨q0, q1⟩ | with_reducible exact H4.out | with_reducible exact H5.out | go_keep) (first
        | (go_at_call 91; (with_reducible refine (NG.out _ (by first | exact G3.out | exact World.grownBy.trans G3.out (li.grown_drewN _ _ _) | exact World.grownBy.trans G3.out (gr.grown_drew _ _))).mono ?_); rintro e w4 ⟨rfl, hg⟩; have A4 := Lib.hid (show (w.alloc (.cells #[.int .i64 v1, .int .i64 v2] 36)).grownBy w4 none from World.grownBy.trans (by first | exact A3.out | exact World.grownBy.trans A3.out (li.grown_drewN _ _ _) | exact World.grownBy.trans A3.out (gr.grown_drew _ _)) hg); have B4 := Lib.hid (show (w2.alloc (.cells #[.int .i64 u1, .int .i64 u2] 36)).grownBy w4 none from World.grownBy.trans (by first | exact B3.out | exact World.grownBy.trans B3.out (li.grown_drewN _ _ _) | exact World.grownBy.trans B3.out (gr.grown_drew _ _)) hg); have G4 := Lib.hid (G0.out.trans A4.out); have H4 := Lib.hid (KU.out _ _ B4.out); clear hg)
        | (go_at_call 92; (with_reducible refine (WH.out _ (by first | exact G4.out | exact World.grownBy.trans G4.out (li.grown_drewN _ _ _) | exact World.grownBy.trans G4.out (gr.grown_drew _ _))).mono ?_); rintro e w5 ⟨rfl, hg⟩; have A5 := Lib.hid (show (w.alloc (.cells #[.int .i64 v1, .int .i64 v2] 36)).grownBy w5 none from World.grownBy.trans (by first | exact A4.out | exact World.grownBy.trans A4.out (li.grown_drewN _ _ _) | exact World.grownBy.trans A4.out (gr.grown_drew _ _)) hg); have B5 := Lib.hid (show (w2.alloc (.cells #[.int .i64 u1, .int .i64 u2] 36)).grownBy w5 none from World.grownBy.trans (by first | exact B4.out | exact World.grownBy.trans B4.out (li.grown_drewN _ _ _) | exact World.grownBy.trans B4.out (gr.grown_drew _ _)) hg); have G5 := Lib.hid (G0.out.trans A5.out); have H5 := Lib.hid (KU.out _ _ B5.out); clear hg))
      go_wp2
      have e6 := (CC.out _ G5.out).2
      have e1 := (KU.out _ _ B5.out).2
      go_region_held3 (fun W => W.cell? ⟨c.B, 6, none⟩ = some (.pointer (some ⟨c.b, 0, none⟩)) ∧ W.cell? ⟨w2.heap.size, 1, none⟩ = some (.int .i64 u2)) (first | with_reducible exact ⟨e6, e1⟩ | with_reducible exact H6.out | go_keep) (first
        | (go_at_call 93; (with_reducible refine (PUT.out _ (by first | exact G5.out | exact World.grownBy.trans G5.out (li.grown_drewN _ _ _) | exact World.grownBy.trans G5.out (gr.grown_drew _ _))).mono ?_); rintro e w6 ⟨⟨b6, rfl⟩, kc, hx⟩; have X6 := Lib.hid hx; have H6 := Lib.hid (And.intro hx.cells.2.2.2.2.2.2.1 (kc _ _ _ Z2.out (KU.out _ _ (by first | exact B5.out | exact World.grownBy.trans B5.out (li.grown_drewN _ _ _) | exact World.grownBy.trans B5.out (gr.grown_drew _ _))).2)); have D6 := Lib.hid (And.intro (kc _ _ _ (Nat.le_refl _) (KD.out _ (by first | exact A5.out | exact World.grownBy.trans A5.out (li.grown_drewN _ _ _) | exact World.grownBy.trans A5.out (gr.grown_drew _ _))).1) (kc _ _ _ (Nat.le_refl _) (KD.out _ (by first | exact A5.out | exact World.grownBy.trans A5.out (li.grown_drewN _ _ _) | exact World.grownBy.trans A5.out (gr.grown_drew _ _))).2)); clear hx kc))
      go_wp2
      obtain ⟨r1, r2⟩ := D6.out
      have r0 := X6.out.cells.1
      go_region_held3 (fun W => W.cell? ⟨c.B, 0, none⟩ = some (.pointer (some ⟨c.I.S, 0, none⟩)) ∧ W.cell? ⟨w.heap.size, 0, none⟩ = some (.int .i64 v1) ∧ W.cell? ⟨w.heap.size, 1, none⟩ = some (.int .i64 v2)) (first | with_reducible exact ⟨r0, r1, r2⟩ | with_reducible exact H7.out | go_keep) (first
        | (go_at_call 94; (with_reducible refine (SET.out _ { σ with bf := σ.bf.set t (putb (σ.bf.getD t []) u2) } (by first | exact X6.out | exact X6.out.new (li.grown_drewN _ _ _) | exact X6.out.new (gr.grown_drew _ _)) rfl).mono ?_); rintro e w7 ⟨⟨rfl, kc⟩, hx⟩; have X7 := Lib.hid hx; have H7 := Lib.hid (And.intro hx.cells.1 (And.intro (kc _ _ _ (Nat.le_refl _) (by first | exact r1 | go_keep)) (kc _ _ _ (Nat.le_refl _) (by first | exact r2 | go_keep)))); clear hx kc))
      go_wp2
      go_ret
      exact ⟨rfl, by rw [FN.out]; exact X7.out⟩
end
end Go.Proofs.YtkgdcgmbapchcaaGreatDoor.cy
