/- Texts that this claim stands on. -/
import Derived.Test.YtkgdcgmbapchcaaGreatDoorPCzG
namespace Go.Proofs.YtkgdcgmbapchcaaGreatDoor.cy
open Go.ChangeShapes Go.WideShapes Go.ChangeAt Go.RowKit gen calls cls geos ce st sh
set_option linter.unusedVariables false
set_option maxHeartbeats 4000000
set_option maxRecDepth 100000
section
variable {w0 W w w1 w' : World} {k : Kn} {c : Cb} {L0 K0 L K M : List Nat} {σ τ : Cy} {F : Nat} {args : Array Value}
theorem Cx.any (h : Cx w0 k c L0 K0 σ W) {Q : Ending → World → Prop} (C : ∀ L K, Cw W k c L K σ → Calls Tryz.prog F args W fun e w' => Q e w' ∧ Cx W k c L K τ w') : Calls Tryz.prog F args W fun e w' => Q e w' ∧ Cx w0 k c L0 K0 τ w' := by
  obtain ⟨L, K, h1, h2, h3, h4⟩ := h
  exact (C L K h3).mono fun e w' ⟨k1, L', K', k2, k3, k4, k5⟩ => ⟨k1, Cx.step h1 h2 h4 k2 k3 k4 k5 fun q hq => hq⟩
def Ln (l : List Int) (e : Ending) (w : World) : Prop := ∃ A N d, e = .returned (.slice A N d) ∧ N = l.length ∧ Rd w w.heap.size A N d l ∧ ∀ ad, A = some ad → 0 < N → ∃ cs z, w.heap[ad.block]? = some (.cells cs 3 z)
theorem own_int {base n d : Nat} {A : Option Addr} {xs : List Value} (h : w.ownsRow base 3 1 (.slice A n d) n xs) : ∀ ad, A = some ad → ∃ cs z, w.heap[ad.block]? = some (.cells cs 3 z) := fun ad e => by
  rcases h.2 with ⟨e1, _⟩ | ⟨g, cap, cur, e1, _, hg, _⟩
  · injection e1 with e1; rw [e1] at e; cases e
  · injection e1 with e1
    rw [e1] at e
    injection e with e
    subst e
    exact ⟨_, _, hg⟩
theorem Ln.of_list {xs : List Int} {e : Ending} (h : li.ListAns xs w e w') : Ln xs e w' ∧ w.grownBy w' none := by
  obtain ⟨A, d, rfl, ho, hg⟩ := h
  exact ⟨⟨A, _, d, rfl, rfl, li.rd_own ho, fun ad e _ => own_int ho ad e⟩, hg⟩
theorem Ln.of_listb {xs : List Int} {e : Ending} (h : bm.ListAns xs w e w') : Ln xs e w' ∧ w.grownBy w' none := by
  obtain ⟨A, d, rfl, ho, hg⟩ := h
  exact ⟨⟨A, _, d, rfl, rfl, bm.rd_own ho, fun ad e _ => own_int ho ad e⟩, hg⟩
theorem Cx.take (h : Cx w0 k c L0 K0 σ W) {t : Nat} (ht : t < σ.bf.length) : Calls Tryz.prog 71 #[.pointer (some ⟨c.b, 0, none⟩), .int .i64 t] W fun e w' => Ln (σ.bf.getD t []) e w' ∧ Cx w0 k c L0 K0 { σ with bf := σ.bf.set t [] } w' :=
  h.any fun L K hw => (bf.Take_in hw.bf t ht).mono fun e w' ⟨A, N, d, K', e1, e2, e3, e4, e5, e6, e7⟩ =>
    ⟨⟨A, N, d, e1, e2, e3.rd e2, fun ad e _ => own_int (by have := e3; unfold bf.Li at this; rw [← e2] at this; exact this) ad e⟩,
      Cx.step (fun q => .inl) (fun q => .inl) ⟨rfl, rfl, rfl, Nat.le_refl _, fun _ _ _ => rfl⟩ (fun q => .inl) (fun q hq => .inl (e4 q hq)) (hw.bufs (fun q hq => .inl (e4 q hq)) e6 ((cg e7).mono e4)) (cg e7) fun q hq => in_al.2 (by simp [e4 q hq])⟩
theorem Cx.shades (h : Cx w0 k c L0 K0 σ W) {A : Option Addr} {N d : Nat} {l : List Int} (hN : N = l.length) (hr : Rd W W.heap.size A N d l) (hb : ∀ ad, A = some ad → 0 < N → ∃ cs z, W.heap[ad.block]? = some (.cells cs 3 z)) (hl : l.length ≤ 4096) :
    Calls Tryz.prog 69 #[.pointer (some ⟨c.B, 0, none⟩), .slice A N d] W fun e w' => e = .returned (.tuple #[]) ∧ Cx w0 k c L0 K0 { σ with s := shs k.r σ.s l } w' :=
  h.hshade hr (fun L K hw ad e h0 => by obtain ⟨cs, z, hz⟩ := hb ad e h0; exact int_off hw hz) (by omega) (fun ad e h0 => by obtain ⟨cs, z, hz⟩ := hb ad e h0; exact (Array.getElem?_eq_some_iff.1 hz).1)
theorem Cx.leads (h : Cx w0 k c L0 K0 σ W) (h4 : σ.ph = 4 → -1 ≤ σ.p ∧ σ.p < k.N) (he : σ.e ≤ 900000) (hp5 : σ.ph ≤ 5) : Calls Tryz.prog 72 #[.pointer (some ⟨c.B, 0, none⟩)] W fun e w' => e = .returned (.tuple #[]) ∧ Cx w0 k c L0 K0 (σ.lead k) w' :=
  h.call fun L K hw => lead_any hw h4 he hp5
theorem Cx.raises (h : Cx w0 k c L0 K0 σ W) (h4 : σ.ph = 4 → -1 ≤ σ.p ∧ σ.p < k.N) (he : σ.e ≤ 800000) (hp5 : σ.ph ≤ 5) : Calls Tryz.prog 74 #[.pointer (some ⟨c.B, 0, none⟩)] W fun e w' => e = .returned (.tuple #[]) ∧ Cx w0 k c L0 K0 (Cy.lead k { σ with e := σ.e + 1 }) w' :=
  h.call fun L K hw => raise_any hw h4 he hp5
theorem Begin_no (h : Cw w k c L K σ) (hp : σ.ph ≠ 0) : Calls Tryz.prog 33 #[.pointer (some ⟨c.B, 0, none⟩)] w fun e w' => e = .returned (.bool false) ∧ w = w' := by
  obtain ⟨c0, c1, c2, c3, c4, c5, c6, c7, c8, c9, fz, hz⟩ := h.cells
  generalize σ.ph = p at *
  have t1 : ((p : Int) != 0) = true := by simp; omega
  clear h hp
  go_enter Tryz.func33, Tryz.ntmps33
  go_wp2_with (go_at_call 64; (with_reducible refine (there_any _ _).mono ?_); rintro e w' ⟨rfl, rfl⟩)
  go_ret
  exact ⟨rfl, rfl⟩
theorem Begin_yes (h : Cw w k c L K σ) (hp : σ.ph = 0) (he : σ.e ≤ 800000) : Calls Tryz.prog 33 #[.pointer (some ⟨c.B, 0, none⟩)] w fun e w' => e = .returned (.bool true) ∧ Cx w k c L K (σ.beg.lead k) w' := by
  obtain ⟨c0, c1, c2, c3, c4, c5, c6, c7, c8, c9, fz, hz⟩ := h.cells
  rw [show (σ.ph : Int) = 0 by omega] at c7
  have X := Lib.hid (((Cx.start h).putz (z := 1) 1 rfl).1.putz (z := 0) 0 rfl).2.2
  have RS := Lib.hid (X.out.raises (fun e => absurd e (by show ¬ (1 : Nat) = 4; decide)) he (by show 1 ≤ 5; decide))
  clear h hp he
  go_enter Tryz.func33, Tryz.ntmps33
  go_wp2_with (first
    | (go_at_call 64; (with_reducible refine (there_any _ _).mono ?_); rintro e w' ⟨rfl, rfl⟩)
    | (go_at_call 74; (with_reducible refine RS.out.mono ?_); rintro e w1 ⟨rfl, h1⟩; have X1 := Lib.hid h1; clear h1))
  go_ret
  exact ⟨rfl, X1.out⟩
theorem Attach_no (h : Cw w k c L K σ) (t : Int) (hn : ep.hs σ.th t = false ∨ 0 ≤ ep.of σ.th t) (h4 : σ.ph = 4 → -1 ≤ σ.p ∧ σ.p < k.N) (he : σ.e ≤ 800000) (hp5 : σ.ph ≤ 5) : Calls Tryz.prog 34 #[.pointer (some ⟨c.B, 0, none⟩), .int .i64 t] w fun e w' => e = .returned (.bool false) ∧ Cx w k c L K (σ.lead k) w' := by
  obtain ⟨c0, c1, c2, c3, c4, c5, c6, c7, c8, c9, fz, hz⟩ := h.cells
  have AT := Lib.hid (ep.Attach_no h.rg t hn)
  have LD := Lib.hid ((Cx.start h).leads h4 (by omega) hp5)
  clear h hn h4 he hp5
  go_enter Tryz.func34, Tryz.ntmps34
  go_wp2_with (first
    | (go_at_call 64; (with_reducible refine (there_any _ _).mono ?_); rintro e w' ⟨rfl, rfl⟩)
    | (go_at_call 84; (with_reducible refine AT.out.mono ?_); rintro e w1 ⟨rfl, rfl⟩)
    | (go_at_call 72; (with_reducible refine LD.out.mono ?_); rintro e w1 ⟨rfl, h1⟩; have X1 := Lib.hid h1; clear h1))
  go_ret
  exact ⟨rfl, X1.out⟩
theorem Attach_yes (h : Cw w k c L K σ) (t : Nat) (ht : t < σ.th.length) (hn : ep.of σ.th t = -1) (h4 : σ.ph = 4 → -1 ≤ σ.p ∧ σ.p < k.N) (he : σ.e ≤ 800000) (hp5 : σ.ph ≤ 5) : Calls Tryz.prog 34 #[.pointer (some ⟨c.B, 0, none⟩), .int .i64 t] w fun e w' => e = .returned (.bool true) ∧ Cx w k c L K ((σ.att t).lead k) w' := by
  obtain ⟨c0, c1, c2, c3, c4, c5, c6, c7, c8, c9, fz, hz⟩ := h.cells
  have AT := Lib.hid ((Cx.start h).reg fun L K hw => ep.Attach_yes hw.rg t ht hn)
  have LD := Lib.hid (fun W (hx : Cx w k c L K (σ.att t) W) => hx.leads h4 (by show σ.e ≤ 900000; omega) hp5)
  clear h ht hn h4 he hp5
  go_enter Tryz.func34, Tryz.ntmps34
  go_wp2_with (first
    | (go_at_call 64; (with_reducible refine (there_any _ _).mono ?_); rintro e w' ⟨rfl, rfl⟩)
    | (go_at_call 84; (with_reducible refine AT.out.mono ?_); rintro e w1 ⟨rfl, h1⟩; have X1 := Lib.hid (show Cx w k c L K (σ.att t) w1 from h1); clear h1)
    | (go_at_call 72; (with_reducible refine (LD.out _ X1.out).mono ?_); rintro e w2 ⟨rfl, h2⟩; have X2 := Lib.hid h2; clear h2))
  go_ret
  exact ⟨rfl, X2.out⟩
theorem Detach_no (h : Cw w k c L K σ) {t : Int} (hl : σ.lv t = false) : Calls Tryz.prog 35 #[.pointer (some ⟨c.B, 0, none⟩), .int .i64 t] w fun e w' => e = .returned (.bool false) ∧ w = w' := by
  have LV := Lib.hid (Live_any h t)
  rw [hl] at LV
  clear h hl
  go_enter Tryz.func35, Tryz.ntmps35
  go_wp2_with (first
    | (go_at_call 64; (with_reducible refine (there_any _ _).mono ?_); rintro e w' ⟨rfl, rfl⟩)
    | (go_at_call 38; (with_reducible refine LV.out.mono ?_); rintro e w1 ⟨rfl, rfl⟩))
  go_ret
  exact ⟨rfl, rfl⟩
theorem Detach_yes (h : Cw w k c L K σ) (hi : Inv k σ) (hk : Kok k) {t : Nat} (ht : t < k.n) (hl : σ.lv t = true) (he : σ.e ≤ 800000) : Calls Tryz.prog 35 #[.pointer (some ⟨c.B, 0, none⟩), .int .i64 t] w fun e w' => e = .returned (.bool true) ∧ Cx w k c L K ((σ.det k t).lead k) w' := by
  have n8 := hk.n
  have p5 := hi.p5
  have s8 := h.tw.s8
  have lof : (0 : Int) ≤ ep.of σ.th t := by unfold Cy.lv ep.lv at hl; simpa using hl
  obtain ⟨Vq, _, cq, _⟩ := quit_of hi.iv (t : Int)
  have LV := Lib.hid (Live_any h t)
  rw [hl] at LV
  have TK := Lib.hid ((Cx.start h).take (t := t) (by rw [hi.bfl]; exact ht))
  have BL := hi.bfo.le t
  have KP := Lib.hid (fun W τ (hx : Cx w k c L K τ W) => show Calls Tryz.prog 85 #[.pointer (some ⟨c.B, 0, none⟩)] W fun e w' => e = .returned (.bool τ.keeps) ∧ W = w' from by
    obtain ⟨L', K', _, _, hw, _⟩ := hx
    exact keeps_any hw)
  have CL := Lib.hid (fun W τ (hx : Cx w k c L K τ W) => show Calls Tryz.prog 86 #[.pointer (some ⟨c.B, 7 + t * 33, none⟩)] W fun e w' => e = .returned (.tuple #[]) ∧ Cx w k c L K { τ with rt := τ.rt.set t [] } w' from hx.rput (by omega) fun L K hw => rx.Clear_any (hw.rt (by omega)))
  have QT := Lib.hid (fun W τ (hx : Cx w k c L K τ W) (e1 : τ.x = σ.x) => show Calls Tryz.prog 87 #[.pointer (some ⟨c.I.S, 0, none⟩), .int .i64 t] W fun e w' => e = .returned (.int .i64 (drps (σ.x.left t) (σ.x.pgs t)).2) ∧ Cx w k c L K { τ with x := (drps (σ.x.left t) (σ.x.pgs t)).1 } w' from hx.store Vq (by rw [cq]; exact s8) fun L K hw => by have := Quit_any hw.tw.sr t; rwa [e1] at this)
  have DT := Lib.hid (fun W τ (hx : Cx w k c L K τ W) (e1 : τ.th = σ.th) => show Calls Tryz.prog 88 #[.pointer (some ⟨c.e, 0, none⟩), .int .i64 t] W fun e w' => e = .returned (.bool true) ∧ Cx w k c L K { τ with th := τ.th.set t (-1) } w' from hx.reg fun L K hw => ep.Detach_yes hw.rg t (by rw [e1]; exact lof))
  have LD := Lib.hid (fun W (hx : Cx w k c L K (σ.det k t) W) => hx.leads (fun e => (hi.i3 (by have e : σ.ph = 4 := e; omega)).2) (by show σ.e ≤ 900000; omega) p5)
  have l1 : (0 : Int) ≤ t := by omega
  have l2 : (t : Int) < 8 := by omega
  have CS := Lib.hid (fun W τ (hx : Cx w k c L K τ W) => hx.cells)
  have HD := Lib.hid (show σ.det k t = { σ with s := if σ.keeps = true then shs k.r σ.s (σ.bf.getD t []) else σ.s, bf := σ.bf.set t [], rt := σ.rt.set t [], x := (drps (σ.x.left t) (σ.x.pgs t)).1, th := σ.th.set t (-1) } from rfl)
  have HKe := Lib.hid (fun (τ : Cy) (e : τ.ph = σ.ph) => show τ.keeps = σ.keeps by unfold Cy.keeps; rw [e])
  obtain ⟨c0, c1, c2, c3, c4, c5, c6, c7, c8, c9, fz, hz⟩ := h.cells
  generalize (drps (σ.x.left t) (σ.x.pgs t)).1 = xq at *
  generalize (drps (σ.x.left t) (σ.x.pgs t)).2 = nq0 at *
  obtain ⟨l, hbl⟩ : ∃ l, σ.bf.getD t [] = l := ⟨_, rfl⟩
  rw [hbl] at TK BL HD
  obtain ⟨δ, hδ⟩ : ∃ δ, σ.det k t = δ := ⟨_, rfl⟩
  rw [hδ] at LD HD ⊢
  clear h hi hk ht hl he n8 p5 s8 lof Vq cq hbl hδ
  cases hkp : σ.keeps with
  | true =>
    have KE := Lib.hid hkp
    rw [hkp, if_pos rfl] at HD
    clear hkp
    go_enter Tryz.func35, Tryz.ntmps35
    go_wp2_with (first
      | (go_at_call 64; (with_reducible refine (there_any _ _).mono ?_); rintro e w' ⟨rfl, rfl⟩)
      | (go_at_call 38; (with_reducible refine LV.out.mono ?_); rintro e w1 ⟨rfl, rfl⟩)
      | (go_at_call 71; (with_reducible refine TK.out.mono ?_); rintro e w1 ⟨⟨A, N, d, rfl, hN, hr, hb⟩, h1⟩; have X1 := Lib.hid h1; have LI := Lib.hid (And.intro hN (And.intro hr hb)); have KP1 := Lib.hid (KP.out _ _ h1); rw [HKe.out { σ with bf := σ.bf.set t [] } rfl, KE.out] at KP1; obtain ⟨d0, d1, d2, d3, d4, d5, d6, d7, d8, d9, dfz, dz⟩ := h1.cells; clear hN hr hb h1)
      | (go_at_call 85; (with_reducible refine KP1.out.mono ?_); rintro e w2 ⟨rfl, rfl⟩)
      | (go_at_call 69; (with_reducible refine (X1.out.shades LI.out.1 LI.out.2.1 LI.out.2.2 (by have := BL; omega)).mono ?_); rintro e w3 ⟨rfl, h3⟩; have X3 := Lib.hid h3; clear h3)
      | (go_at_call 86; (with_reducible refine (CL.out _ _ X3.out).mono ?_); rintro e w4 ⟨rfl, h4⟩; have X4 := Lib.hid h4; obtain ⟨g0, g1, g2, g3, g4, g5, g6, g7, g8, g9, gfz, gz⟩ := h4.cells; clear h4)
      | (go_at_call 87; (with_reducible refine (QT.out _ _ X4.out rfl).mono ?_); rintro e w5 ⟨rfl, h5⟩; have X5 := Lib.hid h5; obtain ⟨p0, p1, p2, p3, p4, p5, p6, p7, p8, p9, pfz, pz⟩ := h5.cells; clear h5)
      | (go_at_call 88; (with_reducible refine (DT.out _ _ X5.out rfl).mono ?_); rintro e w6 ⟨rfl, h6⟩; have X6 := Lib.hid (show Cx w k c L K δ w6 from by rw [HD.out]; exact h6); clear h6)
      | (go_at_call 72; (with_reducible refine (LD.out _ X6.out).mono ?_); rintro e w7 ⟨rfl, h7⟩; have X7 := Lib.hid h7; clear h7))
    go_ret
    exact ⟨rfl, X7.out⟩
  | false =>
    have KE := Lib.hid hkp
    rw [hkp, if_neg (by decide)] at HD
    clear hkp
    go_enter Tryz.func35, Tryz.ntmps35
    go_wp2_with (first
      | (go_at_call 64; (with_reducible refine (there_any _ _).mono ?_); rintro e w' ⟨rfl, rfl⟩)
      | (go_at_call 38; (with_reducible refine LV.out.mono ?_); rintro e w1 ⟨rfl, rfl⟩)
      | (go_at_call 71; (with_reducible refine TK.out.mono ?_); rintro e w1 ⟨⟨A, N, d, rfl, hN, hr, hb⟩, h1⟩; have X1 := Lib.hid h1; have LI := Lib.hid (And.intro hN (And.intro hr hb)); have KP1 := Lib.hid (KP.out _ _ h1); rw [HKe.out { σ with bf := σ.bf.set t [] } rfl, KE.out] at KP1; obtain ⟨d0, d1, d2, d3, d4, d5, d6, d7, d8, d9, dfz, dz⟩ := h1.cells; clear hN hr hb h1)
      | (go_at_call 85; (with_reducible refine KP1.out.mono ?_); rintro e w2 ⟨rfl, rfl⟩)
      | (go_at_call 86; (with_reducible refine (CL.out _ _ X1.out).mono ?_); rintro e w4 ⟨rfl, h4⟩; have X4 := Lib.hid h4; obtain ⟨g0, g1, g2, g3, g4, g5, g6, g7, g8, g9, gfz, gz⟩ := h4.cells; clear h4)
      | (go_at_call 87; (with_reducible refine (QT.out _ _ X4.out rfl).mono ?_); rintro e w5 ⟨rfl, h5⟩; have X5 := Lib.hid h5; obtain ⟨p0, p1, p2, p3, p4, p5, p6, p7, p8, p9, pfz, pz⟩ := h5.cells; clear h5)
      | (go_at_call 88; (with_reducible refine (DT.out _ _ X5.out rfl).mono ?_); rintro e w6 ⟨rfl, h6⟩; have X6 := Lib.hid (show Cx w k c L K δ w6 from by rw [HD.out]; exact h6); clear h6)
      | (go_at_call 72; (with_reducible refine (LD.out _ X6.out).mono ?_); rintro e w7 ⟨rfl, h7⟩; have X7 := Lib.hid h7; clear h7))
    go_ret
    exact ⟨rfl, X7.out⟩
end
end Go.Proofs.YtkgdcgmbapchcaaGreatDoor.cy
