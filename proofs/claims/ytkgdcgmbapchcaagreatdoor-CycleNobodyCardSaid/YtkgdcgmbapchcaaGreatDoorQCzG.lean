/- Texts that this claim stands on. -/
import Derived.Test.YtkgdcgmbapchcaaGreatDoorQCzF
namespace Go.Proofs.YtkgdcgmbapchcaaGreatDoor.cy
open Go.ChangeShapes Go.WideShapes Go.ChangeAt Go.RowKit gen calls cls geos ce st sh
set_option linter.unusedVariables false
set_option maxHeartbeats 4000000
set_option maxRecDepth 100000
section
variable {w0 W w w1 w' : World} {k : Kn} {c : Cb} {L0 K0 L K M : List Nat} {σ τ : Cy}
theorem any_at {P : Program} {md : Region.Mode} {ops : Array Oper} {Q : Exit → Act → World → Prop} {S : World → Prop} {fuel : Nat} {listed : Array Bool} {a b : Act} {w : World} (h : a = b) (hq : wpAnyH P md ops Q S fuel listed b w) : wpAnyH P md ops Q S fuel listed a w := h ▸ hq
theorem then_at {K : Act → World → Prop} {Q : Exit → Act → World → Prop} {e : Exit} {a b : Act} {w : World} (h : a = b) (hq : Exit.then K Q e b w) : Exit.then K Q e a w := h ▸ hq
theorem Cx.same {F : Nat} {args : Array Value} {v : Value} (h : Cx w0 k c L0 K0 σ W) (C : ∀ L K, Cw W k c L K σ → Calls Tryz.prog F args W fun e w' => e = .returned v ∧ W = w') : Calls Tryz.prog F args W fun e w' => e = .returned v ∧ Cx w0 k c L0 K0 σ w' := by
  have h0 := h
  obtain ⟨L, K, h1, h2, h3, h4⟩ := h
  exact (C L K h3).mono fun e w' ⟨k1, k2⟩ => ⟨k1, k2 ▸ h0⟩
end
end Go.Proofs.YtkgdcgmbapchcaaGreatDoor.cy
namespace Go.Proofs.YtkgdcgmbapchcaaGreatDoor.cy
open Go.ChangeShapes Go.WideShapes Go.ChangeAt Go.RowKit gen calls cls geos ce st sh
set_option linter.unusedVariables false
set_option maxHeartbeats 4000000
set_option maxRecDepth 100000
section
variable {w0 W w w1 w' : World} {k : Kn} {c : Cb} {L0 K0 L K M : List Nat} {σ τ : Cy} {F : Nat} {args : Array Value}
def Ln (l : List Int) (e : Ending) (w : World) : Prop := ∃ A N d, e = .returned (.slice A N d) ∧ N = l.length ∧ Rd w w.heap.size A N d l ∧ ∀ ad, A = some ad → 0 < N → ∃ cs z, w.heap[ad.block]? = some (.cells cs 3 z)
theorem own_int {base n d : Nat} {A : Option Addr} {xs : List Value} (h : w.ownsRow base 3 1 (.slice A n d) n xs) : ∀ ad, A = some ad → ∃ cs z, w.heap[ad.block]? = some (.cells cs 3 z) := fun ad e => by
  rcases h.2 with ⟨e1, _⟩ | ⟨g, cap, cur, e1, _, hg, _⟩
  · injection e1 with e1; rw [e1] at e; cases e
  · injection e1 with e1
    rw [e1] at e
    injection e with e
    subst e
    exact ⟨_, _, hg⟩
theorem Ln.of_listb {xs : List Int} {e : Ending} (h : bm.ListAns xs w e w') : Ln xs e w' ∧ w.grownBy w' none := by
  obtain ⟨A, d, rfl, ho, hg⟩ := h
  exact ⟨⟨A, _, d, rfl, rfl, bm.rd_own ho, fun ad e _ => own_int ho ad e⟩, hg⟩
theorem Cx.leads (h : Cx w0 k c L0 K0 σ W) (h4 : σ.ph = 4 → -1 ≤ σ.p ∧ σ.p < k.N) (he : σ.e ≤ 900000) (hp5 : σ.ph ≤ 5) : Calls Tryz.prog 72 #[.pointer (some ⟨c.B, 0, none⟩)] W fun e w' => e = .returned (.tuple #[]) ∧ Cx w0 k c L0 K0 (σ.lead k) w' :=
  h.call fun L K hw => lead_any hw h4 he hp5
theorem Cx.raises (h : Cx w0 k c L0 K0 σ W) (h4 : σ.ph = 4 → -1 ≤ σ.p ∧ σ.p < k.N) (he : σ.e ≤ 800000) (hp5 : σ.ph ≤ 5) : Calls Tryz.prog 74 #[.pointer (some ⟨c.B, 0, none⟩)] W fun e w' => e = .returned (.tuple #[]) ∧ Cx w0 k c L0 K0 (Cy.lead k { σ with e := σ.e + 1 }) w' :=
  h.call fun L K hw => raise_any hw h4 he hp5
theorem Begin_yes (h : Cw w k c L K σ) (hp : σ.ph = 0) (he : σ.e ≤ 800000) : Calls Tryz.prog 33 #[.pointer (some ⟨c.B, 0, none⟩)] w fun e w' => e = .returned (.bool true) ∧ Cx w k c L K (σ.beg.lead k) w' := by
  obtain ⟨c0, c1, c2, c3, c4, c5, c6, c7, c8, c9, fz, hz⟩ := h.cells
  rw [show (σ.ph : Int) = 0 by omega] at c7
  have X := Lib.hid (((Cx.start h).putz (z := 1) 1 rfl).1.putz (z := 0) 0 rfl).2.2
  have RS := Lib.hid (X.out.raises (fun e => absurd e (by show ¬ (1 : Nat) = 4; decide)) he (by show 1 ≤ 5; decide))
  clear h hp he
  go_enter Tryz.func33, Tryz.ntmps33
  go_wp2_with (first
    | (go_at_call 64; (with_reducible refine (there_any _ _).mono ?_); rintro e w' ⟨rfl, rfl⟩)
    | (go_at_call 74; (with_reducible refine RS.out.mono ?_); rintro e w1 ⟨rfl, h1⟩; have X1 := Lib.hid h1; clear h1))
  go_ret
  exact ⟨rfl, X1.out⟩
theorem Attach_yes (h : Cw w k c L K σ) (t : Nat) (ht : t < σ.th.length) (hn : ep.of σ.th t = -1) (h4 : σ.ph = 4 → -1 ≤ σ.p ∧ σ.p < k.N) (he : σ.e ≤ 800000) (hp5 : σ.ph ≤ 5) : Calls Tryz.prog 34 #[.pointer (some ⟨c.B, 0, none⟩), .int .i64 t] w fun e w' => e = .returned (.bool true) ∧ Cx w k c L K ((σ.att t).lead k) w' := by
  obtain ⟨c0, c1, c2, c3, c4, c5, c6, c7, c8, c9, fz, hz⟩ := h.cells
  have AT := Lib.hid ((Cx.start h).reg fun L K hw => ep.Attach_yes hw.rg t ht hn)
  have LD := Lib.hid (fun W (hx : Cx w k c L K (σ.att t) W) => hx.leads h4 (by show σ.e ≤ 900000; omega) hp5)
  clear h ht hn h4 he hp5
  go_enter Tryz.func34, Tryz.ntmps34
  go_wp2_with (first
    | (go_at_call 64; (with_reducible refine (there_any _ _).mono ?_); rintro e w' ⟨rfl, rfl⟩)
    | (go_at_call 84; (with_reducible refine AT.out.mono ?_); rintro e w1 ⟨rfl, h1⟩; have X1 := Lib.hid (show Cx w k c L K (σ.att t) w1 from h1); clear h1)
    | (go_at_call 72; (with_reducible refine (LD.out _ X1.out).mono ?_); rintro e w2 ⟨rfl, h2⟩; have X2 := Lib.hid h2; clear h2))
  go_ret
  exact ⟨rfl, X2.out⟩
end
end Go.Proofs.YtkgdcgmbapchcaaGreatDoor.cy
namespace Go.Proofs.YtkgdcgmbapchcaaGreatDoor.cy
open Go.ChangeShapes Go.WideShapes Go.ChangeAt Go.RowKit gen calls cls geos ce st sh
set_option linter.unusedVariables false
set_option maxHeartbeats 4000000
set_option maxRecDepth 100000
section
variable {w0 W w w1 w' : World} {k : Kn} {c : Cb} {L0 K0 L K M : List Nat} {σ τ : Cy}
structure Tb (w : World) (c : Cb) (L K : List Nat) : Prop where
  t : bm.Tab w
  n : 1 ∉ al c L K
theorem tab_gr (h : bm.Tab w) (hg : Gr M w w') (hM : 1 ∉ M) : bm.Tab w' := ⟨Nat.lt_of_lt_of_le h.1 hg.size, fun j hj => hg.cell (h.2 j hj) hM⟩
theorem Tb.at_ (h : Tb w c L K) (hx : Cx w k c L K σ W) : bm.Tab W := tab_gr h.t hx.gro h.n
theorem Tb.s (h : Tb w c L K) : c.I.s ≠ 1 := fun e => h.n (e ▸ in_al.2 (by simp [Ids.all]))
theorem Cx.all (h : Cx w0 k c L0 K0 σ W) (hT : bm.Tab W) : Calls Tryz.prog 149 #[.pointer (some ⟨c.g, 0, none⟩)] W fun e w' => Ln (bm.nums σ.s.ws) e w' ∧ Cx w0 k c L0 K0 σ w' := by
  have h0 := h
  obtain ⟨L, K, h1, h2, h3, h4⟩ := h
  exact (All_any h3.tw.gy hT).mono fun e w' hl => ⟨(Ln.of_listb hl).1, h0.new (Ln.of_listb hl).2⟩
theorem end_any (h : Cw w k c L K σ) (hT : Tb w c L K) (hn : bm.nums σ.s.ws = []) (hcy : σ.cy ≤ 1000000) : Calls Tryz.prog 77 #[.pointer (some ⟨c.B, 0, none⟩)] w fun e w' => e = .returned (.tuple #[]) ∧ Cx w k c L K { σ with ph := 0, cy := σ.cy + 1 } w' := by
  have X0 := Cx.start h
  have X := Lib.hid ((X0.putz (z := 0) 0 rfl).1.putz (z := (σ.cy : Int) + 1) (σ.cy + 1) (by omega)).2.1
  have AL := Lib.hid (fun W (hx : Cx w k c L K { σ with ph := 0, cy := σ.cy + 1 } W) => show Calls Tryz.prog 149 #[.pointer (some ⟨c.g, 0, none⟩)] W fun e w' => Ln [] e w' ∧ Cx w k c L K { σ with ph := 0, cy := σ.cy + 1 } w' from by
    have := hx.all (hT.at_ hx)
    rwa [show bm.nums (Cy.s { σ with ph := 0, cy := σ.cy + 1 }).ws = [] from hn] at this)
  have UM := Lib.hid (fun W (hx : Cx w k c L K { σ with ph := 0, cy := σ.cy + 1 } W) (A : Option Addr) (d : Nat) (hr : Rd W W.heap.size A 0 d []) => hx.hunmark (A := A) (cc := d) hr (fun L K hw ad e h0 => absurd h0 (by omega)) (by omega))
  obtain ⟨c0, c1, c2, c3, c4, c5, c6, c7, c8, c9, fz, hz⟩ := h.cells
  obtain ⟨d0, d1, d2, d3, d4, d5, d6, d7, d8, d9, dfz, dz⟩ := X.out.cells
  clear h hT hn X0
  go_enter Tryz.func77, Tryz.ntmps77
  go_wp2
  go_region_held3 (fun W => W.cell? ⟨c.B, 1, none⟩ = some (.pointer (some ⟨c.g, 0, none⟩))) (first | with_reducible exact d1 | with_reducible exact f1 | with_reducible exact g1 | go_keep) (first
    | (go_at_call 149; (with_reducible refine (AL.out _ (X.out.new (by first | exact World.grownBy.refl _ _ | exact li.grown_drewN _ _ _ | exact gr.grown_drew _ _))).mono ?_); rintro e w2 ⟨⟨A, N, d, rfl, hN, hr, hb⟩, h2⟩; obtain rfl : N = 0 := hN; have X2 := Lib.hid h2; obtain ⟨-, f1, -⟩ := h2.cells; have LI := Lib.hid hr; clear hr hb h2)
    | (go_at_call 148; (with_reducible refine (UM.out _ (X2.out.new (by first | exact World.grownBy.refl _ _ | exact li.grown_drewN _ _ _ | exact gr.grown_drew _ _)) _ _ LI.out).mono ?_); rintro e w3 ⟨rfl, h3⟩; obtain ⟨-, g1, -⟩ := h3.cells; have X3 := Lib.hid h3; clear h3))
  all_goals
    go_wp2
    go_end0
    exact ⟨rfl, X3.out.new (by first | exact World.grownBy.refl _ _ | exact li.grown_drewN _ _ _ | exact gr.grown_drew _ _)⟩
theorem ts_idle (h : σ.idle = true) : σ.ts k = ⟨σ.s, σ.p⟩ := by
  unfold Cy.idle tc.Ts.idle at h
  simp only [Bool.and_eq_true, decide_eq_true_eq, Bool.not_eq_true'] at h
  obtain ⟨⟨h1, h2⟩, h3⟩ := h
  unfold Cy.ts tc.Ts.unit
  dsimp only
  rw [if_neg (by simp [h1]), if_neg (by omega), if_neg (by rw [h3]; decide)]
theorem refl_gr (M : List Nat) (w : World) : Gr M w w := ⟨rfl, rfl, rfl, Nat.le_refl _, fun _ _ _ => rfl⟩
theorem Cw.unit3 (h : Cw w k c L K σ) (hT : Tb w c L K) (hr : -1 ≤ σ.p ∧ σ.p < k.N) : Calls Tryz.prog 73 #[.pointer (some ⟨c.t, 0, none⟩)] w fun e w' => e = .returned (.bool (!σ.idle)) ∧ Cx w k c L K { σ with s := (σ.ts k).s, p := (σ.ts k).p } w' :=
  (tc.Unit_any h.tw rfl hr (fun W' hg => tab_gr hT.t hg (fun hm => hT.n (by
    rcases List.mem_cons.1 hm with e | e
    · exact in_al.2 (.inr (.inl e))
    · exact in_al.2 (by simp [e])))) hT.s).mono fun e w' ⟨_, k1, L', k2, k3, k4⟩ => ⟨k1, Cx.step (fun q => .inl) (fun q => .inl) (refl_gr _ _) k2 (fun q => .inl) (h.trace k2 k3 k4 fun q hq => by
    rcases List.mem_cons.1 hq with e | e
    · exact .inl e
    · exact .inr (.inl e)) k4 fun q hq => by
    rcases List.mem_cons.1 hq with e | e
    · exact in_al.2 (.inr (.inl e))
    · exact in_al.2 (by simp [e])⟩
theorem Unit_3 (h : Cw w k c L K σ) (hT : Tb w c L K) (hp : σ.ph = 3) (hr : -1 ≤ σ.p ∧ σ.p < k.N) (hi : σ.idle = false) (hu : σ.un ≤ 1000000) : Calls Tryz.prog 28 #[.pointer (some ⟨c.B, 0, none⟩)] w fun e w' => e = .returned (.bool true) ∧ Cx w k c L K (σ.u3 k) w' := by
  obtain ⟨c0, c1, c2, c3, c4, c5, c6, c7, c8, c9, fz, hz⟩ := h.cells
  rw [show (σ.ph : Int) = 3 by omega] at c7
  have UT := Lib.hid (h.unit3 hT hr)
  rw [hi] at UT
  have HU := Lib.hid (show ((σ.un + 1 : Nat) : Int) = σ.un + 1 by omega)
  have hu2 : (σ.un : Int) ≤ 1000000 := by omega
  clear h hT hp hr hi hu
  go_enter Tryz.func28, Tryz.ntmps28
  go_wp2_with (first
    | (go_at_call 64; (with_reducible refine (there_any _ _).mono ?_); rintro e w' ⟨rfl, rfl⟩)
    | (go_at_call 73; (with_reducible refine UT.out.mono ?_); rintro e w1 ⟨rfl, h1⟩; have X1 := Lib.hid h1; obtain ⟨d0, d1, d2, d3, d4, d5, d6, d7, d8, d9, dfz, dz⟩ := h1.cells; clear h1))
  go_ret
  exact ⟨rfl, (X1.out.putz (z := (σ.un : Int) + 1) (σ.un + 1) HU.out.symm).2.2⟩
theorem Unit_4 (h : Cw w k c L K σ) (hT : Tb w c L K) (hp : σ.ph = 3) (hr : -1 ≤ σ.p ∧ σ.p < k.N) (hi : σ.idle = true) (he : σ.e ≤ 800000) : Calls Tryz.prog 28 #[.pointer (some ⟨c.B, 0, none⟩)] w fun e w' => e = .returned (.bool false) ∧ Cx w k c L K (σ.to4.lead k) w' := by
  obtain ⟨c0, c1, c2, c3, c4, c5, c6, c7, c8, c9, fz, hz⟩ := h.cells
  rw [show (σ.ph : Int) = 3 by omega] at c7
  have UT := Lib.hid (h.unit3 hT hr)
  rw [hi, ts_idle hi] at UT
  have RS := Lib.hid (fun W (hx : Cx w k c L K { σ with ph := 4 } W) => show Calls Tryz.prog 74 #[.pointer (some ⟨c.B, 0, none⟩)] W fun e w' => e = .returned (.tuple #[]) ∧ Cx w k c L K (σ.to4.lead k) w' from hx.raises (fun _ => hr) he (by show 4 ≤ 5; decide))
  clear h hT hp hr hi he
  go_enter Tryz.func28, Tryz.ntmps28
  go_wp2_with (first
    | (go_at_call 64; (with_reducible refine (there_any _ _).mono ?_); rintro e w' ⟨rfl, rfl⟩)
    | (go_at_call 73; (with_reducible refine UT.out.mono ?_); rintro e w1 ⟨rfl, h1⟩; have X1 := Lib.hid h1; obtain ⟨d0, d1, d2, d3, d4, d5, d6, d7, d8, d9, dfz, dz⟩ := h1.cells; clear h1)
    | (go_at_call 74; (with_reducible refine (RS.out _ (X1.out.putz (z := 4) 4 rfl).1).mono ?_); rintro e w2 ⟨rfl, h2⟩; have X2 := Lib.hid h2; clear h2))
  go_ret
  exact ⟨rfl, X2.out⟩
theorem Unit_0 (h : Cw w k c L K σ) (hp : σ.ph ≠ 3 ∧ σ.ph ≠ 5) : Calls Tryz.prog 28 #[.pointer (some ⟨c.B, 0, none⟩)] w fun e w' => e = .returned (.bool false) ∧ w = w' := by
  obtain ⟨c0, c1, c2, c3, c4, c5, c6, c7, c8, c9, fz, hz⟩ := h.cells
  generalize σ.ph = p at *
  have t3 : ((p : Int) == 3) = false := by simp; omega
  have t5 : ((p : Int) == 5) = false := by simp; omega
  clear h hp
  go_enter Tryz.func28, Tryz.ntmps28
  go_wp2_with (go_at_call 64; (with_reducible refine (there_any _ _).mono ?_); rintro e w' ⟨rfl, rfl⟩)
  go_ret
  exact ⟨rfl, rfl⟩
theorem Cw.unit5 (h : Cw w k c L K σ) (hT : Tb w c L K) (hq : σ.q < k.N) (hf : σ.f + 2048 ≤ 1000000) : Calls Tryz.prog 75 #[.pointer (some ⟨c.v, 0, none⟩)] w fun e w' => e = .returned (.bool true) ∧ Cx w k c L K { σ with x := σ.sz.x, s := σ.sz.s, f := σ.sz.f, q := σ.q + 1 } w' :=
  (sw.Unit_yes (h.sp (by omega) (by omega)) hT.t hT.s hq hf).mono fun e w' ⟨k1, L', k2, k3, k4⟩ => ⟨k1, Cx.step (fun q => .inl) (fun q => .inl) (refl_gr _ _) k2 (fun q => .inl) (h.sweep k2 k3 k4) k4 fun q hq => by
    rcases sw.in_wr.1 hq with e | e | e
    · exact in_al.2 (.inr (.inr (.inl e)))
    · exact in_al.2 (by simp [e])
    · exact in_al.2 (by simp [sw.IL_all e])⟩
theorem Cx.tb (hT : Tb w c L K) (hx : Cx w k c L K σ W) : ∃ L' K', (∀ q, q ∈ L' → q ∈ L ∨ w.heap.size ≤ q) ∧ (∀ q, q ∈ K' → q ∈ K ∨ w.heap.size ≤ q) ∧ Cw W k c L' K' σ ∧ Gr (al c L K) w W ∧ Tb W c L' K' := by
  have t := hT.at_ hx
  obtain ⟨L', K', h1, h2, h3, h4⟩ := hx
  exact ⟨L', K', h1, h2, h3, h4, t, fun hm => (al_old h1 h2 _ hm).elim hT.n fun e => by have := hT.t.1; omega⟩
theorem Cx.ends (h : Cx w k c L K σ W) (hT : Tb w c L K) (hn : bm.nums σ.s.ws = []) (hcy : σ.cy ≤ 1000000) : Calls Tryz.prog 77 #[.pointer (some ⟨c.B, 0, none⟩)] W fun e w' => e = .returned (.tuple #[]) ∧ Cx w k c L K { σ with ph := 0, cy := σ.cy + 1 } w' := by
  obtain ⟨L', K', h1, h2, h3, h4, h5⟩ := Cx.tb hT h
  exact (end_any h3 h5 hn hcy).mono fun e w' ⟨k1, L2, K2, k2, k3, k4, k5⟩ => ⟨k1, Cx.step h1 h2 h4 k2 k3 k4 k5 fun q hq => hq⟩
theorem Unit_5 (h : Cw w k c L K σ) (hT : Tb w c L K) (hp : σ.ph = 5) (hq : σ.q < k.N) (hf : σ.f + 2048 ≤ 1000000) (hu : σ.un ≤ 1000000) (hcy : σ.cy ≤ 1000000) (hn : σ.q + 1 = k.N → bm.nums σ.sz.s.ws = []) : Calls Tryz.prog 28 #[.pointer (some ⟨c.B, 0, none⟩)] w fun e w' => e = .returned (.bool true) ∧ Cx w k c L K (σ.u5 k) w' := by
  obtain ⟨c0, c1, c2, c3, c4, c5, c6, c7, c8, c9, fz, hz⟩ := h.cells
  rw [show (σ.ph : Int) = 5 by omega] at c7
  have UT := Lib.hid (h.unit5 hT hq hf)
  have DN := Lib.hid (fun W (hx : Cx w k c L K { σ with x := σ.sz.x, s := σ.sz.s, f := σ.sz.f, q := σ.q + 1 } W) => show Calls Tryz.prog 76 #[.pointer (some ⟨c.v, 0, none⟩)] W fun e w' => e = .returned (.bool (decide (σ.q + 1 = k.N))) ∧ Cx w k c L K { σ with x := σ.sz.x, s := σ.sz.s, f := σ.sz.f, q := σ.q + 1 } w' from
    hx.tell fun L' K' hw => (sw.Done_any hw.so).mono fun e w' ⟨a, b⟩ => ⟨by rw [a]; congr 2; show ((((σ.q + 1 : Nat) : Int)) == (k.N : Int)) = _; rw [Bool.eq_iff_iff]; simp; omega, b⟩)
  have HU := Lib.hid (show ((σ.un + 1 : Nat) : Int) = σ.un + 1 by omega)
  have hu2 : (σ.un : Int) ≤ 1000000 := by omega
  by_cases e : σ.q + 1 = k.N
  · have EN := Lib.hid (fun W (hx : Cx w k c L K { σ with x := σ.sz.x, s := σ.sz.s, f := σ.sz.f, q := σ.q + 1 } W) => hx.ends hT (hn e) hcy)
    have FN := Lib.hid (show σ.u5 k = { σ with x := σ.sz.x, s := σ.sz.s, f := σ.sz.f, q := σ.q + 1, un := σ.un + 1, ph := 0, cy := σ.cy + 1 } by unfold Cy.u5; rw [if_pos e, if_pos e])
    rw [decide_eq_true e] at DN
    clear h hT hp hq hf hu hcy hn e
    go_enter Tryz.func28, Tryz.ntmps28
    go_wp2_with (first
      | (go_at_call 64; (with_reducible refine (there_any _ _).mono ?_); rintro e w' ⟨rfl, rfl⟩)
      | (go_at_call 75; (with_reducible refine UT.out.mono ?_); rintro e w1 ⟨rfl, h1⟩; have X1 := Lib.hid h1; obtain ⟨d0, d1, d2, d3, d4, d5, d6, d7, d8, d9, dfz, dz⟩ := h1.cells; clear h1)
      | (go_at_call 76; (with_reducible refine (DN.out _ X1.out).mono ?_); rintro e w2 ⟨rfl, h2⟩; have X2 := Lib.hid h2; clear h2)
      | (go_at_call 77; (with_reducible refine (EN.out _ X2.out).mono ?_); rintro e w3 ⟨rfl, h3⟩; have X3 := Lib.hid h3; obtain ⟨f0, f1, f2, f3, f4, f5, f6, f7, f8, f9, ffz, fz3⟩ := h3.cells; clear h3))
    go_ret
    rw [FN.out]
    exact ⟨rfl, (X3.out.putz (z := (σ.un : Int) + 1) (σ.un + 1) HU.out.symm).2.2⟩
  · have FN := Lib.hid (show σ.u5 k = { σ with x := σ.sz.x, s := σ.sz.s, f := σ.sz.f, q := σ.q + 1, un := σ.un + 1 } by unfold Cy.u5; rw [if_neg e, if_neg e, ← hp])
    rw [decide_eq_false e] at DN
    clear h hT hp hq hf hu hcy hn e
    go_enter Tryz.func28, Tryz.ntmps28
    go_wp2_with (first
      | (go_at_call 64; (with_reducible refine (there_any _ _).mono ?_); rintro e w' ⟨rfl, rfl⟩)
      | (go_at_call 75; (with_reducible refine UT.out.mono ?_); rintro e w1 ⟨rfl, h1⟩; have X1 := Lib.hid h1; obtain ⟨d0, d1, d2, d3, d4, d5, d6, d7, d8, d9, dfz, dz⟩ := h1.cells; clear h1)
      | (go_at_call 76; (with_reducible refine (DN.out _ X1.out).mono ?_); rintro e w2 ⟨rfl, h2⟩; have X2 := Lib.hid h2; obtain ⟨f0, f1, f2, f3, f4, f5, f6, f7, f8, f9, ffz, fz3⟩ := h2.cells; clear h2))
    go_ret
    rw [FN.out]
    exact ⟨rfl, (X2.out.putz (z := (σ.un : Int) + 1) (σ.un + 1) HU.out.symm).2.2⟩
end
end Go.Proofs.YtkgdcgmbapchcaaGreatDoor.cy
namespace Go.Proofs.YtkgdcgmbapchcaaGreatDoor.cy
end Go.Proofs.YtkgdcgmbapchcaaGreatDoor.cy
namespace Go.Proofs.YtkgdcgmbapchcaaGreatDoor.cy
end Go.Proofs.YtkgdcgmbapchcaaGreatDoor.cy
