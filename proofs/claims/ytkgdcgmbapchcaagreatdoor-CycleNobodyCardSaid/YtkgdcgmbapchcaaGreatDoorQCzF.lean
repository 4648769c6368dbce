/- Texts that this claim stands on. -/
import Derived.Test.YtkgdcgmbapchcaaGreatDoorQCzC
import Derived.Test.YtkgdcgmbapchcaaGreatDoorQTcY
namespace Go.Proofs.YtkgdcgmbapchcaaGreatDoor.cy
open Go.ChangeShapes Go.WideShapes Go.ChangeAt Go.RowKit gen calls cls geos ce st sh
set_option linter.unusedVariables false
set_option maxHeartbeats 4000000
set_option maxRecDepth 100000
section
variable {w0 W w w' : World} {k : Kn} {c : Cb} {L0 K0 L K M : List Nat} {σ τ : Cy}
theorem Cx.one (h : Cx w0 k c L0 K0 σ w) (a : Nat) (W : World) (hg : w.grownBy W none) (b : Nat) (hb : W.heap[b]? = some (.cells #[.int .i64 a] 3 (0, 0))) (hr : Rd W W.heap.size (some ⟨b, 0, none⟩) 1 1 [(a : Int)]) :
    Calls Tryz.prog 69 #[.pointer (some ⟨c.B, 0, none⟩), .slice (some ⟨b, 0, none⟩) 1 1] W fun e w' => e = .returned (.tuple #[]) ∧ Cx w0 k c L0 K0 { σ with s := σ.s.shade k.r a } w' :=
  (h.new hg).hshade hr (fun L K hw ad e _ => by injection e with e; subst e; exact int_off hw hb) (by omega) (fun ad e _ => by injection e with e; subst e; exact (Array.getElem?_eq_some_iff.1 hb).1)
theorem Cx.clear (h : Cx w0 k c L0 K0 σ W) : Calls Tryz.prog 205 #[.pointer (some ⟨c.b, 0, none⟩)] W fun e w' => e = .returned (.int .i64 (bf.tot σ.bf : Int)) ∧ Cx w0 k c L0 K0 { σ with bf := List.replicate σ.bf.length [] } w' :=
  h.bufs fun L K hw => (bf.Clear_any hw.bf).mono fun e w' ⟨K', k1, k2, k3, k4⟩ => ⟨k1, K', fun q hq => .inl (k2 q hq), k3, k4⟩
theorem Cx.raise (h : Cx w0 k c L0 K0 σ W) (he : σ.e ≤ 1000000) : Calls Tryz.prog 144 #[.pointer (some ⟨c.e, 0, none⟩)] W fun e w' => e = .returned (.int .i64 ((σ.e : Int) + 1)) ∧ Cx w0 k c L0 K0 { σ with e := σ.e + 1 } w' :=
  h.reg fun L K hw => ep.Raise_yes hw.rg he
theorem Cx.start5 (h : Cx w0 k c L0 K0 σ W) : Calls Tryz.prog 208 #[.pointer (some ⟨c.v, 0, none⟩)] W fun e w' => e = .returned (.tuple #[]) ∧ Cx w0 k c L0 K0 { σ with q := 0, f := 0 } w' :=
  h.sweeper fun L K hw => sw.Start_any hw.so
theorem rd_drew1 (w : World) (x : Int) (t : TypeId) : Rd (w.alloc (.cells #[.int .i64 x] t)).drew (w.alloc (.cells #[.int .i64 x] t)).drew.heap.size (some ⟨w.heap.size, 0, none⟩) 1 1 [x] := li.Rd.one_at w x t rfl
theorem Cx.putz (h : Cx w0 k c L0 K0 σ W) (u : Nat) {z : Int} (hz : z = u) : Cx w0 k c L0 K0 { σ with ph := u } (W.setCell ⟨c.B, 271, none⟩ (.int .i64 z)) ∧ Cx w0 k c L0 K0 { σ with cy := u } (W.setCell ⟨c.B, 272, none⟩ (.int .i64 z)) ∧ Cx w0 k c L0 K0 { σ with un := u } (W.setCell ⟨c.B, 273, none⟩ (.int .i64 z)) := by
  subst hz
  exact h.put u
theorem next1 (h : Cx w0 k c L0 K0 σ W) (hp : σ.ph = 1) (he : σ.e ≤ 1000000) : Calls Tryz.prog 137 #[.pointer (some ⟨c.B, 0, none⟩)] W fun e w' => e = .returned (.bool true) ∧ Cx w0 k c L0 K0 (σ.n1 k) w' := by
  have X := Lib.hid h
  have CL := Lib.hid h.clear
  obtain ⟨c0, c1, c2, c3, c4, c5, c6, c7, c8, c9, fz, hz⟩ := h.cells
  rw [show (σ.ph : Int) = 1 by omega] at c7
  have HE := Lib.hid he
  clear h hp he
  go_enter Tryz.func137, Tryz.ntmps137
  go_wp2_with (go_at_call 205; (with_reducible refine CL.out.mono ?_); rintro e w2 ⟨rfl, h2⟩; have X2 := Lib.hid h2; obtain ⟨-, -, -, -, d4, -, -, -, -, -, -, dz⟩ := h2.cells; clear h2)
  go_region_held3 (fun W => W.cell? ⟨c.B, 4, none⟩ = some (.int .i64 k.gl)) (first | with_reducible exact d4 | with_reducible exact d34 | go_keep) (first
    | (go_at_call 69; (with_reducible refine (X2.out.one k.gl _ ((World.grownBy_alloc _ _ _).trans (gr.grown_drew _ _)) _ (heap_alloc_new _ _) (rd_drew1 _ _ _)).mono ?_); rintro e w3 ⟨rfl, h3⟩; have X3 := Lib.hid h3; obtain ⟨-, -, -, -, d34, d35, -, d37, -, -, dfz, dz3⟩ := h3.cells; clear h3))
  go_wp2_with (go_at_call 144; (with_reducible refine (((X3.out.new (by first | exact World.grownBy.refl _ _ | exact li.grown_drewN _ _ _ | exact gr.grown_drew _ _)).putz (z := 2) 2 rfl).1.raise HE.out).mono ?_); rintro e w4 ⟨rfl, h4⟩; have X4 := Lib.hid h4; clear h4)
  go_ret
  exact ⟨rfl, X4.out⟩
theorem next2 (h : Cx w0 k c L0 K0 σ W) (hp : σ.ph = 2) : Calls Tryz.prog 137 #[.pointer (some ⟨c.B, 0, none⟩)] W fun e w' => e = .returned (.bool true) ∧ Cx w0 k c L0 K0 σ.to3 w' := by
  have X := Lib.hid h
  obtain ⟨c0, c1, c2, c3, c4, c5, c6, c7, c8, c9, fz, hz⟩ := h.cells
  rw [show (σ.ph : Int) = 2 by omega] at c7
  clear h hp
  go_enter Tryz.func137, Tryz.ntmps137
  go_wp2
  go_ret
  exact ⟨rfl, (X.out.putz (z := 3) 3 rfl).1⟩
theorem next4 (h : Cx w0 k c L0 K0 σ W) (hp : σ.ph = 4) (hr : -1 ≤ σ.p ∧ σ.p < k.N) : Calls Tryz.prog 137 #[.pointer (some ⟨c.B, 0, none⟩)] W fun e w' => e = .returned (.bool true) ∧ Cx w0 k c L0 K0 σ.n4 w' := by
  have X := Lib.hid h
  have EM := Lib.hid (fun W' τ (hx : Cx w0 k c L0 K0 τ W') (hb : τ.bf = σ.bf) => show Calls Tryz.prog 206 #[.pointer (some ⟨c.b, 0, none⟩)] W' fun e w' => e = .returned (.bool (decide (bf.tot σ.bf = 0))) ∧ W' = w' by
    obtain ⟨L, K, h1, h2, h3, h4⟩ := hx
    rw [← hb]
    exact bf.Empty_any h3.bf)
  have ID := Lib.hid (fun W' τ (hx : Cx w0 k c L0 K0 τ W') (hb : τ.s = σ.s ∧ τ.p = σ.p) => show Calls Tryz.prog 207 #[.pointer (some ⟨c.t, 0, none⟩)] W' fun e w' => e = .returned (.bool (tc.Ts.idle ⟨σ.s, σ.p⟩)) ∧ W' = w' by
    obtain ⟨L, K, h1, h2, h3, h4⟩ := hx
    rw [← hb.1, ← hb.2]
    exact tc.Idle_any h3.tw rfl (by rw [hb.2]; exact hr))
  have N4 := Lib.hid (show σ.n4 = if bf.tot σ.bf = 0 ∧ tc.Ts.idle ⟨σ.s, σ.p⟩ = true then { σ with ph := 5, q := 0, f := 0 } else { σ with ph := 3 } from rfl)
  obtain ⟨c0, c1, c2, c3, c4, c5, c6, c7, c8, c9, fz, hz⟩ := h.cells
  rw [show (σ.ph : Int) = 4 by omega] at c7
  have X3 := Lib.hid (h.putz (z := 3) 3 rfl).1
  obtain ⟨d0, d1, d2, d3, d4, d5, d6, d7, d8, d9, dfz, dz⟩ := X3.out.cells
  have EM3 := Lib.hid (EM.out _ _ X3.out rfl)
  have ID3 := Lib.hid (ID.out _ _ X3.out ⟨rfl, rfl⟩)
  generalize σ.n4 = τ at *
  by_cases h1 : bf.tot σ.bf = 0
  · rw [decide_eq_true h1] at EM3
    cases h2 : tc.Ts.idle ⟨σ.s, σ.p⟩ with
    | true =>
      have FN := Lib.hid (show τ = { σ with ph := 5, q := 0, f := 0 } by rw [N4.out, if_pos ⟨h1, h2⟩])
      rw [h2] at ID3
      clear h hp hr h1 h2 N4 EM ID
      go_enter Tryz.func137, Tryz.ntmps137
      go_wp2_with (first
        | (go_at_call 206; (with_reducible refine EM3.out.mono ?_); rintro e w' ⟨rfl, rfl⟩)
        | (go_at_call 207; (with_reducible refine ID3.out.mono ?_); rintro e w' ⟨rfl, rfl⟩)
        | (go_at_call 208; (with_reducible refine ((X3.out.putz (z := 5) 5 rfl).1.start5).mono ?_); rintro e w4 ⟨rfl, h4⟩; have X4 := Lib.hid h4; clear h4))
      go_ret
      rw [FN.out]
      exact ⟨rfl, X4.out⟩
    | false =>
      have FN := Lib.hid (show τ = { σ with ph := 3 } by rw [N4.out, if_neg (fun e => by rw [h2] at e; exact absurd e.2 (by decide))])
      rw [h2] at ID3
      clear h hp hr h1 h2 N4 EM ID
      go_enter Tryz.func137, Tryz.ntmps137
      go_wp2_with (first
        | (go_at_call 206; (with_reducible refine EM3.out.mono ?_); rintro e w' ⟨rfl, rfl⟩)
        | (go_at_call 207; (with_reducible refine ID3.out.mono ?_); rintro e w' ⟨rfl, rfl⟩))
      go_ret
      rw [FN.out]
      exact ⟨rfl, X3.out⟩
  · rw [decide_eq_false h1] at EM3
    have FN := Lib.hid (show τ = { σ with ph := 3 } by rw [N4.out, if_neg (fun e => h1 e.1)])
    clear h hp hr h1 N4 EM ID ID3
    go_enter Tryz.func137, Tryz.ntmps137
    go_wp2_with (go_at_call 206; (with_reducible refine EM3.out.mono ?_); rintro e w' ⟨rfl, rfl⟩)
    go_ret
    rw [FN.out]
    exact ⟨rfl, X3.out⟩
theorem next0 (h : Cx w0 k c L0 K0 σ W) (hp : σ.ph ≠ 1 ∧ σ.ph ≠ 2 ∧ σ.ph ≠ 4) : Calls Tryz.prog 137 #[.pointer (some ⟨c.B, 0, none⟩)] W fun e w' => e = .returned (.bool false) ∧ W = w' := by
  obtain ⟨c0, c1, c2, c3, c4, c5, c6, c7, c8, c9, fz, hz⟩ := h.cells
  generalize σ.ph = p at *
  have t1 : ((p : Int) == 1) = false := by simp; omega
  have t2 : ((p : Int) == 2) = false := by simp; omega
  have t4 : ((p : Int) == 4) = false := by simp; omega
  clear h hp
  go_enter Tryz.func137, Tryz.ntmps137
  go_wp2
  go_ret
  exact ⟨rfl, rfl⟩
def rk (p : Nat) : Nat := if p = 1 then 3 else if p = 2 then 2 else if p = 4 then 2 else 1
def ms (B : Nat) (w : World) : Nat := match w.cell? ⟨B, 271, none⟩ with
  | some (.int _ z) => rk z.toNat
  | _ => 0
theorem ms_of (h : Cx w0 k c L0 K0 σ W) : ms c.B W = rk σ.ph := by
  obtain ⟨c0, c1, c2, c3, c4, c5, c6, c7, c8, c9, fz, hz⟩ := h.cells
  unfold ms
  rw [c7]
  rfl
theorem lead_n1 (ha : σ.ag = true) (hp : σ.ph = 1) : (σ.n1 k).lead k = σ.lead k := by
  unfold Cy.lead
  rw [if_pos ha, if_pos hp]
  have e : (σ.n1 k).ph = 2 := rfl
  rw [e]
  by_cases h : (σ.n1 k).ag = true
  · rw [if_pos h, if_neg (by decide), if_pos rfl, if_pos h]
  · rw [if_neg h, if_neg h]
theorem lead_3 (hp : σ.ph ≠ 1 ∧ σ.ph ≠ 2 ∧ σ.ph ≠ 4) : σ.lead k = σ := by
  unfold Cy.lead
  split
  · rw [if_neg hp.1, if_neg hp.2.1, if_neg hp.2.2]
  · rfl
theorem lead_to3 (ha : σ.ag = true) (hp : σ.ph = 2) : σ.to3.lead k = σ.lead k := by
  rw [lead_3 (σ := σ.to3) (by dsimp only [Cy.to3]; decide)]
  unfold Cy.lead
  rw [if_pos ha, if_neg (by omega), if_pos hp]
theorem n4_ph : σ.n4.ph = 5 ∨ σ.n4.ph = 3 := by
  unfold Cy.n4
  split
  · exact .inl rfl
  · exact .inr rfl
theorem lead_n4 (ha : σ.ag = true) (hp : σ.ph = 4) : σ.n4.lead k = σ.lead k := by
  have := n4_ph (σ := σ)
  rw [lead_3 (σ := σ.n4) (by omega)]
  unfold Cy.lead
  rw [if_pos ha, if_neg (by omega), if_neg (by omega), if_pos hp]
theorem lead_no (ha : σ.ag = false) : σ.lead k = σ := by
  unfold Cy.lead
  rw [if_neg (by rw [ha]; decide)]
theorem lead_any (h : Cw w k c L K σ) (h4 : σ.ph = 4 → -1 ≤ σ.p ∧ σ.p < k.N) (he : σ.e ≤ 900000) (hp5 : σ.ph ≤ 5) : Calls Tryz.prog 72 #[.pointer (some ⟨c.B, 0, none⟩)] w fun e w' => e = .returned (.tuple #[]) ∧ Cx w k c L K (σ.lead k) w' := by
  have X := Lib.hid (Cx.start h)
  have AG := Lib.hid (fun W' τ (hx : Cx w k c L K τ W') => show Calls Tryz.prog 136 #[.pointer (some ⟨c.e, 0, none⟩)] W' fun e w' => e = .returned (.bool τ.ag) ∧ Cx w k c L K τ w' from hx.tell fun L K h => ep.Agreed_any h.rg)
  have H4 := Lib.hid (And.intro h4 (And.intro he hp5))
  clear h h4 he hp5
  go_enter Tryz.func72, Tryz.ntmps72
  go_wp2
  go_loopw [7] (fun u wr => ∃ τ : Cy, Cx w k c L K τ wr ∧ τ.lead k = σ.lead k ∧ (τ.ph = 4 → -1 ≤ τ.p ∧ τ.p < k.N) ∧ (τ.ph = 1 → τ.e ≤ 900000) ∧ τ.ph ≤ 5) (fun _ wr => ms c.B wr)
  case atStart => exact ⟨σ, X.out, rfl, H4.out.1, fun _ => H4.out.2.1, H4.out.2.2⟩
  case round =>
    obtain ⟨τ, hx, hl, h4, he, h5⟩ := hrel
    have AGT := Lib.hid (AG.out _ _ hx)
    have HX := Lib.hid hx
    have HL := Lib.hid hl
    obtain ⟨c0, c1, c2, c3, c4, c5, c6, c7, c8, c9, fz, hz⟩ := hx.cells
    have MS := Lib.hid (ms_of hx)
    cases ha : τ.ag with
    | false =>
      have FN := Lib.hid (show σ.lead k = τ by rw [← hl]; exact lead_no ha)
      rw [ha] at AGT
      clear hx hl h4 he h5 ha
      go_wp2_with (go_at_call 136; (with_reducible refine AGT.out.mono ?_); rintro e w1 ⟨rfl, h1⟩; have X1 := Lib.hid h1; clear h1)
      go_end0
      rw [FN.out]
      exact ⟨rfl, X1.out⟩
    | true =>
      rw [ha] at AGT
      by_cases p1 : τ.ph = 1
      · have NX := Lib.hid (fun W' (hx : Cx w k c L K τ W') => next1 hx p1 (by have := he p1; omega))
        have FN := Lib.hid (And.intro ((lead_n1 ha p1).trans hl) p1)
        clear hx hl h4 he h5 ha p1
        go_wp2_with (first
          | (go_at_call 136; (with_reducible refine AGT.out.mono ?_); rintro e w1 ⟨rfl, h1⟩; have X1 := Lib.hid h1; clear h1)
          | (go_at_call 137; (with_reducible refine (NX.out _ X1.out).mono ?_); rintro e w2 ⟨rfl, h2⟩; have X2 := Lib.hid h2; clear h2))
        go_roundw
        case rel => exact ⟨_, X2.out, FN.out.1, fun e => absurd e (by show ¬ (2 : Nat) = 4; decide), fun e => absurd e (by show ¬ (2 : Nat) = 1; decide), by show 2 ≤ 5; decide⟩
        case measure => rw [ms_of X2.out, MS.out, FN.out.2]; show rk 2 < rk 1; decide
      · by_cases p2 : τ.ph = 2
        · have NX := Lib.hid (fun W' (hx : Cx w k c L K τ W') => next2 hx p2)
          have FN := Lib.hid (And.intro ((lead_to3 ha p2).trans hl) p2)
          clear hx hl h4 he h5 ha p1 p2
          go_wp2_with (first
            | (go_at_call 136; (with_reducible refine AGT.out.mono ?_); rintro e w1 ⟨rfl, h1⟩; have X1 := Lib.hid h1; clear h1)
            | (go_at_call 137; (with_reducible refine (NX.out _ X1.out).mono ?_); rintro e w2 ⟨rfl, h2⟩; have X2 := Lib.hid h2; clear h2))
          go_roundw
          case rel => exact ⟨_, X2.out, FN.out.1, fun e => absurd e (by show ¬ (3 : Nat) = 4; decide), fun e => absurd e (by show ¬ (3 : Nat) = 1; decide), by show 3 ≤ 5; decide⟩
          case measure => rw [ms_of X2.out, MS.out, FN.out.2]; show rk 3 < rk 2; decide
        · by_cases p4 : τ.ph = 4
          · have NX := Lib.hid (fun W' (hx : Cx w k c L K τ W') => next4 hx p4 (h4 p4))
            have FN := Lib.hid (And.intro ((lead_n4 ha p4).trans hl) (And.intro p4 (n4_ph (σ := τ))))
            clear hx hl h4 he h5 ha p1 p2 p4
            go_wp2_with (first
              | (go_at_call 136; (with_reducible refine AGT.out.mono ?_); rintro e w1 ⟨rfl, h1⟩; have X1 := Lib.hid h1; clear h1)
              | (go_at_call 137; (with_reducible refine (NX.out _ X1.out).mono ?_); rintro e w2 ⟨rfl, h2⟩; have X2 := Lib.hid h2; clear h2))
            go_roundw
            case rel => exact ⟨_, X2.out, FN.out.1, fun e => by have := FN.out.2.2; omega, fun e => by have := FN.out.2.2; omega, by have := FN.out.2.2; omega⟩
            case measure =>
              rw [ms_of X2.out, MS.out, FN.out.2.1]
              rcases FN.out.2.2 with e | e <;> rw [e] <;> decide
          · have NX := Lib.hid (fun W' (hx : Cx w k c L K τ W') => next0 hx ⟨p1, p2, p4⟩)
            have FN := Lib.hid (show σ.lead k = τ by rw [← hl]; exact lead_3 ⟨p1, p2, p4⟩)
            clear hx hl h4 he h5 ha p1 p2 p4
            go_wp2_with (first
              | (go_at_call 136; (with_reducible refine AGT.out.mono ?_); rintro e w1 ⟨rfl, h1⟩; have X1 := Lib.hid h1; clear h1)
              | (go_at_call 137; (with_reducible refine (NX.out _ X1.out).mono ?_); rintro e w2 ⟨rfl, rfl⟩))
            go_end0
            rw [FN.out]
            exact ⟨rfl, X1.out⟩
theorem raise_any (h : Cw w k c L K σ) (h4 : σ.ph = 4 → -1 ≤ σ.p ∧ σ.p < k.N) (he : σ.e ≤ 800000) (hp5 : σ.ph ≤ 5) : Calls Tryz.prog 74 #[.pointer (some ⟨c.B, 0, none⟩)] w fun e w' => e = .returned (.tuple #[]) ∧ Cx w k c L K (Cy.lead k { σ with e := σ.e + 1 }) w' := by
  have RS := Lib.hid ((Cx.start h).raise (by omega))
  have LD := Lib.hid (fun W' (hx : Cx w k c L K { σ with e := σ.e + 1 } W') => hx.call fun L K hw => lead_any hw h4 (by show σ.e + 1 ≤ 900000; omega) hp5)
  obtain ⟨c0, c1, c2, c3, c4, c5, c6, c7, c8, c9, fz, hz⟩ := h.cells
  clear h h4 he hp5
  go_enter Tryz.func74, Tryz.ntmps74
  go_wp2_with (first
    | (go_at_call 144; (with_reducible refine RS.out.mono ?_); rintro e w1 ⟨rfl, h1⟩; have X1 := Lib.hid h1; clear h1)
    | (go_at_call 72; (with_reducible refine (LD.out _ X1.out).mono ?_); rintro e w2 ⟨rfl, h2⟩; have X2 := Lib.hid h2; clear h2))
  go_end0
  exact ⟨rfl, X2.out⟩
end
end Go.Proofs.YtkgdcgmbapchcaaGreatDoor.cy
