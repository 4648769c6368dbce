/- The statement's own first look: one that is marked stays, another one goes. -/
import Derived.Test.YtfloleflcoiidaaGreatDoorSxD
namespace Go.Proofs.YtfloleflcoiidaaGreatDoor.sw
open Go.ChangeShapes Go.WideShapes Go.ChangeAt Go.RowKit gen calls cls geos ce st sh
set_option linter.unusedVariables false
set_option maxHeartbeats 8000000
set_option maxRecDepth 100000
/-- The stores of the first look. -/
def a0 : Hs := ph.x0 2
def a1 : Hs := (((a0.carved 0 2 4 8).owned 0 2 0).took 0 0 [1, 2, 3, 4, 5, 6, 7] 0 4).begun 0 2
def a2 : Hs := (a1.took 0 1 [2, 3, 4, 5, 6, 7] 4 4).begun 4 2
theorem a0_iv : Iv a0 := ⟨Ok.new 2 (by decide), fun b hb => by simp [a0, ph.x0] at hb, fun o ho => by simp [a0, ph.x0] at ho, ca.Good.nil _⟩
theorem a0_fit : ∀ q : Nat, q < 64 → fit a0 2 q = false := by decide +kernel
theorem a1_slo : Slo a0 0 2 a1 0 := .inr (.inr (.inr ⟨by decide, by intro h; exact absurd h (by decide +kernel), a0_fit, 0, 4, 4, 8, 0, [1, 2, 3, 4, 5, 6, 7], by decide +kernel, rfl, rfl, ⟨by decide +kernel, by decide, rfl, by decide, rfl⟩, rfl⟩))
theorem a2_slo : Slo a1 0 2 a2 4 := .inr (.inl ⟨by decide, 0, 4, 1, [2, 3, 4, 5, 6, 7], by decide +kernel, ⟨by decide +kernel, by decide, rfl, by decide, rfl⟩, rfl⟩)
theorem a1_iv : Iv a1 := (Slo_iv a0_iv (by decide) ⟨by decide, by decide⟩ a1_slo).1
theorem a2_iv : Iv a2 := (Slo_iv a1_iv (by decide) ⟨by decide, by decide⟩ a2_slo).1
/-- What the units leave. -/
def u0 : Ps := none0.black 4
def z1 : Sz := unit ⟨a2, u0, 0⟩ 0
def z2 : Sz := unit z1 1
theorem z_facts : (0 : Int) ∉ z2.x.tk ∧ (4 : Int) ∈ z2.x.tk ∧ z2.x.xs.getD 4 0 = 130 ∧ isb z2.s.ws 4 = false ∧ z2.f = 1 ∧ z1.f ≤ 10 := by decide +kernel
/-- A store, a grey and a sweeper that the call made. -/
structure Aw (w0 W : World) (I : Ids) (x : Hs) (L : List Nat) (g r : Nat) (s : Ps) (t N c f : Nat) : Prop where
  sp : Sp W I x L g r s t N c f
  lo : (∀ q, q ∈ I.all → w0.heap.size ≤ q) ∧ ∀ q, q ∈ t :: L → w0.heap.size ≤ q
  gr : w0.grownBy W none
section
variable {w0 W W' : World} {I : Ids} {x x' : Hs} {L L' : List Nat} {g r t N c c' f f' F : Nat} {s s' : Ps} {v : Value} {args : Array Value}
theorem Aw.new (h : Aw w0 W I x L g r s t N c f) (hg : W.grownBy W' none) : Aw w0 W' I x L g r s t N c f := ⟨h.sp.new hg, h.lo, h.gr.trans hg⟩
theorem Aw.prog (h : Aw w0 W I x L g r s t N c f) (C : Calls Tryz.prog F args W fun e w' => e = .returned v ∧ ∃ L', (∀ q, q ∈ L' → q ∈ L ∨ W.heap.size ≤ q) ∧ Sp w' I x' L' g r s' t N c' f' ∧ Gr (wr t L I) W w') :
    Calls Tryz.prog F args W fun e w' => e = .returned v ∧ ∃ L', Aw w0 w' I x' L' g r s' t N c' f' := by
  refine C.mono fun e w' ⟨k1, L', h1, h2, h3⟩ => ⟨k1, L', h2, ⟨h.lo.1, fun q hq => ?_⟩, Gr.grown h.gr h3 (fun q hq => ?_)⟩
  · rcases List.mem_cons.1 hq with rfl | hq
    · exact h.lo.2 q (by simp)
    · rcases h1 q hq with e | e
      · exact h.lo.2 q (by simp [e])
      · exact Nat.le_trans h.gr.size e
  · rcases in_wr.1 hq with e | e | e
    · exact h.lo.2 q (by simp [e])
    · exact h.lo.2 q (by simp [e])
    · exact h.lo.1 q (IL_all e)
theorem Aw.slow (h : Aw w0 W I x L g r s t N c f) (x1 : 0 < x.T) {n a : Nat} {z : Hs} (S : Slo x 0 n z a) (hv : Iv z) (s8 : z.cnt < 1099511627776) :
    Calls Tryz.prog 23 #[.pointer (some ⟨I.S, 0, none⟩), .int .i64 0, .int .i64 n] W fun e w' => e = .returned (.tuple #[.int .i64 a, .int .i64 0]) ∧ ∃ L', Aw w0 w' I z L' g r s t N c f :=
  h.prog ((Slo_prog h.sp.sr h.sp.iv h.sp.s8 ⟨by decide, by omega⟩ S).mono fun e w' ⟨k1, k2, k3⟩ => ⟨k1, L, fun q hq => .inl hq, h.sp.store k2 hv s8 k3, wr_I k3⟩)
theorem Aw.unit (hT : bm.Tab w0) (h : Aw w0 W I x L g r s t N c f) (hc : c < N) (hf : f + 2048 ≤ 1000000) :
    Calls Tryz.prog 14 #[.pointer (some ⟨t, 0, none⟩)] W fun e w' => e = .returned (.bool true) ∧ ∃ L', Aw w0 w' I (unit ⟨x, s, f⟩ c).x L' g r (unit ⟨x, s, f⟩ c).s t N (c + 1) (unit ⟨x, s, f⟩ c).f := by
  have h1 := h.lo.1 I.s (by simp [Ids.all])
  have h2 := hT.1
  exact h.prog (Unit_yes h.sp (hT.kept h.gr (by simp)) (by omega) hc hf)
theorem alive_any (w : World) (hT : bm.Tab w) : Calls Tryz.prog 6 #[] w fun e w' => e = .returned (.bool true) ∧ w.grownBy w' none := by
  obtain ⟨i0, i1, i2, i3, i4, i5⟩ := z_facts
  have NW := Lib.hid (st.New_any 2 1 2 1 (by decide) (by decide) w)
  have NG := Lib.hid (fun W => sh.New_any 1 1 (by decide) (by decide) (by decide) W)
  have NT := Lib.hid (fun pS qg W => New_any pS qg 2 (N := 2) (by decide) W)
  have S1 := Lib.hid (fun W I L g t (h : Aw w W I a0 L g 1 none0 t 2 2 0) => (show Calls Tryz.prog 23 #[.pointer (some ⟨I.S, 0, none⟩), .int .i64 0, .int .i64 2] W fun e w' => e = .returned (.tuple #[.int .i64 0, .int .i64 0]) ∧ ∃ L', Aw w w' I a1 L' g 1 none0 t 2 2 0 from h.slow (by decide) a1_slo a1_iv (by decide)))
  have S2 := Lib.hid (fun W I L g t (h : Aw w W I a1 L g 1 none0 t 2 2 0) => (show Calls Tryz.prog 23 #[.pointer (some ⟨I.S, 0, none⟩), .int .i64 0, .int .i64 2] W fun e w' => e = .returned (.tuple #[.int .i64 4, .int .i64 0]) ∧ ∃ L', Aw w w' I a2 L' g 1 none0 t 2 2 0 from h.slow (by decide) a2_slo a2_iv (by decide)))
  have BK := Lib.hid (fun W I L g t (h : Aw w W I a2 L g 1 none0 t 2 2 0) => (show Calls Tryz.prog 24 #[.pointer (some ⟨g, 0, none⟩), .int .i64 4] W fun e w' => (∃ b, e = .returned (.bool b)) ∧ ∃ L', Aw w w' I a2 L' g 1 u0 t 2 2 0 from
    (h.prog ((Black_any h.sp.gy 4).mono fun e w' ⟨k1, L', k2, k3, k4⟩ => ⟨k1, L', k2, h.sp.grey k2 k3 k4, wr_L k4⟩)).mono fun e w' ⟨k1, k2⟩ => ⟨⟨_, k1⟩, k2⟩))
  have D0 := Lib.hid (fun W I L g t (h : Aw w W I a2 L g 1 u0 t 2 2 0) => (show Calls Tryz.prog 20 #[.pointer (some ⟨t, 0, none⟩)] W fun e w' => e = .returned (.bool true) ∧ Aw w w' I a2 L g 1 u0 t 2 2 0 from
    (Done_any h.sp.so).mono fun e w' ⟨k1, k2⟩ => ⟨k1, h.new k2⟩))
  have ST := Lib.hid (fun W I L g t (h : Aw w W I a2 L g 1 u0 t 2 2 0) => (show Calls Tryz.prog 13 #[.pointer (some ⟨t, 0, none⟩)] W fun e w' => e = .returned (.tuple #[]) ∧ ∃ L', Aw w w' I a2 L' g 1 u0 t 2 0 0 from
    h.prog ((Start_any h.sp.so).mono fun e w' ⟨k1, k2, k3⟩ => ⟨k1, L, fun q hq => .inl hq, h.sp.box k3 k2 (by decide) (by decide), wr_t k3⟩)))
  have U1 := Lib.hid (fun W I L g t (h : Aw w W I a2 L g 1 u0 t 2 0 0) => (show Calls Tryz.prog 14 #[.pointer (some ⟨t, 0, none⟩)] W fun e w' => e = .returned (.bool true) ∧ ∃ L', Aw w w' I z1.x L' g 1 z1.s t 2 1 z1.f from Aw.unit hT h (by decide) (by decide)))
  have U2 := Lib.hid (fun W I L g t (h : Aw w W I z1.x L g 1 z1.s t 2 1 z1.f) => (show Calls Tryz.prog 14 #[.pointer (some ⟨t, 0, none⟩)] W fun e w' => e = .returned (.bool true) ∧ ∃ L', Aw w w' I z2.x L' g 1 z2.s t 2 2 z2.f from Aw.unit hT h (by decide) (Nat.le_trans (Nat.add_le_add_right i5 2048) (by decide))))
  have U3 := Lib.hid (fun W I L g t (h : Aw w W I z2.x L g 1 z2.s t 2 2 z2.f) => (show Calls Tryz.prog 14 #[.pointer (some ⟨t, 0, none⟩)] W fun e w' => e = .returned (.bool false) ∧ Aw w w' I z2.x L g 1 z2.s t 2 2 z2.f from
    (Unit_no h.sp.so).mono fun e w' ⟨k1, k2⟩ => ⟨k1, h.new k2⟩))
  have F0 := Lib.hid (fun W I L g t (h : Aw w W I z2.x L g 1 z2.s t 2 2 z2.f) => (show Calls Tryz.prog 25 #[.pointer (some ⟨I.S, 0, none⟩), .int .i64 0] W fun e w' => e = .returned (.int .i64 (-1)) ∧ Aw w w' I z2.x L g 1 z2.s t 2 2 z2.f from
    (Fields_no h.sp.sr i0).mono fun e w' ⟨k1, k2⟩ => ⟨k1, h.new k2⟩))
  have F4 := Lib.hid (fun W I L g t (h : Aw w W I z2.x L g 1 z2.s t 2 2 z2.f) => (show Calls Tryz.prog 25 #[.pointer (some ⟨I.S, 0, none⟩), .int .i64 4] W fun e w' => e = .returned (.int .i64 2) ∧ Aw w w' I z2.x L g 1 z2.s t 2 2 z2.f from
    (Fields_yes (a := 4) (s := 1) (n := 2) h.sp.sr ⟨i1, by rw [i2]; decide, by decide, by decide⟩).mono fun e w' ⟨k1, k2⟩ => ⟨k1, h.new k2⟩))
  have IS := Lib.hid (fun W I L g t (h : Aw w W I z2.x L g 1 z2.s t 2 2 z2.f) => (show Calls Tryz.prog 26 #[.pointer (some ⟨g, 0, none⟩), .int .i64 4] W fun e w' => e = .returned (.bool false) ∧ Aw w w' I z2.x L g 1 z2.s t 2 2 z2.f from
    (Is_any h.sp.gy 4).mono fun e w' ⟨k1, k2⟩ => ⟨by rw [← i3]; exact k1, h.new k2⟩))
  have FR := Lib.hid (fun W I L g t (h : Aw w W I z2.x L g 1 z2.s t 2 2 z2.f) => (show Calls Tryz.prog 17 #[.pointer (some ⟨t, 0, none⟩)] W fun e w' => e = .returned (.int .i64 1) ∧ W = w' from
    (Freed_any h.sp.so).mono fun e w' ⟨k1, k2⟩ => ⟨by rw [k1, i4]; rfl, k2⟩))
  have AT := Lib.hid (fun W I L g t (h : Aw w W I z2.x L g 1 z2.s t 2 2 z2.f) => (show Calls Tryz.prog 19 #[.pointer (some ⟨t, 0, none⟩)] W fun e w' => e = .returned (.int .i64 2) ∧ W = w' from At_any h.sp.so))
  have D3 := Lib.hid (fun W I L g t (h : Aw w W I z2.x L g 1 z2.s t 2 2 z2.f) => (show Calls Tryz.prog 20 #[.pointer (some ⟨t, 0, none⟩)] W fun e w' => e = .returned (.bool true) ∧ w.grownBy w' none from
    (Done_any h.sp.so).mono fun e w' ⟨k1, k2⟩ => ⟨k1, h.gr.trans k2⟩))
  clear i0 i1 i2 i3 i4 i5
  go_enter Tryz.func6, Tryz.ntmps6
  go_wp2_with (first
    | (go_at_call 21; (with_reducible refine NW.out.mono ?_); rintro e w1 ⟨I, rfl, hs, hl, hg⟩; have H1 := Lib.hid (show Sr w1 I a0 from hs); have G1 := Lib.hid hg; have O := Lib.hid hl; clear hs hl hg)
    | (go_at_call 22; (with_reducible refine (NG.out _).mono ?_); rintro e w2 ⟨g, L, rfl, hs, hl, hg⟩; have Y2 := Lib.hid hs; have L2 := Lib.hid hl; have G2 := Lib.hid hg; clear hs hl hg)
    | (go_at_call 18; (with_reducible refine (NT.out _ _ _).mono ?_); rintro e w3 ⟨rfl, hs, hg⟩; have A3 := Lib.hid (show Aw w w3 I a0 L g 1 none0 w2.heap.size 2 2 0 from ⟨⟨(H1.out.new G2.out).new hg, a0_iv, Y2.out.new hg, hs, fun q hq hm => by have := L2.out q hq; have := H1.out.lt q hm; omega, by decide, by decide, by decide, by decide⟩, ⟨O.out, fun q hq => by
        rcases List.mem_cons.1 hq with rfl | hq
        · exact (G1.out.trans G2.out).size
        · exact Nat.le_trans G1.out.size (L2.out q hq)⟩, (G1.out.trans G2.out).trans hg⟩); clear hs hg)
    | (have mark := A4; go_at_call 23; (with_reducible refine (S2.out _ _ _ _ _ A4.out).mono ?_); rintro e w5 ⟨rfl, L5, h⟩; have A5 := Lib.hid h; clear h)
    | (go_at_call 23; (with_reducible refine (S1.out _ _ _ _ _ A3.out).mono ?_); rintro e w4 ⟨rfl, L4, h⟩; have A4 := Lib.hid h; clear h)
    | (go_at_call 24; (with_reducible refine (BK.out _ _ _ _ _ A5.out).mono ?_); rintro e w6 ⟨⟨b6, rfl⟩, L6, h⟩; have A6 := Lib.hid h; clear h)
    | (have mark := A14; go_at_call 20; (with_reducible refine (D3.out _ _ _ _ _ A14.out).mono ?_); rintro e w15 ⟨rfl, hg⟩; have G15 := Lib.hid hg; clear hg)
    | (go_at_call 20; (with_reducible refine (D0.out _ _ _ _ _ A6.out).mono ?_); rintro e w7 ⟨rfl, h⟩; have A7 := Lib.hid h; clear h)
    | (go_at_call 13; (with_reducible refine (ST.out _ _ _ _ _ A7.out).mono ?_); rintro e w8 ⟨rfl, L8, h⟩; have A8 := Lib.hid h; clear h)
    | (have mark := A10; go_at_call 14; (with_reducible refine (U3.out _ _ _ _ _ A10.out).mono ?_); rintro e w11 ⟨rfl, h⟩; have A11 := Lib.hid h; clear h)
    | (have mark := A9; go_at_call 14; (with_reducible refine (U2.out _ _ _ _ _ A9.out).mono ?_); rintro e w10 ⟨rfl, L10, h⟩; have A10 := Lib.hid h; clear h)
    | (go_at_call 14; (with_reducible refine (U1.out _ _ _ _ _ A8.out).mono ?_); rintro e w9 ⟨rfl, L9, h⟩; have A9 := Lib.hid h; clear h)
    | (have mark := A12; go_at_call 25; (with_reducible refine (F4.out _ _ _ _ _ A12.out).mono ?_); rintro e w13 ⟨rfl, h⟩; have A13 := Lib.hid h; clear h)
    | (go_at_call 25; (with_reducible refine (F0.out _ _ _ _ _ A11.out).mono ?_); rintro e w12 ⟨rfl, h⟩; have A12 := Lib.hid h; clear h)
    | (go_at_call 26; (with_reducible refine (IS.out _ _ _ _ _ A13.out).mono ?_); rintro e w14 ⟨rfl, h⟩; have A14 := Lib.hid h; clear h)
    | (go_at_call 17; (with_reducible refine (FR.out _ _ _ _ _ A14.out).mono ?_); rintro e w' ⟨rfl, rfl⟩)
    | (go_at_call 19; (with_reducible refine (AT.out _ _ _ _ _ A14.out).mono ?_); rintro e w' ⟨rfl, rfl⟩))
  go_ret
  exact ⟨rfl, G15.out⟩
end
end Go.Proofs.YtfloleflcoiidaaGreatDoor.sw
