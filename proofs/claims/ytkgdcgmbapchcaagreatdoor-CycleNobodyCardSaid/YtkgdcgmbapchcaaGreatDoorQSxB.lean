/- Texts that this claim stands on. -/
import Derived.BigQuiet
import Derived.Deep.RegionHeld3
import Derived.Test.YtkgdcgmbapchcaaGreatDoorQSxA
import Derived.Test.YtkgdcgmbapchcaaGreatDoorQTcX
namespace Go.Proofs.YtkgdcgmbapchcaaGreatDoor.sw
open Go.ChangeShapes Go.WideShapes Go.ChangeAt Go.RowKit gen calls cls geos ce st sh
set_option linter.unusedVariables false
set_option maxHeartbeats 4000000
set_option maxRecDepth 100000
section
variable {w w' : World} {I : Ids} {x x' : Hs} {L L' M : List Nat} {g r t N c f S : Nat} {s s' : Ps}
def So (w : World) (t S g N c f : Nat) : Prop := w.heap[t]? = some (.cells #[.pointer (some ⟨S, 0, none⟩), .pointer (some ⟨g, 0, none⟩), .int .i64 N, .int .i64 c, .int .i64 f] 153 (0, 0))
theorem So.lt (h : So w t S g N c f) : t < w.heap.size := (Array.getElem?_eq_some_iff.1 h).1
theorem So.gr (h : So w t S g N c f) (hg : Gr M w w') (ht : t ∉ M) : So w' t S g N c f := hg.heap h ht
theorem So.new (h : So w t S g N c f) (hg : w.grownBy w' none) : So w' t S g N c f := (Gr.new (L := []) hg).heap h (by simp)
theorem So.cs (h : So w t S g N c f) : w.cell? ⟨t, 0, none⟩ = some (.pointer (some ⟨S, 0, none⟩)) ∧ w.cell? ⟨t, 1, none⟩ = some (.pointer (some ⟨g, 0, none⟩)) ∧ w.cell? ⟨t, 2, none⟩ = some (.int .i64 N) ∧ w.cell? ⟨t, 3, none⟩ = some (.int .i64 c) ∧ w.cell? ⟨t, 4, none⟩ = some (.int .i64 f) ∧ ∀ k, w.frozen? ⟨t, k, none⟩ = false :=
  ⟨by rw [cell_of_row w t 0 _ _ _ h]; rfl, by rw [cell_of_row w t 1 _ _ _ h]; rfl, by rw [cell_of_row w t 2 _ _ _ h]; rfl, by rw [cell_of_row w t 3 _ _ _ h]; rfl, by rw [cell_of_row w t 4 _ _ _ h]; rfl, fun k => frozen_of_row w t k _ _ h⟩
structure Sp (w : World) (I : Ids) (x : Hs) (L : List Nat) (g r : Nat) (s : Ps) (t N c f : Nat) : Prop where
  sr : Sr w I x
  iv : Iv x
  gy : Gy w L g r s
  so : So w t I.S g N c f
  ap : ∀ q, q ∈ L → q ∉ I.all
  s8 : x.cnt < 1099511627776
  n1 : 1 ≤ N ∧ N ≤ 64
  cN : c ≤ N
  fN : f ≤ 1000000
theorem t_off (H : Sr w I x) {cs : Array Value} {z : Nat × Nat} (b : w.heap[t]? = some (.cells cs 153 z)) : t ∉ I.all := by
  obtain ⟨ws, H0, _⟩ := H.hp
  obtain ⟨D, C⟩ := H.at_
  obtain ⟨zs, t1, t2, _⟩ := H0.tab
  obtain ⟨m1, m2, _⟩ := H0.mem
  obtain ⟨s1, _⟩ := H0.set
  obtain ⟨es, clock, hb, _⟩ := C.own
  have nm : ∀ x t f, Obj.map es clock ≠ .cells x t f := fun _ _ _ e => by cases e
  have a1 : t ≠ I.S := ty_ne b H.box (by decide)
  have a2 : t ≠ I.c := ty_ne b H0.cel (by decide)
  have a3 : t ≠ I.h := ty_ne b H0.hea (by decide)
  have a4 : t ≠ I.g := ty_ne b t1 (by decide)
  have a5 : t ≠ I.r := ty_ne b t2 (by decide)
  have a6 : t ≠ I.m := ty_ne b m1 (by decide)
  have a7 : t ≠ I.q := ty_ne b m2 (by decide)
  have a8 : t ≠ I.s := ty_ne b s1 (by decide)
  have a9 : t ≠ I.C := ty_ne b C.box (by decide)
  have a10 : t ≠ I.mb := map_ne b hb nm
  simp only [Ids.all, List.mem_cons, List.not_mem_nil, or_false]
  omega
theorem Sp.tI (h : Sp w I x L g r s t N c f) : t ∉ I.all := t_off h.sr h.so
theorem Sp.tL (h : Sp w I x L g r s t N c f) : t ∉ L := h.gy.off h.so (by decide) (by decide) (by decide) (by decide)
theorem IL_all {q : Nat} (h : q ∈ I.L) : q ∈ I.all := by simp [Ids.L] at h; simp [Ids.all]; omega
theorem Sp.gr (h : Sp w I x L g r s t N c f) (hg : Gr M w w') (h1 : ∀ q, q ∈ M → q ∉ I.all) (h2 : ∀ q, q ∈ M → q ∉ L) (h3 : t ∉ M) : Sp w' I x L g r s t N c f :=
  ⟨h.sr.gr hg h1, h.iv, h.gy.gr hg (fun q hq hm => h2 q hm hq), h.so.gr hg h3, h.ap, h.s8, h.n1, h.cN, h.fN⟩
theorem Sp.new (h : Sp w I x L g r s t N c f) (hg : w.grownBy w' none) : Sp w' I x L g r s t N c f := h.gr (M := []) (.new hg) (by simp) (by simp) (by simp)
theorem Sp.grey (h : Sp w I x L g r s t N c f) (hL : ∀ q, q ∈ L' → q ∈ L ∨ w.heap.size ≤ q) (hs : Gy w' L' g r s') (hg : Gr L w w') : Sp w' I x L' g r s' t N c f :=
  ⟨h.sr.gr hg h.ap, h.iv, hs, h.so.gr hg h.tL, fun q hq hm => by
    rcases hL q hq with e | e
    · exact h.ap q e hm
    · have := h.sr.lt q hm; omega, h.s8, h.n1, h.cN, h.fN⟩
theorem Sp.store (h : Sp w I x L g r s t N c f) (hs : Sr w' I x') (hv : Iv x') (s8 : x'.cnt < 1099511627776) (hg : Gr I.L w w') : Sp w' I x' L g r s t N c f :=
  ⟨hs, hv, h.gy.gr hg (fun q hq hm => h.ap q hq (IL_all hm)), h.so.gr hg (fun hm => h.tI (IL_all hm)), h.ap, s8, h.n1, h.cN, h.fN⟩
theorem set_so (h : So w t S g N c f) (v : Nat) : So (w.setCell ⟨t, 3, none⟩ (.int .i64 v)) t S g N v f ∧ So (w.setCell ⟨t, 4, none⟩ (.int .i64 v)) t S g N c v := by
  refine ⟨?_, ?_⟩
  · unfold So
    rw [heap_setCell_same w t 3 _ _ (.int .i64 (v : Int)) h]
    rfl
  · unfold So
    rw [heap_setCell_same w t 4 _ _ (.int .i64 (v : Int)) h]
    rfl
theorem Sp.box (h : Sp w I x L g r s t N c f) {c' f' : Nat} (hg : Gr [t] w w') (hb : So w' t I.S g N c' f') (hc : c' ≤ N) (hf : f' ≤ 1000000) : Sp w' I x L g r s t N c' f' := by
  have tI := h.tI
  have tL := h.tL
  exact ⟨h.sr.gr hg (fun q hq hm => by simp at hq; subst hq; exact tI hm), h.iv, h.gy.gr hg (fun q hq hm => by simp at hm; subst hm; exact tL hq), hb, h.ap, h.s8, h.n1, hc, hf⟩
def wr (t : Nat) (L : List Nat) (I : Ids) : List Nat := t :: (L ++ I.L)
theorem in_wr {q : Nat} : q ∈ wr t L I ↔ q = t ∨ q ∈ L ∨ q ∈ I.L := by unfold wr; rw [List.mem_cons, List.mem_append]
def Sa (I : Ids) (L : List Nat) (g r t N : Nat) (v : Value) (z : Sz) (c : Nat) (w : World) (e : Ending) (w' : World) : Prop :=
  e = .returned v ∧ ∃ L', (∀ q, q ∈ L' → q ∈ L ∨ w.heap.size ≤ q) ∧ Sp w' I z.x L' g r z.s t N c z.f ∧ Gr (wr t L I) w w'
theorem wr_then {w0 w1 w2 : World} {L0 L1 L2 : List Nat} (h0 : ∀ q, q ∈ L1 → q ∈ L0 ∨ w0.heap.size ≤ q) (g0 : Gr (wr t L0 I) w0 w1) (h1 : ∀ q, q ∈ L2 → q ∈ L1 ∨ w1.heap.size ≤ q) (g1 : Gr (wr t L1 I) w1 w2) :
    (∀ q, q ∈ L2 → q ∈ L0 ∨ w0.heap.size ≤ q) ∧ Gr (wr t L0 I) w0 w2 :=
  ⟨fun q hq => (h1 q hq).elim (h0 q) (fun e => .inr (Nat.le_trans g0.size e)), g0.own g1 (fun q hq => by
    rcases in_wr.1 hq with e | e | e
    · exact .inl (in_wr.2 (.inl e))
    · exact (h0 q e).imp (fun e => in_wr.2 (.inr (.inl e))) id
    · exact .inl (in_wr.2 (.inr (.inr e))))⟩
theorem wr_L {w0 w1 : World} {L0 : List Nat} (h : Gr L0 w0 w1) : Gr (wr t L0 I) w0 w1 := h.mono fun q hq => in_wr.2 (.inr (.inl hq))
theorem wr_I {w0 w1 : World} {L0 : List Nat} (h : Gr I.L w0 w1) : Gr (wr t L0 I) w0 w1 := h.mono fun q hq => in_wr.2 (.inr (.inr hq))
theorem wr_t {w0 w1 : World} {L0 : List Nat} (h : Gr [t] w0 w1) : Gr (wr t L0 I) w0 w1 := h.mono fun q hq => in_wr.2 (.inl (by simpa using hq))
theorem wr_n {w0 w1 : World} {L0 : List Nat} (h : w0.grownBy w1 none) : Gr (wr t L0 I) w0 w1 := .new h
end
end Go.Proofs.YtkgdcgmbapchcaaGreatDoor.sw
namespace Go.Proofs.YtkgdcgmbapchcaaGreatDoor.sw
open Go.ChangeShapes Go.WideShapes Go.ChangeAt Go.RowKit gen calls cls geos ce st sh
set_option linter.unusedVariables false
set_option maxHeartbeats 4000000
set_option maxRecDepth 100000
section
variable {w w' : World} {I : Ids} {x x' : Hs} {L L' M : List Nat} {g r t N c f S : Nat} {s s' : Ps} {e : Ending}
theorem there_any (t : Nat) (w : World) : Calls Tryz.prog 131 #[.pointer (some ⟨t, 0, none⟩)] w fun e w' => e = .returned (.pointer (some ⟨t, 0, none⟩)) ∧ w = w' := by
  go_enter Tryz.func131, Tryz.ntmps131
  go_wp2
  go_ret
  exact ⟨rfl, rfl⟩
theorem Done_any (h : So w t S g N c f) : Calls Tryz.prog 76 #[.pointer (some ⟨t, 0, none⟩)] w fun e w' => e = .returned (.bool ((c : Int) == N)) ∧ w.grownBy w' none := by
  obtain ⟨c0, c1, c2, c3, c4, _⟩ := h.cs
  clear h
  go_enter Tryz.func76, Tryz.ntmps76
  go_wp2_with (go_at_call 131; (with_reducible refine (there_any _ _).mono ?_); rintro e w' ⟨rfl, rfl⟩)
  go_quiet (fail)
  go_wp2
  go_ret
  exact ⟨rfl, li.grown_drewN _ _ _⟩
theorem Start_any (h : So w t S g N c f) : Calls Tryz.prog 208 #[.pointer (some ⟨t, 0, none⟩)] w fun e w' => e = .returned (.tuple #[]) ∧ So w' t S g N 0 0 ∧ Gr [t] w w' := by
  obtain ⟨c0, c1, c2, c3, c4, fz⟩ := h.cs
  have f3 := fz 3
  have f4 := fz 4
  have HH := Lib.hid h
  clear h fz
  go_enter Tryz.func208, Tryz.ntmps208
  go_wp2_with (go_at_call 131; (with_reducible refine (there_any _ _).mono ?_); rintro e w' ⟨rfl, rfl⟩)
  go_end0
  exact ⟨rfl, (set_so (set_so HH.out 0).1 0).2, (Gr.set (L := [t]) _ _ _ _ (by simp)).trans (.set _ _ _ _ (by simp))⟩
theorem New_any (pS qg : Option Addr) (n : Int) {N : Nat} (hN : bm.near n 1 64 = N) (w : World) :
    Calls Tryz.prog 103 #[.pointer pS, .pointer qg, .int .i64 n] w fun e w' => e = .returned (.pointer (some ⟨w.heap.size, 0, none⟩)) ∧ w'.heap[w.heap.size]? = some (.cells #[.pointer pS, .pointer qg, .int .i64 N, .int .i64 N, .int .i64 0] 153 (0, 0)) ∧ w.grownBy w' none := by
  have C1 := Lib.hid (fun w => bm.Clamp_any n 1 64 w)
  rw [hN] at C1
  clear hN
  go_enter Tryz.func103, Tryz.ntmps103
  go_wp2_with (first
    | (go_at_call 104; (with_reducible refine (C1.out _).mono ?_); rintro e w' ⟨rfl, rfl⟩))
  go_ret
  exact ⟨rfl, heap_alloc_new _ _, World.grownBy_alloc _ _ _⟩
theorem pass_any (h : Sp w I x L g r s t N c f) {a : Nat} (ha : (a : Int) ∈ x.tk) (hf : f < 1000000) :
    Calls Tryz.prog 146 #[.pointer (some ⟨t, 0, none⟩), .int .i64 a] w (Sa I L g r t N (.tuple #[]) (pass ⟨x, s, f⟩ a) c w) := by
  have CL := Lib.hid (Clear_any h.gy a)
  have FR := Lib.hid (fun W (hs : Sr W I x) => Free_gn hs ha)
  have IV := Lib.hid (iv_gn h.iv ha)
  have FL := Lib.hid hf
  have fI : (f : Int) < 1000000 := by omega
  have f0 : (0 : Int) ≤ f := by omega
  obtain ⟨c0, c1, c2, c3, c4, fz⟩ := h.so.cs
  have HH := Lib.hid h
  cases hb : isb s.ws a with
  | true =>
    have E := Lib.hid (show pass ⟨x, s, f⟩ (a : Int) = ⟨x, s.clear a, f⟩ from if_pos hb)
    rw [hb] at CL
    clear h ha hf fz hb
    go_enter Tryz.func146, Tryz.ntmps146
    go_wp2_with (go_at_call 213; (with_reducible refine CL.out.mono ?_); rintro e2 w2 ⟨rfl, L2, hl2, hs2, hg2⟩; have H2 := Lib.hid (HH.out.grey hl2 hs2 hg2); have HL2 := Lib.hid (fun q hq => (hl2 q hq : q ∈ L ∨ w.heap.size ≤ q)); have G2 := Lib.hid hg2; clear hl2 hs2 hg2)
    go_end0
    rw [E.out]
    exact ⟨rfl, L2, HL2.out, H2.out, wr_L G2.out⟩
  | false =>
    have E := Lib.hid (show pass ⟨x, s, f⟩ (a : Int) = ⟨gn x a, s, f + 1⟩ by unfold pass; rw [hb, if_neg (by decide), Int.toNat_natCast])
    have CS := Lib.hid (show s.clear (a : Int) = s by unfold Ps.clear rmd; rw [hb]; rfl)
    rw [hb, CS.out] at CL
    clear h ha hf fz hb
    go_enter Tryz.func146, Tryz.ntmps146
    go_wp2_with (first
      | (go_at_call 213; (with_reducible refine CL.out.mono ?_); rintro e2 w2 ⟨rfl, L2, hl2, hs2, hg2⟩; have H2 := Lib.hid (HH.out.grey hl2 hs2 hg2); have HL2 := Lib.hid (fun q hq => (hl2 q hq : q ∈ L ∨ w.heap.size ≤ q)); have G2 := Lib.hid hg2; obtain ⟨d0, d1, d2, d3, d4, fz⟩ := H2.out.so.cs; clear fz hl2 hs2 hg2)
      | (go_at_call 214; (with_reducible refine (FR.out _ H2.out.sr).mono ?_); rintro e3 w3 ⟨rfl, hs3, hg3⟩; have H3 := Lib.hid (H2.out.store hs3 IV.out.1 (by rw [gn_cnt]; exact H2.out.s8) hg3); have G3 := Lib.hid hg3; obtain ⟨k0, k1, k2, k3, k4, fz⟩ := H3.out.so.cs; have z4 := fz 4; clear fz hs3 hg3))
    go_end0
    rw [E.out]
    have W := wr_then (t := t) HL2.out (wr_L G2.out) (L2 := L2) (fun q hq => .inl hq) (wr_I G3.out)
    have W2 := wr_then W.1 W.2 (L2 := L2) (fun q hq => .inl hq) (wr_t (Gr.set (L := [t]) w3 t 4 (.int .i64 ((f + 1 : Nat) : Int)) (by simp)))
    have e1 : (f : Int) + 1 = ((f + 1 : Nat) : Int) := by omega
    rw [e1]
    exact ⟨rfl, L2, W2.1, H3.out.box (f' := f + 1) (.set _ _ _ _ (by simp)) (set_so H3.out.so (f + 1)).2 H3.out.cN (by have := FL.out; omega), W2.2⟩
end
end Go.Proofs.YtkgdcgmbapchcaaGreatDoor.sw
namespace Go.Proofs.YtkgdcgmbapchcaaGreatDoor.sw
open Go.ChangeShapes Go.WideShapes Go.ChangeAt Go.RowKit gen calls cls geos ce st sh
set_option linter.unusedVariables false
set_option maxHeartbeats 8000000
set_option maxRecDepth 100000
theorem passes_take {z : Sz} {l : List Int} {k : Nat} (hk : k < l.length) : passes z (l.take (k + 1)) = pass (passes z (l.take k)) (l.getD k 0) := by
  rw [li.take_more hk 0, passes_add]
structure Wy (z : Sz) (p : Int) (n : Nat) (Y : Nat → Sz) : Prop where
  ways : ∀ k, k ≤ n → Iv (Y k).x ∧ bm.Fine 2048 (Y k).s.ws ∧ (Y k).f ≤ z.f + k ∧ (Y k).x.cnt = z.x.cnt ∧ (Y k).x.own = z.x.own ∧ (Y k).x.T = z.x.T ∧ (Y k).x.tk.length ≤ z.x.tk.length
  next : ∀ k, k < n → ∃ A : Nat, (tc.inp z.x p).getD k 0 = A ∧ A < 2048 ∧ (A : Int) ∈ (Y k).x.tk ∧ Y (k + 1) = pass (Y k) A
  zero : Y 0 = z
  few : n ≤ 2048
  fin : unit z p = ⟨trimd (Y n).x p, (Y n).s, (Y n).f⟩
theorem way_of {z : Sz} (V : Iv z.x) (F : bm.Fine 2048 z.s.ws) (p : Int) {n : Nat} (hn : (tc.inp z.x p).length = n) (hl : z.x.tk.length ≤ 2048) : Wy z p n (fun k => passes z ((tc.inp z.x p).take k)) := by
  have P : ∀ k, Pz z ((tc.inp z.x p).take k) (passes z ((tc.inp z.x p).take k)) := fun k => pz_all _ z V F ((inp_nodup V p).sublist (List.take_sublist _ _)) (fun a h => (inp_mem.1 ((List.take_sublist _ _).subset h)).1)
  refine ⟨fun k hk => ⟨(P k).iv, (P k).fi, ?_, (P k).cnt, (P k).own, (P k).T, by rw [(P k).tk]; exact List.length_filter_le _ _⟩, fun k hk => ?_, rfl, ?_, ?_⟩
  · have h1 := (P k).f
    have h2 := List.length_filter_le (fun b => !isb z.s.ws b) ((tc.inp z.x p).take k)
    rw [List.length_take] at h2
    omega
  · have hk' : k < (tc.inp z.x p).length := by omega
    have m := inp_mem.1 (li.getD_mem hk' 0)
    have r := ph.tk_range V m.1
    refine ⟨((tc.inp z.x p).getD k 0).toNat, by omega, by omega, ?_, ?_⟩
    · rw [show ((((tc.inp z.x p).getD k 0).toNat : Nat) : Int) = (tc.inp z.x p).getD k 0 by omega, (P k).tk, List.mem_filter]
      refine ⟨m.1, ?_⟩
      have : (tc.inp z.x p).getD k 0 ∉ (tc.inp z.x p).take k := fun h => by
        obtain ⟨j, hj, e⟩ := List.mem_iff_getElem.1 h
        rw [List.length_take] at hj
        rw [List.getElem_take, List.getD_eq_getElem?_getD, List.getElem?_eq_getElem hk'] at e
        exact List.pairwise_iff_getElem.1 (inp_nodup V p) j k (by omega) hk' (by omega) e
      rw [decide_eq_true this]
      rfl
    · rw [show ((((tc.inp z.x p).getD k 0).toNat : Nat) : Int) = (tc.inp z.x p).getD k 0 by omega]
      exact passes_take hk'
  · have := List.length_filter_le (fun a => decide (a / 32 = p)) z.x.tk
    unfold tc.inp at hn
    omega
  · unfold unit
    rw [List.take_of_length_le (by omega)]
section
variable {w w' : World} {I : Ids} {x x' : Hs} {L L' M : List Nat} {g r t N c f S : Nat} {s s' : Ps} {e : Ending}
theorem tk_few (H : Sr w I x) : x.tk.length ≤ 2048 := by
  obtain ⟨ws, _, e⟩ := H.hp
  rw [← e]
  exact bm.nums_length ws
theorem row_wr {w1 : World} {base n : Nat} {v : Value} {xs : List Value} (h : w.ownsRow base 3 1 v n xs) (S : Sp w I x L g r s t N c f) (hI : ∀ q, q ∈ I.all → q < base) (hg : Gr (sw.wr t L I) w w1) : w1.ownsRow base 3 1 v n xs :=
  ph.row_gr h hg (fun q hq hm => by
    have hb := own_base h q hq
    obtain ⟨cur, hc⟩ : ∃ cur, w.heap[q]? = some (.cells cur 3 (0, 0)) := by
      rcases h.2 with ⟨rfl, _⟩ | ⟨g, cap, cur, rfl, _, hg, _⟩
      · cases hq
      · injection hq with hq
        subst hq
        exact ⟨cur, hg⟩
    rcases in_wr.1 hm with e | e | e
    · subst e
      exact ty_ne hc S.so (by decide) rfl
    · exact S.gy.off hc (by decide) (by decide) (by decide) (by decide) e
    · have := hI q (IL_all e)
      omega)
theorem Unit_yes (h : Sp w I x L g r s t N c f) (hT : bm.Tab w) (h0 : I.s ≠ 1) (hc : c < N) (hf : f + 2048 ≤ 1000000) :
    Calls Tryz.prog 75 #[.pointer (some ⟨t, 0, none⟩)] w (Sa I L g r t N (.bool true) (unit ⟨x, s, f⟩ c) (c + 1) w) := by
  obtain ⟨n, hn⟩ : ∃ n, (tc.inp x c).length = n := ⟨_, rfl⟩
  have WY := way_of (z := ⟨x, s, f⟩) h.iv h.gy.fine c hn (tk_few h.sr)
  generalize (fun k => passes ⟨x, s, f⟩ ((tc.inp x c).take k)) = Y at WY
  obtain ⟨WW, WN, W0, WF, WE⟩ := WY
  have WW := Lib.hid WW
  have WN := Lib.hid WN
  have WE := Lib.hid WE
  have W0 := Lib.hid W0
  have DN := Lib.hid (Done_any h.so)
  have d1 : ((c : Int) == N) = false := by simp; omega
  rw [d1] at DN
  have IN := Lib.hid (fun W (hg : w.grownBy W none) => (show Calls Tryz.prog 145 #[.pointer (some ⟨I.S, 0, none⟩), .int .i64 c] W fun e w' => ∃ A d, e = .returned (.slice A n d) ∧ w'.ownsRow W.heap.size 3 1 (.slice A n d) n (li.ints (tc.inp x c)) ∧ W.grownBy w' none from by
    rw [← hn]
    exact tc.In_any (h.sr.new hg) (hT.kept hg (by simp)) h0 c))
  have HH := Lib.hid (fun W (hg : w.grownBy W none) => h.new hg)
  have CS := Lib.hid (fun W (hg : w.grownBy W none) => (h.new hg).so.cs)
  have PS := Lib.hid (fun W L1 x1 s1 f1 (h1 : Sp W I x1 L1 g r s1 t N c f1) (a : Nat) (ha : (a : Int) ∈ x1.tk) (hf : f1 < 1000000) => pass_any h1 ha hf)
  have TR := Lib.hid (fun W x1 (h1 : Sr W I x1) => Trim_tr h1 c)
  have LT := Lib.hid (⟨h.gy.lt, h.so.lt, h.sr.lt⟩ : _ ∧ _ ∧ _)
  have CN := Lib.hid hc
  have c64 : (c : Int) < 64 := by have := h.n1; omega
  have c0 : (0 : Int) ≤ c := by omega
  have HFL := Lib.hid hf
  obtain ⟨l, hl⟩ : ∃ l, tc.inp x c = l := ⟨_, rfl⟩
  dsimp only at WN
  rw [hl] at IN WN
  have n1 : n ≤ 2048 := WF
  clear h hT hn hc hf hl d1
  go_enter Tryz.func75, Tryz.ntmps75
  go_wp2_with (first
    | (go_at_call 131; (with_reducible refine (there_any _ _).mono ?_); rintro e w' ⟨rfl, rfl⟩)
    | (go_at_call 76; (with_reducible refine DN.out.mono ?_); rintro e w2 ⟨rfl, hg⟩; have G2 := Lib.hid hg; obtain ⟨d0, d1, d2, d3, d4, _⟩ := CS.out _ hg; clear hg))
  go_region_held3 (fun W => W.cell? ⟨t, 0, none⟩ = some (.pointer (some ⟨I.S, 0, none⟩)) ∧ W.cell? ⟨t, 3, none⟩ = some (.int .i64 c)) (first | exact ⟨d0, d3⟩ | exact ⟨k0, k3⟩ | go_keep) (first
    | (go_at_call 145; (with_reducible refine (IN.out _ (by first | exact G2.out | exact G2.out.trans (li.grown_drewN _ _ _) | exact G2.out.trans (gr.grown_drew _ _))).mono ?_); rintro e w3 ⟨A, d, rfl, ho, hg⟩; have O3 := Lib.hid ho; have G3 := Lib.hid (show w.grownBy w3 none from World.grownBy.trans (by first | exact G2.out | exact G2.out.trans (li.grown_drewN _ _ _) | exact G2.out.trans (gr.grown_drew _ _)) hg); obtain ⟨k0, k1, k2, k3, k4, _⟩ := CS.out _ G3.out; clear ho hg))
  all_goals
    have O3' := Lib.hid (bm.own_mono O3.out (show w.heap.size ≤ _ from (by first | exact G2.out.size | exact (G2.out.trans (gr.grown_drew _ _)).size)))
    clear d0 d1 d2 d3 d4 k0 k1 k2 k3 k4
    go_wp2
    go_loopw [5, 20] (fun _ i wr => ∃ (k : Nat) (L1 : List Nat), k ≤ n ∧ i = .int .i64 k ∧ (∀ q, q ∈ L1 → q ∈ L ∨ w.heap.size ≤ q) ∧ Sp wr I (Y k).x L1 g r (Y k).s t N c (Y k).f ∧ wr.ownsRow w.heap.size 3 1 (.slice A n d) n (li.ints l) ∧ Gr (sw.wr t L I) w wr) (fun _ i _ => n - (intOf i).toNat)
    case atStart => exact ⟨0, L, Nat.zero_le _, rfl, fun q hq => .inl hq, by rw [W0.out]; exact HH.out _ (by first | exact G3.out | exact G3.out.trans (li.grown_drewN _ _ _) | exact G3.out.trans (gr.grown_drew _ _)), by first | exact O3'.out | exact O3'.out.new (li.grown_drewN _ _ _), wr_n (by first | exact G3.out | exact G3.out.trans (li.grown_drewN _ _ _) | exact G3.out.trans (gr.grown_drew _ _))⟩
    case round =>
      obtain ⟨k, L1, hk, rfl, hL1, hS1, hO1, hg1⟩ := hrel
      have S1 := Lib.hid hS1
      have HL1 := Lib.hid hL1
      have O1 := Lib.hid hO1
      have G1 := Lib.hid hg1
      clear hL1 hS1 hO1 hg1
      by_cases hlt : k < n
      · obtain ⟨b1, o1, rfl, g1⟩ := (li.rd_own O1.out).at_ hlt
        obtain ⟨a, ha, a2, am, aN⟩ := WN.out k hlt
        rw [ha] at g1
        have YN := Lib.hid aN
        have WK := WW.out k (by omega)
        have YF : (Y k).f < 1000000 := by have h1 := WK.2.2.1; have h2 := HFL.out; have h3 : (Y k).f ≤ f + k := h1; omega
        have PA := Lib.hid (PS.out _ _ _ _ _ S1.out a am YF)
        have l1 : (0 : Int) ≤ (k : Int) := by omega
        have l2 : (k : Int) < n := by omega
        clear ha am aN WK YF
        go_wp2_with (go_at_call 146; (with_reducible refine PA.out.mono ?_); rintro e4 w4 ⟨rfl, L4, hl4, hs4, hg4⟩; have S4 := Lib.hid hs4; have W4 := Lib.hid (wr_then HL1.out G1.out hl4 hg4); have O4 := Lib.hid (row_wr O1.out S1.out LT.out.2.2 hg4); clear hl4 hs4 hg4)
        go_roundw
        case rel => exact ⟨k + 1, L4, by omega, by go_num, W4.out.1, by rw [YN.out]; exact S4.out, O4.out, W4.out.2⟩
        case measure => first | (simp [intOf]; done) | (simp [intOf]; omega)
      · obtain rfl : k = n := by omega
        obtain ⟨V1, _, F1, C1, _, _⟩ := WW.out k (Nat.le_refl _)
        have V1 := Lib.hid V1
        have C1 := Lib.hid C1
        have F1 := Lib.hid (show (Y k).f ≤ f + k from F1)
        have TS := Lib.hid (TR.out wr (Y k).x)
        obtain ⟨d0, d1, d2, d3, d4, fz⟩ := S1.out.so.cs
        clear fz
        go_wp2
        go_region_held3 (fun W => W.cell? ⟨t, 0, none⟩ = some (.pointer (some ⟨I.S, 0, none⟩)) ∧ W.cell? ⟨t, 3, none⟩ = some (.int .i64 c)) (first | exact ⟨d0, d3⟩ | exact ⟨k0, k3⟩ | go_keep) (first
          | (go_at_call 147; (with_reducible refine (TR.out _ _ (by first | exact S1.out.sr | exact S1.out.sr.new (li.grown_drewN _ _ _) | exact S1.out.sr.new (gr.grown_drew _ _))).mono ?_); rintro e5 w5 ⟨rfl, hs5, hg5⟩; have S5 := Lib.hid (Sp.store (w := _) (by first | exact S1.out | exact S1.out.new (li.grown_drewN _ _ _) | exact S1.out.new (gr.grown_drew _ _)) hs5 (iv_trimd V1.out c).1 (by rw [(iv_trimd V1.out c).2.2.2.1]; exact S1.out.s8) hg5); have G5 := Lib.hid (show Gr I.L wr w5 from (by first | exact hg5 | exact (Gr.new (li.grown_drewN _ _ _)).trans hg5 | exact (Gr.new (gr.grown_drew _ _)).trans hg5)); obtain ⟨k0, k1, k2, k3, k4, fz⟩ := S5.out.so.cs; have z3 := fz 3; clear fz hs5 hg5))
        all_goals
          go_wp2
          go_ret
          rw [WE.out, show (c : Int) + 1 = ((c + 1 : Nat) : Int) by omega]
          have A1 := wr_then HL1.out G1.out (L2 := L1) (fun q hq => .inl hq) (wr_I G5.out)
          first
            | exact ⟨rfl, L1, (wr_then A1.1 A1.2 (L2 := L1) (fun q hq => .inl hq) (wr_t (Gr.set (L := [t]) w5 t 3 (.int .i64 ((c + 1 : Nat) : Int)) (by simp)))).1, S5.out.box (c' := c + 1) (.set _ _ _ _ (by simp)) (set_so S5.out.so (c + 1)).1 CN.out S5.out.fN, (wr_then A1.1 A1.2 (L2 := L1) (fun q hq => .inl hq) (wr_t (Gr.set (L := [t]) w5 t 3 (.int .i64 ((c + 1 : Nat) : Int)) (by simp)))).2⟩
            | (have S6 := S5.out.new (gr.grown_drew _ _)
               have A2 := wr_then A1.1 A1.2 (L2 := L1) (fun q hq => .inl hq) (wr_n (gr.grown_drew w5 none))
               exact ⟨rfl, L1, (wr_then A2.1 A2.2 (L2 := L1) (fun q hq => .inl hq) (wr_t (Gr.set (L := [t]) w5.drew t 3 (.int .i64 ((c + 1 : Nat) : Int)) (by simp)))).1, S6.box (c' := c + 1) (.set _ _ _ _ (by simp)) (set_so S6.so (c + 1)).1 CN.out S6.fN, (wr_then A2.1 A2.2 (L2 := L1) (fun q hq => .inl hq) (wr_t (Gr.set (L := [t]) w5.drew t 3 (.int .i64 ((c + 1 : Nat) : Int)) (by simp)))).2⟩)
            | (have S6 := S5.out.new (li.grown_drewN _ _ _)
               have A2 := wr_then A1.1 A1.2 (L2 := L1) (fun q hq => .inl hq) (wr_n (li.grown_drewN w5 _ none))
               exact ⟨rfl, L1, (wr_then A2.1 A2.2 (L2 := L1) (fun q hq => .inl hq) (wr_t (Gr.set (L := [t]) _ t 3 (.int .i64 ((c + 1 : Nat) : Int)) (by simp)))).1, S6.box (c' := c + 1) (.set _ _ _ _ (by simp)) (set_so S6.so (c + 1)).1 CN.out S6.fN, (wr_then A2.1 A2.2 (L2 := L1) (fun q hq => .inl hq) (wr_t (Gr.set (L := [t]) _ t 3 (.int .i64 ((c + 1 : Nat) : Int)) (by simp)))).2⟩)
end
end Go.Proofs.YtkgdcgmbapchcaaGreatDoor.sw
