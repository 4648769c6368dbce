/- Texts that this claim stands on. -/
import Derived.Test.YtkgdcgmbapchcaaGreatDoorQCzG
import Derived.Test.YtkgdcgmbapchcaaGreatDoorQCfX
namespace Go.Proofs.YtkgdcgmbapchcaaGreatDoor.cy
open Go.ChangeShapes Go.WideShapes Go.ChangeAt Go.RowKit gen calls cls geos ce st sh
set_option linter.unusedVariables false
set_option maxHeartbeats 4000000
set_option maxRecDepth 100000
section
variable {w0 W w w1 w' : World} {k : Kn} {c : Cb} {L0 K0 L K M : List Nat} {σ τ : Cy} {y : Hs} {n : Nat} {a0 a1 a2 a3 a4 a5 a6 a7 a8 a9 : Int}
theorem tnew_any (pS qg : Option Addr) (a b : Int) {N c : Nat} (hN : bm.near a 1 64 = N) (hc : bm.near b 1 16 = c) (w : World) :
    Calls Tryz.prog 102 #[.pointer pS, .pointer qg, .int .i64 a, .int .i64 b] w fun e w' => e = .returned (.pointer (some ⟨w.heap.size, 0, none⟩)) ∧ w'.heap[w.heap.size]? = some (.cells #[.pointer pS, .pointer qg, .int .i64 N, .int .i64 c, .int .i64 0] 160 (0, 0)) ∧ w.grownBy w' none := by
  have C1 := Lib.hid (fun w => bm.Clamp_any a 1 64 w)
  have C2 := Lib.hid (fun w => bm.Clamp_any b 1 16 w)
  rw [hN] at C1
  rw [hc] at C2
  clear hN hc
  go_enter Tryz.func102, Tryz.ntmps102
  go_wp2_with (first
    | (go_at_call 104; (with_reducible refine (C1.out _).mono ?_); rintro e w' ⟨rfl, rfl⟩)
    | (go_at_call 104; (with_reducible refine (C2.out _).mono ?_); rintro e w' ⟨rfl, rfl⟩))
  go_ret
  exact ⟨rfl, heap_alloc_new _ _, World.grownBy_alloc _ _ _⟩
def x0 (N T : Nat) : Hs := ⟨List.replicate N 0, List.replicate (32 * N) 0, List.replicate 128 0, [], fun _ => [], [], 0, T⟩
theorem x0_iv {N T : Nat} (hN : N ≤ 64) : st.Iv (x0 N T) := ⟨Ok.new N hN, fun b hb => by simp [x0] at hb, fun o ho => by simp [x0] at ho, ⟨.nil, .nil, fun o ho => by cases ho⟩⟩
theorem x0_slo {k : Kn} (hk : Kok k) : ∃ y a, Slo (x0 k.N (k.n + 1)) k.n 4 y a := by
  have := hk.N
  have := hk.n
  rcases Slo_dec (x0_iv (N := k.N) (T := k.n + 1) (by omega)) (t := k.n) (n := 4) (by decide) ⟨by omega, by show (k.n : Int) < ((k.n + 1 : Nat) : Int); omega⟩ with h | h
  · exact h
  · rcases h with ⟨h, _⟩ | ⟨_, _, _, h⟩
    · omega
    · exfalso
      obtain ⟨m, e⟩ : ∃ m, k.N = m + 1 := ⟨k.N - 1, by omega⟩
      unfold x0 at h
      dsimp only at h
      rw [e] at h
      rw [List.replicate_succ, pg.find, if_pos (by unfold pg.lead; rw [if_pos rfl]; omega)] at h
      cases h
theorem bnear {n : Nat} {a b : Int} (h : a ≤ n ∧ (n : Int) ≤ b) : bm.near n a b = n := by unfold bm.near; rw [if_neg (by omega), if_neg (by omega)]
theorem pnear {n : Nat} {a b : Int} (h : a ≤ n ∧ (n : Int) ≤ b) : pg.near n a b = n := by unfold pg.near; rw [if_neg (by omega), if_neg (by omega)]
theorem snear {n : Nat} {a b : Int} (h : a ≤ n ∧ (n : Int) ≤ b) : sk.near n a b = n := by unfold sk.near; rw [if_neg (by omega), if_neg (by omega)]
theorem sz1 (w : World) (o : Obj) : (w.alloc o).heap.size = w.heap.size + 1 := Array.size_push _
theorem szc (W : World) (a : Addr) (v : Value) : (W.setCell a v).heap.size = W.heap.size := by simp
theorem sza (w : World) (o : Obj) : w.heap.size ≤ (w.alloc o).heap.size := by rw [sz1]; omega
theorem szd (w : World) (o o2 : Obj) : ((w.alloc o).alloc o2).drew.heap.size = w.heap.size + 1 + 1 := (sz1 (w.alloc o) o2).trans (congrArg (· + 1) (sz1 w o))
def hz0 : Array Value := #[.pointer none, .pointer none, .pointer none, .pointer none, .int .i64 0]
theorem zb2 {X W : World} {h : Nat} (hX : X.heap.size = h) (hg : (X.alloc (.cells #[.pointer none, .pointer none, .pointer none, .pointer none, .int .i64 0] 57)).grownBy W none) : W.heap[h]? = some (.cells hz0 57 (0, 0)) := by
  subst hX
  have e : (X.alloc (.cells hz0 57)).heap[X.heap.size]? = some (.cells hz0 57 (0, 0)) := heap_alloc_new _ _
  exact (Gr.new (L := []) hg).heap e (by simp)
theorem hz_at {W : World} {h : Nat} {p0 p1 p2 p3 p4 : Value} {T : TypeId} (e : W.heap[h]? = some (.cells #[p0, p1, p2, p3, p4] T (0, 0))) : W.cell? ⟨h, 0, none⟩ = some p0 ∧ W.cell? ⟨h, 1, none⟩ = some p1 ∧ W.cell? ⟨h, 2, none⟩ = some p2 ∧ W.cell? ⟨h, 3, none⟩ = some p3 ∧ W.cell? ⟨h, 4, none⟩ = some p4 ∧ W.frozen? ⟨h, 0, none⟩ = false ∧ W.frozen? ⟨h, 1, none⟩ = false ∧ W.frozen? ⟨h, 2, none⟩ = false ∧ W.frozen? ⟨h, 3, none⟩ = false ∧ W.frozen? ⟨h, 4, none⟩ = false := by
  have k := fun i => cell_of_row W h i _ _ _ e
  have f := fun i => frozen_of_row W h i _ _ e
  exact ⟨by rw [k]; rfl, by rw [k]; rfl, by rw [k]; rfl, by rw [k]; rfl, by rw [k]; rfl, f 0, f 1, f 2, f 3, f 4⟩
abbrev s5 (W : World) (h : Nat) (p0 p1 p2 p3 p4 : Value) : World := ((((W.setCell ⟨h, 0, none⟩ p0).setCell ⟨h, 1, none⟩ p1).setCell ⟨h, 2, none⟩ p2).setCell ⟨h, 3, none⟩ p3).setCell ⟨h, 4, none⟩ p4
theorem gr5 (W : World) (h : Nat) (p0 p1 p2 p3 p4 : Value) : Gr [h] W (s5 W h p0 p1 p2 p3 p4) := ((((Gr.set _ _ _ _ (by simp)).trans (Gr.set _ _ _ _ (by simp))).trans (Gr.set _ _ _ _ (by simp))).trans (Gr.set _ _ _ _ (by simp))).trans (Gr.set _ _ _ _ (by simp))
theorem hz5 {W : World} {h : Nat} {cs : Array Value} {T : TypeId} (e : W.heap[h]? = some (.cells cs T (0, 0))) (p0 p1 p2 p3 p4 : Value) : (s5 W h p0 p1 p2 p3 p4).heap[h]? = some (.cells (((((cs.setIfInBounds 0 p0).setIfInBounds 1 p1).setIfInBounds 2 p2).setIfInBounds 3 p3).setIfInBounds 4 p4) T (0, 0)) :=
  heap_setCell_same _ _ _ _ _ _ (heap_setCell_same _ _ _ _ _ _ (heap_setCell_same _ _ _ _ _ _ (heap_setCell_same _ _ _ _ _ _ (heap_setCell_same _ _ _ _ _ _ e))))
theorem kpt {W : World} {B h : Nat} {v0 v1 v8 p0 p1 p2 p3 p4 : Value} (hne : h ≠ B) (H : W.cell? ⟨B, 0, none⟩ = some v0 ∧ W.cell? ⟨B, 1, none⟩ = some v1 ∧ W.cell? ⟨B, 8, none⟩ = some v8) : (s5 W h p0 p1 p2 p3 p4).cell? ⟨B, 0, none⟩ = some v0 ∧ (s5 W h p0 p1 p2 p3 p4).cell? ⟨B, 1, none⟩ = some v1 ∧ (s5 W h p0 p1 p2 p3 p4).cell? ⟨B, 8, none⟩ = some v8 := by
  have g := gr5 W h p0 p1 p2 p3 p4
  have n : B ∉ [h] := by simp; omega
  exact ⟨g.cell H.1 n, g.cell H.2.1 n, g.cell H.2.2 n⟩
theorem hc_at10 {W : World} {B : Nat} {a0 a1 a2 a3 a4 a5 a6 a7 a8 a9 : Value} {T : TypeId} (e : W.heap[B]? = some (.cells #[a0, a1, a2, a3, a4, a5, a6, a7, a8, a9] T (0, 0))) : W.cell? ⟨B, 0, none⟩ = some a0 ∧ W.cell? ⟨B, 1, none⟩ = some a1 ∧ W.cell? ⟨B, 7, none⟩ = some a7 ∧ W.cell? ⟨B, 8, none⟩ = some a8 := by
  have k := fun i => cell_of_row W B i _ _ _ e
  exact ⟨by rw [k]; rfl, by rw [k]; rfl, by rw [k]; rfl, by rw [k]; rfl⟩
theorem off_alh {w : World} {I : Ids} {x : Hs} {B : Nat} (H : Sr w I x) {cs : Array Value} {t : TypeId} {z : Nat × Nat} (b : w.heap[B]? = some (.cells cs t z))
    (ht : t = 57 ∨ t = 23) : B ∉ I.all := by
  obtain ⟨ws, H0, _⟩ := H.hp
  obtain ⟨D, C⟩ := H.at_
  obtain ⟨zs, t1, t2, _⟩ := H0.tab
  obtain ⟨m1, m2, _⟩ := H0.mem
  obtain ⟨s1, _⟩ := H0.set
  obtain ⟨es, clock, hb, _⟩ := C.own
  have nm : ∀ x t f, Obj.map es clock ≠ .cells x t f := fun _ _ _ e => by cases e
  have a1 : B ≠ I.S := ce.ty_ne b H.box (by rcases ht with rfl | rfl <;> decide)
  have a2 : B ≠ I.c := ce.ty_ne b H0.cel (by rcases ht with rfl | rfl <;> decide)
  have a3 : B ≠ I.h := ce.ty_ne b H0.hea (by rcases ht with rfl | rfl <;> decide)
  have a4 : B ≠ I.g := ce.ty_ne b t1 (by rcases ht with rfl | rfl <;> decide)
  have a5 : B ≠ I.r := ce.ty_ne b t2 (by rcases ht with rfl | rfl <;> decide)
  have a6 : B ≠ I.m := ce.ty_ne b m1 (by rcases ht with rfl | rfl <;> decide)
  have a7 : B ≠ I.q := ce.ty_ne b m2 (by rcases ht with rfl | rfl <;> decide)
  have a8 : B ≠ I.s := ce.ty_ne b s1 (by rcases ht with rfl | rfl <;> decide)
  have a9 : B ≠ I.C := ce.ty_ne b C.box (by rcases ht with rfl | rfl <;> decide)
  have a10 : B ≠ I.mb := map_ne b hb nm
  simp only [Ids.all, List.mem_cons, List.not_mem_nil, or_false]
  omega
structure Hm (w : World) (k : Kn) (cs : Array Value) (I : Ids) (g h : Nat) (L : List Nat) (x : Hs) (p2 p3 : Value) (W : World) : Prop where
  hR : h ≠ w.heap.size + 1
  hB : w.heap.size < h
  bB : W.heap[w.heap.size]? = some (.cells cs 23 (0, 0))
  bR : W.heap[w.heap.size + 1]? = some (.cells hz0 57 (0, 0))
  bh : W.heap[h]? = some (.cells #[.pointer (some ⟨I.S, 0, none⟩), .pointer (some ⟨g, 0, none⟩), p2, p3, .int .i64 0] 57 (0, 0))
  sr : Sr W I x
  gy : Gy W L g k.r none0
  ap : ∀ q, q ∈ L → q ∉ I.all
  fI : ∀ q, q ∈ I.all → w.heap.size ≤ q
  fL : ∀ q, q ∈ L → w.heap.size ≤ q
  gr : w.grownBy W none
section
variable {cs : Array Value} {I : Ids} {g h : Nat}
theorem Hm.pre {w2 : World} (A1 : ((w.alloc (.cells cs 23)).alloc (.cells hz0 57)).grownBy w1 none) (A2 : w1.grownBy w2 none) : w2.heap[w.heap.size]? = some (.cells cs 23 (0, 0)) ∧ w2.heap[w.heap.size + 1]? = some (.cells hz0 57 (0, 0)) ∧ w.grownBy w2 none := by
  have g2 := A1.trans A2
  have e1 : ((w.alloc (.cells cs 23)).alloc (.cells hz0 57)).heap[w.heap.size]? = some (.cells cs 23 (0, 0)) := (Gr.new (L := []) (World.grownBy_alloc _ _ none)).heap (heap_alloc_new _ _) (by simp)
  have e2 : ((w.alloc (.cells cs 23)).alloc (.cells hz0 57)).heap[w.heap.size + 1]? = some (.cells hz0 57 (0, 0)) := by
    have := heap_alloc_new (w.alloc (.cells cs 23)) (.cells hz0 57)
    rwa [sz1] at this
  exact ⟨(Gr.new (L := []) g2).heap e1 (by simp), (Gr.new (L := []) g2).heap e2 (by simp), ((World.grownBy_alloc _ _ none).trans (World.grownBy_alloc _ _ none)).trans g2⟩
theorem Hm.last {w2 : World} (A1 : ((w.alloc (.cells cs 23)).alloc (.cells hz0 57)).grownBy w1 none) (A2 : w1.grownBy w2 none) (S1 : Sr w1 I (x0 k.N (k.n + 1)) ∧ ∀ q, q ∈ I.all → w.heap.size ≤ q) (Y2 : Gy w2 L g k.r none0 ∧ ∀ q, q ∈ L → w1.heap.size ≤ q) : Hm w k cs I g w2.heap.size L (x0 k.N (k.n + 1)) (.pointer none) (.pointer none) (w2.alloc (.cells #[.pointer (some ⟨I.S, 0, none⟩), .pointer (some ⟨g, 0, none⟩), .pointer none, .pointer none, .int .i64 0] 57)) := by
  obtain ⟨e1, e2, e3⟩ := Hm.pre A1 A2
  have h1 := (Array.getElem?_eq_some_iff.1 e1).1
  have h2 := (Array.getElem?_eq_some_iff.1 e2).1
  have ga := World.grownBy_alloc w2 (.cells #[.pointer (some ⟨I.S, 0, none⟩), .pointer (some ⟨g, 0, none⟩), .pointer none, .pointer none, .int .i64 0] 57) none
  have lt1 := A1.size
  rw [sz1, sz1] at lt1
  exact ⟨by omega, by omega, (Gr.new (L := []) ga).heap e1 (by simp), (Gr.new (L := []) ga).heap e2 (by simp), heap_alloc_new _ _, (S1.1.new A2).new ga, Y2.1.new ga, fun q hq hm => by
    have := Y2.2 q hq
    have := S1.1.lt q hm
    omega, S1.2, fun q hq => by have := Y2.2 q hq; omega, e3.trans ga⟩
theorem Hm.early {w2 : World} (A1 : ((w.alloc (.cells cs 23)).alloc (.cells hz0 57)).grownBy w1 none) (A2 : w1.grownBy w2 none) (S1 : Sr w1 I (x0 k.N (k.n + 1)) ∧ ∀ q, q ∈ I.all → w.heap.size ≤ q) (Y2 : Gy w2 L g k.r none0 ∧ ∀ q, q ∈ L → w1.heap.size ≤ q) (hb : w2.heap[h]? = some (.cells hz0 57 (0, 0))) (hh : w.heap.size + 1 < h) : Hm w k cs I g h L (x0 k.N (k.n + 1)) (.pointer none) (.pointer none) (s5 w2 h (.pointer (some ⟨I.S, 0, none⟩)) (.pointer (some ⟨g, 0, none⟩)) (.pointer none) (.pointer none) (.int .i64 0)) := by
  obtain ⟨e1, e2, e3⟩ := Hm.pre A1 A2
  have G := gr5 w2 h (.pointer (some ⟨I.S, 0, none⟩)) (.pointer (some ⟨g, 0, none⟩)) (.pointer none) (.pointer none) (.int .i64 0)
  have n1 : ∀ {q}, q ≠ h → q ∉ [h] := fun e => by simpa using e
  have lt1 := A1.size
  rw [sz1, sz1] at lt1
  have S2 := S1.1.new A2
  have hI : h ∉ I.all := off_alh S2 hb (by simp)
  have hL : h ∉ L := Y2.1.off hb (by decide) (by decide) (by decide) (by decide)
  refine ⟨by omega, by omega, G.heap e1 (n1 (by omega)), G.heap e2 (n1 (by omega)), hz5 hb _ _ _ _ _, S2.gr G (fun q hq => by simp at hq; subst hq; exact hI), Y2.1.gr G (fun q hq => n1 (fun e => hL (e ▸ hq))), fun q hq hm => by
    have := Y2.2 q hq
    have := S1.1.lt q hm
    omega, S1.2, fun q hq => by have := Y2.2 q hq; omega, ?_⟩
  exact li.grown_new e3 (((((ro.grown_set _ _ _ _).trans (ro.grown_set _ _ _ _)).trans (ro.grown_set _ _ _ _)).trans (ro.grown_set _ _ _ _)).trans (ro.grown_set _ _ _ _)) (by omega)
variable {x : Hs} {p2 p3 : Value}
theorem Hm.hI (H : Hm w k cs I g h L x p2 p3 W) : h ∉ I.all ∧ h ∉ L ∧ w.heap.size ∉ I.all ∧ w.heap.size + 1 ∉ I.all :=
  ⟨off_alh H.sr H.bh (by simp), H.gy.off H.bh (by decide) (by decide) (by decide) (by decide), off_alh H.sr H.bB (by simp), off_alh H.sr H.bR (by simp)⟩
theorem grz {W' : World} {M : List Nat} (h : w.grownBy W none) (G : Gr M W W') (hM : ∀ q, q ∈ M → w.heap.size ≤ q) : w.grownBy W' none :=
  ⟨G.os.trans h.os, G.tape.trans h.tape, G.output.trans h.output, Nat.le_trans h.size G.size, fun i hi hn => (G.block i (Nat.lt_of_lt_of_le hi h.size) (fun hm => by have := hM i hm; omega)).trans (h.block i hi hn)⟩
theorem Hm.gr' (H : Hm w k cs I g h L x p2 p3 W) {W' : World} {M : List Nat} {y : Hs} {q2 q3 : Value} (G : Gr M W W') (hM : ∀ q, q ∈ M → w.heap.size ≤ q) (hB : w.heap.size ∉ M) (hR : w.heap.size + 1 ∉ M) (hL : ∀ q, q ∈ L → q ∉ M) (hs : Sr W' I y) (hh : W'.heap[h]? = some (.cells #[.pointer (some ⟨I.S, 0, none⟩), .pointer (some ⟨g, 0, none⟩), q2, q3, .int .i64 0] 57 (0, 0))) : Hm w k cs I g h L y q2 q3 W' :=
  ⟨H.hR, H.hB, G.heap H.bB hB, G.heap H.bR hR, hh, hs, H.gy.gr G hL, H.ap, H.fI, H.fL, grz H.gr G hM⟩
theorem Hm.new (H : Hm w k cs I g h L x p2 p3 W) {W' : World} (hg : W.grownBy W' none) : Hm w k cs I g h L x p2 p3 W' :=
  H.gr' (Gr.new (L := []) hg) (by simp) (by simp) (by simp) (by simp) (H.sr.new hg) ((Gr.new (L := []) hg).heap H.bh (by simp))
theorem Hm.set (H : Hm w k cs I g h L x p2 p3 W) (v : Value) : Hm w k cs I g h L x v p3 (W.setCell ⟨h, 2, none⟩ v) ∧ Hm w k cs I g h L x p2 v (W.setCell ⟨h, 3, none⟩ v) := by
  obtain ⟨h1, h2, h3, h4⟩ := H.hI
  have hB := H.hB
  have hR := H.hR
  have G : ∀ j, Gr [h] W (W.setCell ⟨h, j, none⟩ v) := fun j => Gr.set (L := [h]) _ _ _ _ (by simp)
  have one : ∀ {q}, q ∉ I.all → q ∈ I.all → False := fun a b => a b
  have ht : ∀ j, Sr (W.setCell ⟨h, j, none⟩ v) I x := fun j => H.sr.gr (G j) (fun q hq => by simp at hq; subst hq; exact h1)
  have hl : ∀ q, q ∈ L → q ∉ [h] := fun q hq e => by simp at e; exact h2 (e ▸ hq)
  refine ⟨H.gr' (G 2) (by simp; omega) (by simp; omega) (by simp; omega) hl (ht 2) ?_, H.gr' (G 3) (by simp; omega) (by simp; omega) (by simp; omega) hl (ht 3) ?_⟩
  · rw [heap_setCell_same W h 2 _ _ v H.bh]; rfl
  · rw [heap_setCell_same W h 3 _ _ v H.bh]; rfl
theorem Hm.slow (H : Hm w k cs I g h L x p2 p3 W) {W' : World} {y : Hs} (hs : Sr W' I y) (G : Gr I.L W W') : Hm w k cs I g h L y p2 p3 W' := by
  obtain ⟨h1, h2, h3, h4⟩ := H.hI
  have n : ∀ {q}, q ∉ I.all → q ∉ I.L := fun e hm => e (sw.IL_all hm)
  exact H.gr' G (fun q hq => H.fI q (sw.IL_all hq)) (n h3) (n h4) (fun q hq => n (H.ap q hq)) hs (G.heap H.bh (n h1))
theorem Hm.at (H : Hm w k cs I g h L x p2 p3 W) {a0 a1 a2 a3 a4 a5 a6 a7 a8 a9 : Value} (hc : cs = #[a0, a1, a2, a3, a4, a5, a6, a7, a8, a9]) :
    (W.cell? ⟨w.heap.size, 0, none⟩ = some a0 ∧ W.cell? ⟨w.heap.size, 1, none⟩ = some a1 ∧ W.cell? ⟨w.heap.size, 7, none⟩ = some a7 ∧ W.cell? ⟨w.heap.size, 8, none⟩ = some a8) ∧
    (W.cell? ⟨h, 0, none⟩ = some (.pointer (some ⟨I.S, 0, none⟩)) ∧ W.cell? ⟨h, 1, none⟩ = some (.pointer (some ⟨g, 0, none⟩)) ∧ W.cell? ⟨h, 2, none⟩ = some p2 ∧ W.cell? ⟨h, 3, none⟩ = some p3 ∧ W.cell? ⟨h, 4, none⟩ = some (.int .i64 0) ∧ W.frozen? ⟨h, 0, none⟩ = false ∧ W.frozen? ⟨h, 1, none⟩ = false ∧ W.frozen? ⟨h, 2, none⟩ = false ∧ W.frozen? ⟨h, 3, none⟩ = false ∧ W.frozen? ⟨h, 4, none⟩ = false) ∧
    (W.cell? ⟨w.heap.size + 1, 0, none⟩ = some (.pointer none) ∧ W.cell? ⟨w.heap.size + 1, 1, none⟩ = some (.pointer none) ∧ W.cell? ⟨w.heap.size + 1, 2, none⟩ = some (.pointer none) ∧ W.cell? ⟨w.heap.size + 1, 3, none⟩ = some (.pointer none) ∧ W.cell? ⟨w.heap.size + 1, 4, none⟩ = some (.int .i64 0) ∧ W.frozen? ⟨w.heap.size + 1, 0, none⟩ = false ∧ W.frozen? ⟨w.heap.size + 1, 1, none⟩ = false ∧ W.frozen? ⟨w.heap.size + 1, 2, none⟩ = false ∧ W.frozen? ⟨w.heap.size + 1, 3, none⟩ = false ∧ W.frozen? ⟨w.heap.size + 1, 4, none⟩ = false) := by
  subst hc
  exact ⟨hc_at10 H.bB, hz_at H.bh, hz_at H.bR⟩
theorem Hm.keep (H : Hm w k cs I g h L x p2 p3 W) {b : Nat} {ds : Array Value} {T : TypeId} {z : Nat × Nat} (hb : W.heap[b]? = some (.cells ds T z)) (hT : T = 153 ∨ T = 160) : (∀ j v, (W.setCell ⟨h, j, none⟩ v).heap[b]? = some (.cells ds T z)) ∧ (∀ W', Gr I.L W W' → W'.heap[b]? = some (.cells ds T z)) := by
  refine ⟨fun j v => (Gr.set (L := [h]) W h j v (by simp)).heap hb (by
    have := ce.ty_ne hb H.bh (by rcases hT with rfl | rfl <;> decide)
    simpa using this), fun W' G => G.heap hb (fun hm => off_all H.sr hb (by rcases hT with rfl | rfl <;> simp) (sw.IL_all hm))⟩
theorem Hm.fin (H : Hm w k cs I g h L x p2 p3 W) {t v : Nat} (hT : tc.Tc W t I.S g k.N k.c 0) (hS : sw.So W v I.S g k.N k.N 0) (hv : st.Iv x ∧ x.cnt < 1099511627776 ∧ (1 ≤ k.N ∧ k.N ≤ 64) ∧ (1 ≤ k.c ∧ k.c ≤ 16)) (v4 a b c d e : Value) : tc.Tw (s5 (W.setCell ⟨h, 4, none⟩ v4) (w.heap.size + 1) a b c d e) I x L g k.r none0 t k.N k.c 0 ∧ sw.So (s5 (W.setCell ⟨h, 4, none⟩ v4) (w.heap.size + 1) a b c d e) v I.S g k.N k.N 0 ∧ w.grownBy (s5 (W.setCell ⟨h, 4, none⟩ v4) (w.heap.size + 1) a b c d e) none := by
  obtain ⟨h1, h2, h3, h4⟩ := H.hI
  have hB := H.hB
  have G : Gr [h, w.heap.size + 1] W (s5 (W.setCell ⟨h, 4, none⟩ v4) (w.heap.size + 1) a b c d e) := (Gr.set _ _ _ _ (by simp)).trans ((gr5 _ _ _ _ _ _ _).mono (by simp))
  have nt : ∀ {q : Nat}, q ≠ h → q ≠ w.heap.size + 1 → q ∉ [h, w.heap.size + 1] := fun a b => by simp [a, b]
  have tt := (ce.ty_ne hT H.bh (by decide))
  have t2 := (ce.ty_ne hT H.bR (by decide))
  have vv := (ce.ty_ne hS H.bh (by decide))
  have v2 := (ce.ty_ne hS H.bR (by decide))
  have hl : w.heap.size + 1 ∉ L := H.gy.off H.bR (by decide) (by decide) (by decide) (by decide)
  refine ⟨⟨H.sr.gr G (fun q hq => by
    rcases List.mem_cons.1 hq with e | e
    · rw [e]; exact h1
    · rw [List.mem_singleton.1 e]; exact h4), hv.1, H.gy.gr G (fun q hq => nt (fun e => h2 (e ▸ hq)) (fun e => hl (e ▸ hq))), hT.gr G (nt tt t2), H.ap, hv.2.1, hv.2.2.1, hv.2.2.2, Nat.zero_le _⟩, hS.gr G (nt vv v2), grz H.gr G (fun q hq => by simp at hq; omega)⟩
end
theorem newHeap_any (hk : Kok k) (e0 : a0 = k.N) (e1 : a1 = k.n) (e7 : a7 = k.c) (e8 : a8 = k.r) (S : Slo (x0 k.N (k.n + 1)) k.n 4 y k.gl) (w : World) : Calls Tryz.prog 46 #[.agg #[.int .i64 a0, .int .i64 a1, .int .i64 a2, .int .i64 a3, .int .i64 a4, .int .i64 a5, .int .i64 a6, .int .i64 a7, .int .i64 a8, .int .i64 a9]] w fun e w' => ∃ (I : Ids) (g t v : Nat) (L : List Nat), e = .returned (.agg #[.pointer (some ⟨I.S, 0, none⟩), .pointer (some ⟨g, 0, none⟩), .pointer (some ⟨t, 0, none⟩), .pointer (some ⟨v, 0, none⟩), .int .i64 k.gl]) ∧ tc.Tw w' I y L g k.r none0 t k.N k.c 0 ∧ sw.So w' v I.S g k.N k.N 0 ∧ w.grownBy w' none ∧ (∀ q, q ∈ I.all → w.heap.size ≤ q) ∧ (∀ q, q ∈ L → w.heap.size ≤ q) ∧ w.heap.size ≤ t ∧ w.heap.size ≤ v := by
  have hN := hk.N
  have hn := hk.n
  have hc := hk.c
  have hr := hk.r
  subst e0 e1 e7 e8
  have NS := Lib.hid (fun w => st.New_any (k.N : Int) ((k.n : Int) + 1) k.N (k.n + 1) (pnear (by omega)) (bnear (n := k.n + 1) (by omega)) w)
  have NH := Lib.hid (fun w => sh.New_any (k.r : Int) k.r (snear (by omega)) hr.1 hr.2 w)
  have NT := Lib.hid (fun pS qg w => tnew_any pS qg (k.N : Int) (k.c : Int) (N := k.N) (c := k.c) (bnear (by omega)) (bnear (by omega)) w)
  have NW := Lib.hid (fun pS qg w => sw.New_any pS qg (k.N : Int) (N := k.N) (bnear (by omega)) w)
  have V0 := x0_iv (N := k.N) (T := k.n + 1) (by omega)
  have SI := Slo_iv V0 (by show 0 < 1099511627776; decide) ⟨by omega, by show (k.n : Int) < ((k.n + 1 : Nat) : Int); omega⟩ S
  have SL := Lib.hid (fun W I (hs : Sr W I (x0 k.N (k.n + 1))) => show Calls Tryz.prog 82 #[.pointer (some ⟨I.S, 0, none⟩), .int .i64 (k.n : Int), .int .i64 4] W (Done I (.tuple #[.int .i64 k.gl, .int .i64 0]) y W) from Slo_prog (n := 4) hs V0 (by show 0 < 1099511627776; decide) ⟨by omega, by show (k.n : Int) < ((k.n + 1 : Nat) : Int); omega⟩ S)
  have TWE := Lib.hid (show st.Iv y ∧ y.cnt < 1099511627776 ∧ (1 ≤ k.N ∧ k.N ≤ 64) ∧ (1 ≤ k.c ∧ k.c ≤ 16) from ⟨SI.1, by rw [SI.2.2.1.cnt]; show 0 + 1 < 1099511627776; decide, ⟨by omega, by omega⟩, hc⟩)
  obtain ⟨c0, c1, c2, c3, c4, c5, c6, c7, c8, c9⟩ := cf.Ten.new w 23 (k.N : Int) (k.n : Int) a2 a3 a4 a5 a6 (k.c : Int) (k.r : Int) a9
  have K3 := Lib.hid (fun W (hg : ((w.alloc (.cells #[.int .i64 (k.N : Int), .int .i64 (k.n : Int), .int .i64 a2, .int .i64 a3, .int .i64 a4, .int .i64 a5, .int .i64 a6, .int .i64 (k.c : Int), .int .i64 (k.r : Int), .int .i64 a9] 23)).alloc (.cells #[.pointer none, .pointer none, .pointer none, .pointer none, .int .i64 0] 57)).grownBy W none) => show W.cell? ⟨w.heap.size, 0, none⟩ = some (.int .i64 (k.N : Int)) ∧ W.cell? ⟨w.heap.size, 1, none⟩ = some (.int .i64 (k.n : Int)) ∧ W.cell? ⟨w.heap.size, 8, none⟩ = some (.int .i64 (k.r : Int)) from by
    have hg := (World.grownBy_alloc _ _ _).trans hg
    exact ⟨hg.cell c0 (fun h => by cases h), hg.cell c1 (fun h => by cases h), hg.cell c8 (fun h => by cases h)⟩)
  have wr1 : IntKind.i64.wrap ((k.n : Int) + 1) = (k.n : Int) + 1 := IntWalk.i64_in _ (by omega)
  have NE0 := Lib.hid (show w.heap.size + 1 + 1 ≠ w.heap.size by omega)
  have A0 := Lib.hid (World.grownBy.refl ((w.alloc (.cells #[.int .i64 (k.N : Int), .int .i64 (k.n : Int), .int .i64 a2, .int .i64 a3, .int .i64 a4, .int .i64 a5, .int .i64 a6, .int .i64 (k.c : Int), .int .i64 (k.r : Int), .int .i64 a9] 23)).alloc (.cells #[.pointer none, .pointer none, .pointer none, .pointer none, .int .i64 0] 57)) none)
  clear hN hn hc hr hk S V0 SI
  go_enter Tryz.func46, Tryz.ntmps46
  go_upto_region 1 with fail
  go_cut [3] from 4 (fun v wc => ∃ (I : Ids) (g h : Nat) (L : List Nat), v = .pointer (some ⟨h, 0, none⟩) ∧ Hm w k #[.int .i64 (k.N : Int), .int .i64 (k.n : Int), .int .i64 a2, .int .i64 a3, .int .i64 a4, .int .i64 a5, .int .i64 a6, .int .i64 (k.c : Int), .int .i64 (k.r : Int), .int .i64 a9] I g h L (x0 k.N (k.n + 1)) (.pointer none) (.pointer none) wc)
  case first =>
    go_region_held3 (fun W => W.cell? ⟨w.heap.size, 0, none⟩ = some (.int .i64 (k.N : Int)) ∧ W.cell? ⟨w.heap.size, 1, none⟩ = some (.int .i64 (k.n : Int)) ∧ W.cell? ⟨w.heap.size, 8, none⟩ = some (.int .i64 (k.r : Int))) (first | with_reducible exact ⟨c0, c1, c8⟩ | with_reducible exact H1.out | with_reducible exact H2.out | with_reducible exact K3.out _ (World.grownBy.trans A2.out (World.grownBy_alloc _ _ _)) | with_reducible exact kpt NE1.out H2.out | with_reducible exact kpt NE0.out H2.out | go_keep) (first
      | (go_at_call 100; (with_reducible refine (NS.out _).mono ?_); rintro e w1 ⟨I, rfl, hs, hl, hg⟩; have A1 := Lib.hid (show ((w.alloc (.cells #[.int .i64 (k.N : Int), .int .i64 (k.n : Int), .int .i64 a2, .int .i64 a3, .int .i64 a4, .int .i64 a5, .int .i64 a6, .int .i64 (k.c : Int), .int .i64 (k.r : Int), .int .i64 a9] 23)).alloc (.cells #[.pointer none, .pointer none, .pointer none, .pointer none, .int .i64 0] 57)).grownBy w1 none from World.grownBy.trans (by first | exact A0.out | exact World.grownBy.trans A0.out (li.grown_drewN _ _ _) | exact World.grownBy.trans A0.out (gr.grown_drew _ _) | exact World.grownBy.trans A0.out ((gr.grown_drew _ _).trans (World.grownBy_alloc _ _ _)) | exact World.grownBy.trans A0.out (World.grownBy_alloc _ _ _) | exact World.grownBy.trans A0.out ((World.grownBy_alloc _ _ _).trans (gr.grown_drew _ _)) | exact World.grownBy.trans A0.out (((World.grownBy_alloc _ _ _).trans (gr.grown_drew _ _)).trans (World.grownBy_alloc _ _ _))) hg); (first | (have Q1 := Lib.hid (zb2 (h := w.heap.size + 1 + 1) (szd _ _ _) hg)) | skip); have S1 := Lib.hid (show Sr w1 I (x0 k.N (k.n + 1)) ∧ ∀ q, q ∈ I.all → w.heap.size ≤ q from ⟨hs, fun q hq => Nat.le_trans (Nat.le_trans (by rw [sz1, sz1]; omega) (show ((w.alloc (.cells #[.int .i64 (k.N : Int), .int .i64 (k.n : Int), .int .i64 a2, .int .i64 a3, .int .i64 a4, .int .i64 a5, .int .i64 a6, .int .i64 (k.c : Int), .int .i64 (k.r : Int), .int .i64 a9] 23)).alloc (.cells #[.pointer none, .pointer none, .pointer none, .pointer none, .int .i64 0] 57)).heap.size ≤ _ from (World.grownBy.size (by first | exact A0.out | exact World.grownBy.trans A0.out (li.grown_drewN _ _ _) | exact World.grownBy.trans A0.out (gr.grown_drew _ _) | exact World.grownBy.trans A0.out ((gr.grown_drew _ _).trans (World.grownBy_alloc _ _ _)) | exact World.grownBy.trans A0.out (World.grownBy_alloc _ _ _) | exact World.grownBy.trans A0.out ((World.grownBy_alloc _ _ _).trans (gr.grown_drew _ _)) | exact World.grownBy.trans A0.out (((World.grownBy_alloc _ _ _).trans (gr.grown_drew _ _)).trans (World.grownBy_alloc _ _ _)))))) (hl q hq)⟩); have NE1 := Lib.hid (show w1.heap.size ≠ w.heap.size by have := A1.out.size; rw [sz1, sz1] at this; omega); have H1 := Lib.hid (K3.out _ A1.out); clear hs hl hg)
      | (go_at_call 101; (with_reducible refine (NH.out _).mono ?_); rintro e w2 ⟨g, L, rfl, hs, hl, hg⟩; have A2 := Lib.hid (show ((w.alloc (.cells #[.int .i64 (k.N : Int), .int .i64 (k.n : Int), .int .i64 a2, .int .i64 a3, .int .i64 a4, .int .i64 a5, .int .i64 a6, .int .i64 (k.c : Int), .int .i64 (k.r : Int), .int .i64 a9] 23)).alloc (.cells #[.pointer none, .pointer none, .pointer none, .pointer none, .int .i64 0] 57)).grownBy w2 none from World.grownBy.trans (by first | exact A1.out | exact World.grownBy.trans A1.out (li.grown_drewN _ _ _) | exact World.grownBy.trans A1.out (gr.grown_drew _ _) | exact World.grownBy.trans A1.out ((gr.grown_drew _ _).trans (World.grownBy_alloc _ _ _)) | exact World.grownBy.trans A1.out (World.grownBy_alloc _ _ _) | exact World.grownBy.trans A1.out ((World.grownBy_alloc _ _ _).trans (gr.grown_drew _ _)) | exact World.grownBy.trans A1.out (((World.grownBy_alloc _ _ _).trans (gr.grown_drew _ _)).trans (World.grownBy_alloc _ _ _))) hg); have B2 := Lib.hid (show w1.grownBy w2 none from (by first | exact hg | exact World.grownBy.trans (gr.grown_drew _ _) hg | exact World.grownBy.trans (li.grown_drewN _ _ _) hg | exact World.grownBy.trans (World.grownBy_alloc _ _ _) hg | exact World.grownBy.trans ((gr.grown_drew _ _).trans (World.grownBy_alloc _ _ _)) hg)); (first | (have Q2 := Lib.hid ((Gr.new (L := []) hg).heap Q1.out (by simp)); obtain ⟨z0, z1, z2, z3, z4, y0, y1, y2, y3, y4⟩ := hz_at Q2.out) | (have Q2 := Lib.hid (zb2 (h := w1.heap.size) rfl hg); obtain ⟨z0, z1, z2, z3, z4, y0, y1, y2, y3, y4⟩ := hz_at Q2.out) | skip); have Y2 := Lib.hid (show Gy w2 L g k.r none0 ∧ ∀ q, q ∈ L → w1.heap.size ≤ q from ⟨hs, fun q hq => (by first | exact hl q hq | exact Nat.le_trans (sza w1 _) (hl q hq) | exact Nat.le_trans (sza w1.drew _) (hl q hq))⟩); have H2 := Lib.hid (K3.out _ A2.out); clear hs hl hg))
    all_goals
      go_wp2_with fail
      go_meet
      first
        | exact ⟨_, _, _, _, rfl, Hm.last A1.out B2.out S1.out Y2.out⟩
        | exact ⟨_, _, _, _, rfl, Hm.early A1.out B2.out S1.out Y2.out Q2.out (by have := A1.out.size; rw [sz1, sz1] at this; omega)⟩
  case rest =>
    obtain ⟨I, g, h, L, rfl, hm⟩ := hcut
    have M2 := Lib.hid hm
    obtain ⟨⟨b0, b1, b7, b8⟩, ⟨h0, h1, h2, h3, h4, f0, f1, f2, f3, f4⟩, r0, r1, r2, r3, r4, t0, t1, t2, t3, t4⟩ := hm.at rfl
    have hB := hm.hB
    have n1 : ¬ (h = w.heap.size) := by omega
    have n2 : ¬ (w.heap.size = h) := by omega
    have n3 : ¬ (h = w.heap.size + 1) := hm.hR
    have n4 : ¬ (w.heap.size + 1 = h) := fun e => hm.hR e.symm
    have LC := Lib.hid hm.gr.size
    clear hm c0 c1 c2 c3 c4 c5 c6 c7 c8 c9 hB NS NH K3 A0 NE0
    go_wp2_with (first
      | (go_at_call 102; (with_reducible refine (NT.out _ _ _).mono ?_); rintro e w3 ⟨rfl, ht, hg⟩; have M3 := Lib.hid (M2.out.new hg); have T3 := Lib.hid (((M2.out.new hg).keep ht (by simp)).1); obtain ⟨⟨b0, b1, b7, b8⟩, ⟨h0, h1, h2, h3, h4, f0, f1, f2, f3, f4⟩, r0, r1, r2, r3, r4, t0, t1, t2, t3, t4⟩ := M3.out.at rfl; have S3 := Lib.hid hg.size; clear ht hg)
      | (go_at_call 103; (with_reducible refine (NW.out _ _ _).mono ?_); rintro e w4 ⟨rfl, hv, hg⟩; rw [szc] at hv; have M4 := Lib.hid ((M3.out.set _).1.new hg); have T4 := Lib.hid ((M4.out.keep ((Gr.new (L := []) hg).heap (T3.out _ _) (by simp)) (by simp)).1); have V4 := Lib.hid ((M4.out.keep hv (by simp)).1); obtain ⟨⟨b0, b1, b7, b8⟩, ⟨h0, h1, h2, h3, h4, f0, f1, f2, f3, f4⟩, r0, r1, r2, r3, r4, t0, t1, t2, t3, t4⟩ := M4.out.at rfl; clear hv hg)
      | (go_at_call 82; (with_reducible refine (SL.out _ _ (M4.out.set _).2.sr).mono ?_); rintro e w5 ⟨rfl, hs, hg⟩; have M5 := Lib.hid ((M4.out.set _).2.slow hs hg); have T5 := Lib.hid (((M4.out.set _).2.keep (T4.out _ _) (by simp)).2 _ hg); have V5 := Lib.hid (((M4.out.set _).2.keep (V4.out _ _) (by simp)).2 _ hg); obtain ⟨⟨b0, b1, b7, b8⟩, ⟨h0, h1, h2, h3, h4, f0, f1, f2, f3, f4⟩, r0, r1, r2, r3, r4, t0, t1, t2, t3, t4⟩ := M5.out.at rfl; clear hs hg))
    obtain ⟨k1, k2, k3⟩ := M5.out.fin T5.out V5.out TWE.out (.int .i64 k.gl) (.pointer (some ⟨I.S, 0, none⟩)) (.pointer (some ⟨g, 0, none⟩)) (.pointer (some ⟨wc.heap.size, 0, none⟩)) (.pointer (some ⟨w3.heap.size, 0, none⟩)) (.int .i64 k.gl)
    have FIN := Lib.hid (And.intro k1 (And.intro k2 (And.intro k3 (And.intro M5.out.fI (And.intro M5.out.fL (And.intro LC.out (Nat.le_trans LC.out S3.out)))))))
    clear k1 k2 k3
    refine bodyPost_ret (v := .agg #[.pointer (some ⟨I.S, 0, none⟩), .pointer (some ⟨g, 0, none⟩), .pointer (some ⟨wc.heap.size, 0, none⟩), .pointer (some ⟨w3.heap.size, 0, none⟩), .int .i64 k.gl]) ?_ rfl ?_
    · simp [results, Tryz.results46, go_sem, *]
    · with_reducible exact ⟨I, g, wc.heap.size, w3.heap.size, L, rfl, FIN.out⟩
end
end Go.Proofs.YtkgdcgmbapchcaaGreatDoor.cy
