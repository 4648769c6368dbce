/- Joined: TrA, TrB, TrC. -/
import Derived.Test.YtacjleladjgkeaaGreatDoorTgW
import Derived.Test.YtacjleladjgkeaaGreatDoorPhZ
import Derived.BigQuiet
/- All that stands in the statement's world: the program's store, grey and tracer; the plain heap and the plain grey. -/
namespace Go.Proofs.YtacjleladjgkeaaGreatDoor.tr
open Go.ChangeShapes Go.WideShapes Go.ChangeAt Go.RowKit gen calls cls geos ce st sh
set_option linter.unusedVariables false
set_option maxHeartbeats 4000000
set_option maxRecDepth 100000
/-- The world's cells. -/
def wcs (S g t H M N c : Nat) : Array Value := #[.pointer (some ⟨S, 0, none⟩), .pointer (some ⟨g, 0, none⟩), .pointer (some ⟨t, 0, none⟩), .pointer (some ⟨H, 0, none⟩), .pointer (some ⟨M, 0, none⟩), .int .i64 N, .int .i64 c]
/-- The blocks: I the store's, t :: L the program's grey's and tracer's, K the plain heap's, J the plain grey's, B the world's. -/
structure Wp (w0 W : World) (B : Nat) (I : Ids) (x : Hs) (L : List Nat) (g r : Nat) (s : Ps) (t N c n : Nat) (K : List Nat) (H : Nat) (y : ph.Hq) (J : List Nat) (M : Nat) (s2 : Ps) (p : Int) : Prop where
  tw : tc.Tw W I x L g r s t N c n
  gp : Gp W K H y J M r s2 p
  bx : W.heap[B]? = some (.cells (wcs I.S g t H M N c) 40 (0, 0))
  aI : ∀ q, q ∈ I.all → q ∉ K ∧ q ∉ J ∧ q ≠ B
  aL : ∀ q, q ∈ t :: L → q ∉ K ∧ q ∉ J ∧ q ≠ B
  aB : B ∉ K ∧ B ∉ J
  lo : (∀ q, q ∈ I.all → w0.heap.size ≤ q) ∧ (∀ q, q ∈ t :: L → w0.heap.size ≤ q) ∧ (∀ q, q ∈ K → w0.heap.size ≤ q) ∧ (∀ q, q ∈ J → w0.heap.size ≤ q) ∧ w0.heap.size ≤ B
  gr : w0.grownBy W none
section
variable {w0 W W' : World} {B : Nat} {I : Ids} {x x' : Hs} {L L' K K' J J' X : List Nat} {g r t N c n n' H M : Nat} {s s' s2 s3 : Ps} {y y' : ph.Hq} {p p' : Int} {v : Value} {e : Ending}
theorem wlt (h : Wp w0 W B I x L g r s t N c n K H y J M s2 p) : (∀ q, q ∈ I.all → q < W.heap.size) ∧ (∀ q, q ∈ t :: L → q < W.heap.size) ∧ (∀ q, q ∈ K → q < W.heap.size) ∧ (∀ q, q ∈ J → q < W.heap.size) ∧ B < W.heap.size :=
  ⟨h.tw.sr.lt, fun q hq => by
    rcases List.mem_cons.1 hq with rfl | hq
    · exact h.tw.tc.lt
    · exact h.tw.gy.lt q hq, h.gp.pl.lt, h.gp.bk.lt, (Array.getElem?_eq_some_iff.1 h.bx).1⟩
theorem Wp.new (h : Wp w0 W B I x L g r s t N c n K H y J M s2 p) (hg : W.grownBy W' none) : Wp w0 W' B I x L g r s t N c n K H y J M s2 p :=
  ⟨h.tw.new hg, h.gp.new hg, (Gr.new (L := []) hg).heap h.bx (by simp), h.aI, h.aL, h.aB, h.lo, h.gr.trans hg⟩
theorem gp_gr {M' : List Nat} (h : Gp W K H y J M r s2 p) (hg : Gr M' W W') (h1 : ∀ q, q ∈ M' → q ∉ K) (h2 : ∀ q, q ∈ M' → q ∉ J) : Gp W' K H y J M r s2 p :=
  ⟨h.pl.gr hg h1, h.bk.gr hg (fun q hq hm => h2 q hm hq), h.ap, h.few⟩
/-- The program's grey and tracer have changed. -/
theorem Wp.trace (h : Wp w0 W B I x L g r s t N c n K H y J M s2 p) (hk : ∃ L', (∀ q, q ∈ L' → q ∈ L ∨ W.heap.size ≤ q) ∧ tc.Tw W' I x L' g r s' t N c n' ∧ Gr (t :: L) W W') :
    ∃ L', Wp w0 W' B I x L' g r s' t N c n' K H y J M s2 p ∧ (∀ q, q ∈ L' → q ∈ L ∨ W.heap.size ≤ q) ∧ Gr (t :: L) W W' := by
  obtain ⟨L', h1, h2, h3⟩ := hk
  obtain ⟨l1, l2, l3, l4, l5⟩ := wlt h
  have new : ∀ q, q ∈ t :: L' → q ∈ t :: L ∨ W.heap.size ≤ q := fun q hq => by
    rcases List.mem_cons.1 hq with rfl | hq
    · exact .inl (by simp)
    · exact (h1 q hq).imp (fun e => by simp [e]) id
  refine ⟨L', ⟨h2, gp_gr h.gp h3 (fun q hq => (h.aL q hq).1) (fun q hq => (h.aL q hq).2.1), h3.heap h.bx (fun hm => (h.aL B hm).2.2 rfl), h.aI, fun q hq => ?_, h.aB, ⟨h.lo.1, fun q hq => ?_, h.lo.2.2⟩, Gr.grown h.gr h3 h.lo.2.1⟩, h1, h3⟩
  · rcases new q hq with e | e
    · exact h.aL q e
    · exact ⟨fun hm => by have := l3 q hm; omega, fun hm => by have := l4 q hm; omega, by omega⟩
  · rcases new q hq with e | e
    · exact h.lo.2.1 q e
    · exact Nat.le_trans h.gr.size e
/-- The program's grey alone. -/
theorem Wp.grey (h : Wp w0 W B I x L g r s t N c n K H y J M s2 p) (hk : ∃ L', (∀ q, q ∈ L' → q ∈ L ∨ W.heap.size ≤ q) ∧ Gy W' L' g r s' ∧ Gr L W W') :
    ∃ L', Wp w0 W' B I x L' g r s' t N c n K H y J M s2 p := by
  obtain ⟨L', h1, h2, h3⟩ := hk
  obtain ⟨L2, h4, _⟩ := h.trace ⟨L', h1, h.tw.grey h1 h2 h3, h3.mono (fun q hq => by simp [hq])⟩
  exact ⟨L2, h4⟩
/-- The program's store has changed. -/
theorem Wp.store (h : Wp w0 W B I x L g r s t N c n K H y J M s2 p) (hs : Sr W' I x') (hv : Iv x') (s8 : x'.cnt < 1099511627776) (hg : Gr I.L W W') : Wp w0 W' B I x' L g r s t N c n K H y J M s2 p := by
  have sub : ∀ q, q ∈ I.L → q ∈ I.all := fun q hq => by simp [Ids.L] at hq; simp [Ids.all]; omega
  have tI := h.tw.tI
  refine ⟨⟨hs, hv, h.tw.gy.gr hg (fun q hq hm => h.tw.ap q hq (sub q hm)), h.tw.tc.gr hg (fun hm => tI (sub t hm)), h.tw.ap, s8, h.tw.n1, h.tw.c1, h.tw.nn⟩, gp_gr h.gp hg (fun q hq => (h.aI q (sub q hq)).1) (fun q hq => (h.aI q (sub q hq)).2.1), hg.heap h.bx (fun hm => (h.aI B (sub B hm)).2.2 rfl), h.aI, h.aL, h.aB, h.lo, Gr.grown h.gr hg (fun q hq => h.lo.1 q (sub q hq))⟩
/-- The plain heap has changed. -/
theorem Wp.heap (h : Wp w0 W B I x L g r s t N c n K H y J M s2 p) (hf : ∀ o ∈ y'.ob, o.2.2.length ≤ 127) (hk : ∃ K', (∀ q, q ∈ K' → q ∈ K ∨ W.heap.size ≤ q) ∧ ph.Pl W' K' H y' ∧ Gr K W W') :
    ∃ K', Wp w0 W' B I x L g r s t N c n K' H y' J M s2 p := by
  obtain ⟨K', h1, h2, h3⟩ := hk
  obtain ⟨l1, l2, l3, l4, l5⟩ := wlt h
  refine ⟨K', ⟨h.tw.gr h3 (fun q hq hm => (h.aI q hm).1 hq) (fun q hq hm => (h.aL q (by simp [hm])).1 hq) (fun hm => (h.aL t (by simp)).1 hm), ⟨h2, h.gp.bk.gr h3 (fun q hq hm => h.gp.ap q hq hm), fun q hq hm => ?_, hf⟩, h3.heap h.bx h.aB.1, fun q hq => ⟨fun hm => ?_, (h.aI q hq).2⟩, fun q hq => ⟨fun hm => ?_, (h.aL q hq).2⟩, ⟨fun hm => ?_, h.aB.2⟩, ⟨h.lo.1, h.lo.2.1, fun q hq => ?_, h.lo.2.2.2⟩, Gr.grown h.gr h3 h.lo.2.2.1⟩⟩
  · rcases h1 q hm with e | e
    · exact h.gp.ap q hq e
    · have := l4 q hq; omega
  · rcases h1 q hm with e | e
    · exact (h.aI q hq).1 e
    · have := l1 q hq; omega
  · rcases h1 q hm with e | e
    · exact (h.aL q hq).1 e
    · have := l2 q hq; omega
  · rcases h1 B hm with e | e
    · exact h.aB.1 e
    · omega
  · rcases h1 q hq with e | e
    · exact h.lo.2.2.1 q e
    · exact Nat.le_trans h.gr.size e
/-- The plain grey has changed. -/
theorem Wp.plain (h : Wp w0 W B I x L g r s t N c n K H y J M s2 p) (hk : ∃ J', (∀ q, q ∈ J' → q ∈ J ∨ W.heap.size ≤ q) ∧ Bk p' W' J' M r s3 ∧ gr.Gr J W W') :
    ∃ J', Wp w0 W' B I x L g r s t N c n K H y J' M s3 p' := by
  obtain ⟨J', h1, h2, h3⟩ := hk
  obtain ⟨l1, l2, l3, l4, l5⟩ := wlt h
  have h3 : Gr J W W' := h3
  refine ⟨J', ⟨h.tw.gr h3 (fun q hq hm => (h.aI q hm).2.1 hq) (fun q hq hm => (h.aL q (by simp [hm])).2.1 hq) (fun hm => (h.aL t (by simp)).2.1 hm), h.gp.grey h1 h2 h3, h3.heap h.bx h.aB.2, fun q hq => ⟨(h.aI q hq).1, fun hm => ?_, (h.aI q hq).2.2⟩, fun q hq => ⟨(h.aL q hq).1, fun hm => ?_, (h.aL q hq).2.2⟩, ⟨h.aB.1, fun hm => ?_⟩, ⟨h.lo.1, h.lo.2.1, h.lo.2.2.1, fun q hq => ?_, h.lo.2.2.2.2⟩, Gr.grown h.gr h3 h.lo.2.2.2.1⟩⟩
  · rcases h1 q hm with e | e
    · exact (h.aI q hq).2.1 e
    · have := l1 q hq; omega
  · rcases h1 q hm with e | e
    · exact (h.aL q hq).2.1 e
    · have := l2 q hq; omega
  · rcases h1 B hm with e | e
    · exact h.aB.2 e
    · omega
  · rcases h1 q hq with e | e
    · exact h.lo.2.2.2.1 q e
    · exact Nat.le_trans h.gr.size e
/-- The world's cells at hand. -/
theorem Wp.cells (h : Wp w0 W B I x L g r s t N c n K H y J M s2 p) : W.cell? ⟨B, 0, none⟩ = some (.pointer (some ⟨I.S, 0, none⟩)) ∧ W.cell? ⟨B, 1, none⟩ = some (.pointer (some ⟨g, 0, none⟩)) ∧ W.cell? ⟨B, 2, none⟩ = some (.pointer (some ⟨t, 0, none⟩)) ∧ W.cell? ⟨B, 3, none⟩ = some (.pointer (some ⟨H, 0, none⟩)) ∧ W.cell? ⟨B, 4, none⟩ = some (.pointer (some ⟨M, 0, none⟩)) ∧ W.cell? ⟨B, 5, none⟩ = some (.int .i64 N) ∧ W.cell? ⟨B, 6, none⟩ = some (.int .i64 c) :=
  ⟨by rw [cell_of_row W B 0 _ _ _ h.bx]; rfl, by rw [cell_of_row W B 1 _ _ _ h.bx]; rfl, by rw [cell_of_row W B 2 _ _ _ h.bx]; rfl, by rw [cell_of_row W B 3 _ _ _ h.bx]; rfl, by rw [cell_of_row W B 4 _ _ _ h.bx]; rfl, by rw [cell_of_row W B 5 _ _ _ h.bx]; rfl, by rw [cell_of_row W B 6 _ _ _ h.bx]; rfl⟩
end
end Go.Proofs.YtacjleladjgkeaaGreatDoor.tr

/- The statement's own small calls: few, Near, pick; a tracer that is made; the first look. -/
namespace Go.Proofs.YtacjleladjgkeaaGreatDoor.tr
open Go.ChangeShapes Go.WideShapes Go.ChangeAt Go.RowKit gen calls cls geos ce st sh
set_option linter.unusedVariables false
set_option maxHeartbeats 8000000
set_option maxRecDepth 100000
theorem few_any (A : Option Addr) (n c : Nat) (w : World) (hn : n ≤ c) (hc : c ≤ maxLen) (hA : 0 < n → ∃ ad, A = some ad) :
    Calls Tryz.prog 8 #[.slice A n c] w fun e w' => (∃ m c', m ≤ 60 ∧ m ≤ n ∧ e = .returned (.slice A m c')) ∧ w = w' := by
  unfold maxLen at hc
  by_cases h : 60 < n
  · obtain ⟨ad, rfl⟩ := hA (by omega)
    clear hA
    have l1 : (60 : Int) ≤ c := by omega
    go_enter Tryz.func8, Tryz.ntmps8
    go_wp2
    all_goals
      go_ret
      exact ⟨⟨60, _, by omega, by omega, rfl⟩, rfl⟩
  · clear hA
    go_enter Tryz.func8, Tryz.ntmps8
    go_wp2
    go_ret
    exact ⟨⟨n, _, by omega, by omega, rfl⟩, rfl⟩
theorem near_any (n a b : Int) (w : World) : Calls Tryz.prog 11 #[.int .i64 n, .int .i64 a, .int .i64 b] w fun e w' => e = .returned (.int .i64 (bm.near n a b)) ∧ w = w' := by
  unfold bm.near
  by_cases h1 : n < a
  · rw [if_pos h1]
    go_enter Tryz.func11, Tryz.ntmps11
    go_wp2
    go_ret
    exact ⟨rfl, rfl⟩
  · rw [if_neg h1]
    by_cases h2 : b < n
    · rw [if_pos h2]
      go_enter Tryz.func11, Tryz.ntmps11
      go_wp2
      go_ret
      exact ⟨rfl, rfl⟩
    · rw [if_neg h2]
      go_enter Tryz.func11, Tryz.ntmps11
      go_wp2
      go_ret
      exact ⟨rfl, rfl⟩
theorem near_nat (n : Int) {b : Nat} (hb : 1 ≤ b) : ∃ k : Nat, bm.near n 1 b = k ∧ 1 ≤ k ∧ k ≤ b := by
  unfold bm.near
  split
  · exact ⟨1, rfl, by omega, by omega⟩
  · split
    · exact ⟨b, rfl, by omega, by omega⟩
    · exact ⟨n.toNat, by omega, by omega, by omega⟩
theorem near_id {k b : Nat} (h : 1 ≤ k ∧ k ≤ b) : bm.near (k : Int) 1 (b : Int) = k := by unfold bm.near; rw [if_neg (by omega), if_neg (by omega)]
theorem pnear_id {k b : Nat} (h : k ≤ b) : pg.near (k : Int) 0 (b : Int) = k := by unfold pg.near; rw [if_neg (by omega), if_neg (by omega)]
/-- An object's address, or none. -/
theorem pick_any {w : World} {K : List Nat} {H : Nat} {y : ph.Hq} (h : ph.Pl w K H y) (hl : y.ob.length ≤ 4096) (i : Int) :
    Calls Tryz.prog 12 #[.pointer (some ⟨H, 0, none⟩), .int .i64 i] w fun e w' => (∃ a, e = .returned (.int .i64 a) ∧ (a = -1 ∨ ∃ o ∈ y.ob, o.1 = a)) ∧ w.grownBy w' none := by
  obtain ⟨V, vk, vs, vo, os, h⟩ := h
  have cO := h.cO
  obtain ⟨A, c, e1, n1, n2⟩ := h.shape
  obtain ⟨n, hn⟩ : ∃ n, y.ob.length = n := ⟨_, rfl⟩
  have AT := Lib.hid (fun i (hi : i < n) => h.at_ (i := i) (by omega))
  rw [hn] at e1 n1 hl
  subst e1
  unfold maxLen at n2
  clear h hn
  by_cases h0 : n = 0
  · subst h0
    go_enter Tryz.func12, Tryz.ntmps12
    go_wp2
    go_ret
    exact ⟨⟨-1, rfl, .inl rfl⟩, World.grownBy.refl _ _⟩
  · have t1 : ((n : Int) == 0) = false := by simp; omega
    by_cases h1 : i < 0
    · have t2 : decide (i < 0) = true := decide_eq_true h1
      clear h0 h1
      go_enter Tryz.func12, Tryz.ntmps12
      go_wp2
      go_ret
      exact ⟨⟨-1, rfl, .inl rfl⟩, World.grownBy.refl _ _⟩
    · have t2 : decide (i < 0) = false := decide_eq_false h1
      have i0 : 0 ≤ i := by omega
      have s2 : (1 : Int) ≤ n := by omega
      have nz : ¬ ((n : Int) = 0) := by omega
      obtain ⟨q, hq⟩ : ∃ q : Nat, i % (n : Int) = q := ⟨(i % (n : Int)).toNat, by have := Int.emod_nonneg i nz; omega⟩
      have hq2 : (q : Int) < n := by rw [← hq]; exact Int.emod_lt_of_pos i (by omega)
      have tm : i.tmod (n : Int) = q := by rw [Int.tmod_eq_emod_of_nonneg i0]; exact hq
      obtain ⟨o, p, b, c', f1, f2, f3, f4, f5, f6, f7, f8, g0, _⟩ := AT.out q (by omega)
      injection f4 with f4 f9 f10
      subst f4
      have FO := Lib.hid (List.mem_of_getElem? f1)
      have q0 : (0 : Int) ≤ q := by omega
      clear h0 h1 f1 f2 f3 f5 f7 f8 f9 f10
      go_enter Tryz.func12, Tryz.ntmps12
      go_wp2
      go_quiet (fail)
      go_wp2
      go_ret
      exact ⟨⟨o.1, rfl, .inr ⟨o, FO.out, rfl⟩⟩, li.grown_drewN _ _ _⟩
/-! ### A tracer that is made -/
theorem tnew_any (pS qg : Option Addr) (a b : Int) {N c : Nat} (hN : bm.near a 1 64 = N) (hc : bm.near b 1 16 = c) (w : World) :
    Calls Tryz.prog 20 #[.pointer pS, .pointer qg, .int .i64 a, .int .i64 b] w fun e w' => e = .returned (.pointer (some ⟨w.heap.size, 0, none⟩)) ∧ w'.heap[w.heap.size]? = some (.cells #[.pointer pS, .pointer qg, .int .i64 N, .int .i64 c, .int .i64 0] 54 (0, 0)) ∧ w.grownBy w' none := by
  have C1 := Lib.hid (fun w => bm.Clamp_any a 1 64 w)
  have C2 := Lib.hid (fun w => bm.Clamp_any b 1 16 w)
  rw [hN] at C1
  rw [hc] at C2
  clear hN hc
  go_enter Tryz.func20, Tryz.ntmps20
  go_wp2_with (first
    | (go_at_call 49; (with_reducible refine (C1.out _).mono ?_); rintro e w' ⟨rfl, rfl⟩)
    | (go_at_call 49; (with_reducible refine (C2.out _).mono ?_); rintro e w' ⟨rfl, rfl⟩))
  go_ret
  exact ⟨rfl, heap_alloc_new _ _, World.grownBy_alloc _ _ _⟩
end Go.Proofs.YtacjleladjgkeaaGreatDoor.tr

/- The statement's own first look: two objects, two fields, one by one. -/
namespace Go.Proofs.YtacjleladjgkeaaGreatDoor.tr
open Go.ChangeShapes Go.WideShapes Go.ChangeAt Go.RowKit gen calls cls geos ce st sh
set_option linter.unusedVariables false
set_option maxHeartbeats 8000000
set_option maxRecDepth 100000
/-- The stores of the first look. -/
def a0 : Hs := ph.x0 2
def a1 : Hs := (((a0.carved 0 2 4 8).owned 0 2 0).took 0 0 [1, 2, 3, 4, 5, 6, 7] 0 4).begun 0 2
def a2 : Hs := (((a1.carved 1 1 2 16).owned 0 1 1).took 1 0 [1, 2, 3, 4, 5, 6, 7, 8, 9, 10, 11, 12, 13, 14, 15] 32 2).begun 32 0
def a3 : Hs := a2.stored (0 + 1 + 1) (wd.wd 2 32)
theorem a0_iv : Iv a0 := ⟨Ok.new 2 (by decide), fun b hb => by simp [a0, ph.x0] at hb, fun o ho => by simp [a0, ph.x0] at ho, ca.Good.nil _⟩
theorem a0_fit : ∀ q : Nat, q < 64 → fit a0 2 q = false := by decide +kernel
theorem a1_fit : ∀ q : Nat, q < 64 → fit a1 1 q = false := by decide +kernel
theorem a1_slo : Slo a0 0 2 a1 0 := .inr (.inr (.inr ⟨by decide, by intro h; exact absurd h (by decide +kernel), a0_fit, 0, 4, 4, 8, 0, [1, 2, 3, 4, 5, 6, 7], by decide +kernel, rfl, rfl, ⟨by decide +kernel, by decide, rfl, by decide, rfl⟩, rfl⟩))
theorem a2_slo : Slo a1 0 0 a2 32 := .inr (.inr (.inr ⟨by decide, by intro h; exact absurd h (by decide +kernel), a1_fit, 1, 2, 2, 16, 0, [1, 2, 3, 4, 5, 6, 7, 8, 9, 10, 11, 12, 13, 14, 15], by decide +kernel, rfl, rfl, ⟨by decide +kernel, by decide, rfl, by decide, rfl⟩, rfl⟩))
theorem a1_iv : Iv a1 := (Slo_iv a0_iv (by decide) ⟨by decide, by decide⟩ a1_slo).1
theorem a2_iv : Iv a2 := (Slo_iv a1_iv (by decide) ⟨by decide, by decide⟩ a2_slo).1
theorem a2_ob : Ob a2 0 0 2 := ⟨by decide +kernel, by decide +kernel, by decide, by decide⟩
theorem a2_bz : ((2 : Nat) : Int) + 1 ≤ bz a2.ks ((0 : Nat) : Int) := by decide +kernel
theorem a3_iv : Iv a3 := (a2_iv.stored a2_ob a2_bz (by decide) (wd_fits 2 32) (by decide)).1
/-- What the units leave. -/
def u0 : tc.Ts := ⟨none0.shade 4 0, -1⟩
def u1 : tc.Ts := tc.Ts.unit 4 2 1 (tc.flo a3) (tc.inp a3) u0
def u2 : tc.Ts := tc.Ts.unit 4 2 1 (tc.flo a3) (tc.inp a3) u1
def u3 : tc.Ts := tc.Ts.unit 4 2 1 (tc.flo a3) (tc.inp a3) u2
def u4 : tc.Ts := tc.Ts.unit 4 2 1 (tc.flo a3) (tc.inp a3) u3
theorem u_facts : (tc.Ts.idle u0 = false ∧ tc.Ts.idle u1 = false ∧ tc.Ts.idle u2 = false ∧ tc.Ts.idle u3 = true) ∧ isb u2.s.ws 32 = true ∧ (u0.p = -1 ∧ u1.p = -1 ∧ u2.p = -1 ∧ u3.p = -1 ∧ u4.p = -1) := by decide +kernel
/-- A store, a grey and a tracer that the call made. -/
structure Aw (w0 W : World) (I : Ids) (x : Hs) (L : List Nat) (g r : Nat) (s : Ps) (t N c n : Nat) : Prop where
  tw : tc.Tw W I x L g r s t N c n
  lo : (∀ q, q ∈ I.all → w0.heap.size ≤ q) ∧ ∀ q, q ∈ t :: L → w0.heap.size ≤ q
  gr : w0.grownBy W none
section
variable {w0 W W' : World} {I : Ids} {x x' : Hs} {L L' : List Nat} {g r t N c n n' : Nat} {s s' : Ps} {p : Int} {v : Value}
theorem Aw.new (h : Aw w0 W I x L g r s t N c n) (hg : W.grownBy W' none) : Aw w0 W' I x L g r s t N c n := ⟨h.tw.new hg, h.lo, h.gr.trans hg⟩
theorem Aw.store (h : Aw w0 W I x L g r s t N c n) (hs : Sr W' I x') (hv : Iv x') (s8 : x'.cnt < 1099511627776) (hg : Gr I.L W W') : Aw w0 W' I x' L g r s t N c n := by
  have sub : ∀ q, q ∈ I.L → q ∈ I.all := fun q hq => by simp [Ids.L] at hq; simp [Ids.all]; omega
  have tI := h.tw.tI
  exact ⟨⟨hs, hv, h.tw.gy.gr hg (fun q hq hm => h.tw.ap q hq (sub q hm)), h.tw.tc.gr hg (fun hm => tI (sub t hm)), h.tw.ap, s8, h.tw.n1, h.tw.c1, h.tw.nn⟩, h.lo, Gr.grown h.gr hg (fun q hq => h.lo.1 q (sub q hq))⟩
theorem Aw.trace (h : Aw w0 W I x L g r s t N c n) (hk : ∃ L', (∀ q, q ∈ L' → q ∈ L ∨ W.heap.size ≤ q) ∧ tc.Tw W' I x L' g r s' t N c n' ∧ Gr (t :: L) W W') : ∃ L', Aw w0 W' I x L' g r s' t N c n' := by
  obtain ⟨L', h1, h2, h3⟩ := hk
  refine ⟨L', h2, ⟨h.lo.1, fun q hq => ?_⟩, Gr.grown h.gr h3 h.lo.2⟩
  rcases List.mem_cons.1 hq with rfl | hq
  · exact h.lo.2 q (by simp)
  · rcases h1 q hq with e | e
    · exact h.lo.2 q (by simp [e])
    · exact Nat.le_trans h.gr.size e
theorem Aw.grey (h : Aw w0 W I x L g r s t N c n) (hk : ∃ L', (∀ q, q ∈ L' → q ∈ L ∨ W.heap.size ≤ q) ∧ Gy W' L' g r s' ∧ Gr L W W') : ∃ L', Aw w0 W' I x L' g r s' t N c n := by
  obtain ⟨L', h1, h2, h3⟩ := hk
  exact h.trace ⟨L', h1, h.tw.grey h1 h2 h3, h3.mono (fun q hq => by simp [hq])⟩
theorem Aw.unit (hT : bm.Tab w0) (h : Aw w0 W I x L g r s t N c n) (hp : n = tc.left N p) (hr : -1 ≤ p ∧ p < N) :
    Calls Tryz.prog 14 #[.pointer (some ⟨t, 0, none⟩)] W fun e w' => e = .returned (.bool (!tc.Ts.idle ⟨s, p⟩)) ∧ (-1 ≤ (tc.Ts.unit r N c (tc.flo x) (tc.inp x) ⟨s, p⟩).p ∧ (tc.Ts.unit r N c (tc.flo x) (tc.inp x) ⟨s, p⟩).p < N) ∧ ∃ L', Aw w0 w' I x L' g r (tc.Ts.unit r N c (tc.flo x) (tc.inp x) ⟨s, p⟩).s t N c (tc.left N (tc.Ts.unit r N c (tc.flo x) (tc.inp x) ⟨s, p⟩).p) := by
  have h0 : I.s ≠ 0 := by
    have h1 := h.lo.1 I.s (by simp [Ids.all])
    have h2 := hT.1
    omega
  refine (tc.Unit_any h.tw hp hr (fun W2 hg => hT.kept (Gr.grown h.gr hg h.lo.2) (by simp)) h0).mono fun e w' ⟨k1, k2, k3⟩ => ⟨k2, k1, h.trace k3⟩
end
end Go.Proofs.YtacjleladjgkeaaGreatDoor.tr
