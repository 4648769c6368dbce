/- The statement's own step: what stands while it goes on; the ways that change nothing. -/
import Derived.Test.YtljahpjdkkennaaBfE
import Derived.BigQuiet
namespace Go.Proofs.Ytljahpjdkkennaa.bf
open Go.ChangeShapes Go.WideShapes Go.ChangeAt Go.RowKit gen li
set_option linter.unusedVariables false
set_option maxHeartbeats 8000000
set_option maxRecDepth 100000

/-- A boxed call. -/
def Ox (w : World) (B : Nat) (o t a : Int) : Prop := w.heap[B]? = some (.cells #[.int .i64 o, .int .i64 t, .int .i64 a] 46 (0, 0))
/-- Buffers in the blocks K, and the statement's table in J, alike; reached from w, where they were in K0 and J0. -/
structure Rn (w : World) (K0 J0 K J : List Nat) (g : Nat) (M : Value) (ls : List (List Int)) (W : World) : Prop where
  gr : Gr K0 w W
  bf : Bf W K g ls
  gd : Gd W J M ls
  kk : ∀ q, q ∈ K → q ∈ K0 ∨ w.heap.size ≤ q
  jj : ∀ q, q ∈ J → q ∈ J0 ∨ w.heap.size ≤ q
  off : ∀ q, q ∈ K → q ∉ J
/-- What a step, or a run, leaves. -/
def StA (K J : List Nat) (g : Nat) (w : World) (r : Ending) (w' : World) : Prop := ∃ (A : Option Addr) (N c : Nat) (ls : List (List Int)) (K' J' : List Nat), r = .returned (.tuple #[.slice A N c, .bool true]) ∧ N = ls.length ∧ Rn w K J K' J' g (.slice A N c) ls w'
theorem Rn.new {w W W2 : World} {K0 J0 K J : List Nat} {g : Nat} {M : Value} {ls : List (List Int)} (h : Rn w K0 J0 K J g M ls W) (hg : W.grownBy W2 none) : Rn w K0 J0 K J g M ls W2 :=
  ⟨h.gr.made hg, h.bf.new hg, h.gd.new hg, h.kk, h.jj, h.off⟩
theorem Rn.trans {w W W2 : World} {K0 J0 K J K2 J2 : List Nat} {g : Nat} {M M2 : Value} {ls ls2 : List (List Int)} (h : Rn w K0 J0 K J g M ls W) (k : Rn W K J K2 J2 g M2 ls2 W2) : Rn w K0 J0 K2 J2 g M2 ls2 W2 :=
  ⟨h.gr.own k.gr h.kk, k.bf, k.gd, fun q hq => (k.kk q hq).elim (h.kk q) (fun e => .inr (Nat.le_trans h.gr.size e)), fun q hq => (k.jj q hq).elim (h.jj q) (fun e => .inr (Nat.le_trans h.gr.size e)), k.off⟩
/-- What stands while a step goes on: the buffers (lp), the table (lm), the boxed call, a list vl (it is l) that is nobody's or the table's, a cell p. -/
structure Sp (w : World) (K0 J0 : List Nat) (o t a : Int) (vl : Value) (l : List Int) (p : Addr) (u : Value) (K J : List Nat) (g : Nat) (M : Value) (lp lm : List (List Int)) (W : World) : Prop where
  gr : Gr K0 w W
  bf : Bf W K g lp
  gd : Gd W J M lm
  kk : ∀ q, q ∈ K → q ∈ K0 ∨ w.heap.size ≤ q
  jj : ∀ q, q ∈ J → q ∈ J0 ∨ w.heap.size ≤ q
  off : ∀ q, q ∈ K → q ∉ J
  bx : Ox W w.heap.size o t a
  nb : w.heap.size ∉ K
  li : Li W vl l
  lv : ∀ q, vl.ownBlock = some q → q ∉ K ∧ (q ∈ J0 ∨ w.heap.size ≤ q)
  ce : W.cell? p = some u
  np : p.block ∉ K
section
variable {w W W2 : World} {K0 J0 K J K2 J2 : List Nat} {o t a : Int} {vl : Value} {l : List Int} {p : Addr} {u : Value} {g : Nat} {M M2 : Value} {ls lp lm lp2 lm2 : List (List Int)}
theorem Ox.f {B : Nat} (h : Ox w B o t a) : w.cell? ⟨B, 0, none⟩ = some (.int .i64 o) ∧ w.cell? ⟨B, 1, none⟩ = some (.int .i64 t) ∧ w.cell? ⟨B, 2, none⟩ = some (.int .i64 a) :=
  ⟨by rw [cell_of_row w B 0 _ _ _ h]; rfl, by rw [cell_of_row w B 1 _ _ _ h]; rfl, by rw [cell_of_row w B 2 _ _ _ h]; rfl⟩
/-- A step begins: beside the buffers and the table a list that is read, and a cell of it. -/
theorem Sp.begin (hb : Bf w K g ls) (hd : Gd w J M ls) (ho : ∀ q, q ∈ K → q ∉ J) (hl : Li w vl l) (hv : ∀ q, vl.ownBlock = some q → q ∈ J) (hp : w.cell? p = some u) (hn : p.block ∈ J) :
    Sp w K J o t a vl l p u K J g M ls ls (w.alloc (.cells #[.int .i64 o, .int .i64 t, .int .i64 a] 46)) := by
  have G := World.grownBy_alloc w (.cells #[.int .i64 o, .int .i64 t, .int .i64 a] 46) none
  exact ⟨.new G, hb.new G, hd.new G, fun q h => .inl h, fun q h => .inl h, ho, heap_alloc_new _ _, fun h => absurd (hb.lt _ h) (Nat.lt_irrefl _), hl.new G, fun q e => ⟨fun h => ho q h (hv q e), .inl (hv q e)⟩, G.cell hp (by simp), fun h => ho _ h hn⟩
theorem Sp.start (hb : Bf w K g ls) (hd : Gd w J M ls) (ho : ∀ q, q ∈ K → q ∉ J) :
    Sp w K J o t a nl [] ⟨w.heap.size, 0, none⟩ (.int .i64 o) K J g M ls ls (w.alloc (.cells #[.int .i64 o, .int .i64 t, .int .i64 a] 46)) := by
  have G := World.grownBy_alloc w (.cells #[.int .i64 o, .int .i64 t, .int .i64 a] 46) none
  have hn : w.heap.size ∉ K := fun h => absurd (hb.lt _ h) (Nat.lt_irrefl _)
  exact ⟨.new G, hb.new G, hd.new G, fun q h => .inl h, fun q h => .inl h, ho, heap_alloc_new _ _, hn, Li.nil _, fun q e => (by cases e), (show Ox _ w.heap.size o t a from heap_alloc_new _ _).f.1, hn⟩
theorem Sp.new (h : Sp w K0 J0 o t a vl l p u K J g M lp lm W) (hg : W.grownBy W2 none) : Sp w K0 J0 o t a vl l p u K J g M lp lm W2 :=
  ⟨h.gr.made hg, h.bf.new hg, h.gd.new hg, h.kk, h.jj, h.off, (Gr.new (L := []) hg).heap h.bx (by simp), h.nb, h.li.new hg, h.lv, hg.cell h.ce (by simp), h.np⟩
theorem Sp.f (h : Sp w K0 J0 o t a vl l p u K J g M lp lm W) : W.cell? ⟨w.heap.size, 0, none⟩ = some (.int .i64 o) ∧ W.cell? ⟨w.heap.size, 1, none⟩ = some (.int .i64 t) ∧ W.cell? ⟨w.heap.size, 2, none⟩ = some (.int .i64 a) := Ox.f h.bx
theorem Sp.lt (h : Sp w K0 J0 o t a vl l p u K J g M lp lm W) : w.heap.size < W.heap.size := (Array.getElem?_eq_some_iff.1 h.bx).1
/-- The buffers were written. -/
theorem Sp.write (h : Sp w K0 J0 o t a vl l p u K J g M lp lm W) (hb : Bf W2 K2 g lp2) (hk : ∀ q, q ∈ K2 → q ∈ K ∨ W.heap.size ≤ q) (hg : Gr K W W2) : Sp w K0 J0 o t a vl l p u K2 J g M lp2 lm W2 := by
  have lt := h.lt
  have le := h.gr.size
  refine ⟨h.gr.own hg h.kk, hb, h.gd.gr hg (fun q hq hq2 => h.off q hq2 hq), fun q hq => ?_, h.jj, fun q hq hj => ?_, hg.heap h.bx h.nb, fun hq => ?_, h.li.gr hg (fun q e => (h.lv q e).1), fun q e => ⟨fun hq => ?_, (h.lv q e).2⟩, hg.cell h.ce h.np, fun hq => ?_⟩
  · rcases hk q hq with e | e
    · exact h.kk q e
    · exact .inr (Nat.le_trans le e)
  · rcases hk q hq with e | e
    · exact h.off q e hj
    · have := h.gd.lt q hj; omega
  · rcases hk _ hq with e | e
    · exact h.nb e
    · omega
  · rcases hk q hq with e2 | e2
    · exact (h.lv q e).1 e2
    · have := h.li.lt q e; omega
  · rcases hk _ hq with e | e
    · exact h.np e
    · have := World.block_lt_of_cell? _ _ h.ce; omega
/-- Another table. -/
theorem Sp.tab (h : Sp w K0 J0 o t a vl l p u K J g M lp lm W) (hd : Gd W J2 M2 lm2) (hj : ∀ q, q ∈ J2 → q ∈ J0 ∨ w.heap.size ≤ q) (ho : ∀ q, q ∈ K → q ∉ J2) : Sp w K0 J0 o t a vl l p u K J2 g M2 lp lm2 W :=
  ⟨h.gr, h.bf, hd, h.kk, hj, ho, h.bx, h.nb, h.li, h.lv, h.ce, h.np⟩
/-- Another list. -/
theorem Sp.list (h : Sp w K0 J0 o t a vl l p u K J g M lp lm W) {v2 : Value} {l2 : List Int} (hl : Li W v2 l2) (hv : ∀ q, v2.ownBlock = some q → q ∉ K ∧ (q ∈ J0 ∨ w.heap.size ≤ q)) : Sp w K0 J0 o t a v2 l2 p u K J g M lp lm W :=
  ⟨h.gr, h.bf, h.gd, h.kk, h.jj, h.off, h.bx, h.nb, hl, hv, h.ce, h.np⟩
/-- A list that was made on the way. -/
theorem Sp.made (h : Sp w K0 J0 o t a vl l p u K J g M lp lm W) (hg : W.grownBy W2 none) {v2 : Value} {l2 : List Int} (hl : Li W2 v2 l2) (hv : ∀ q, v2.ownBlock = some q → W.heap.size ≤ q) : Sp w K0 J0 o t a v2 l2 p u K J g M lp lm W2 :=
  (h.new hg).list hl (fun q e => ⟨fun hq => by have := h.bf.lt q hq; have := hv q e; omega, .inr (Nat.le_trans h.gr.size (hv q e))⟩)
/-- The table was set. -/
theorem Sp.set {r : Ending} {v : Value} (h : Sp w K0 J0 o t a vl l p u K J g M lp lm W) (hs : SetA J v lm2 W r W2) (hv : ∀ q, v.ownBlock = some q → q ∉ K ∧ (q ∈ J0 ∨ w.heap.size ≤ q)) :
    ∃ A N c J2, r = .returned (.slice A N c) ∧ N = lm2.length ∧ Sp w K0 J0 o t a vl l p u K J2 g (.slice A N c) lp lm2 W2 ∧ W.grownBy W2 none := by
  obtain ⟨A, N, c, J2, rfl, hN, hd, hj, hg⟩ := hs
  refine ⟨A, N, c, J2, rfl, hN, (h.new hg).tab hd (fun q hq => ?_) (fun q hq hq2 => ?_), hg⟩
  · rcases hj q hq with e | e | e
    · exact h.jj q e
    · exact (hv q e).2
    · exact .inr (Nat.le_trans h.gr.size e)
  · rcases hj q hq2 with e | e | e
    · exact h.off q hq e
    · exact (hv q e).1 hq
    · have := h.bf.lt q hq; omega
theorem Sp.fin {A : Option Addr} {N c : Nat} (h : Sp w K0 J0 o t a vl l p u K J g (.slice A N c) ls ls W) (hN : N = ls.length) : StA K0 J0 g w (.returned (.tuple #[.slice A N c, .bool true])) W :=
  ⟨A, N, c, ls, K, J, rfl, hN, h.gr, h.bf, h.gd, h.kk, h.jj, h.off⟩
end
/-! ### The ways that change nothing -/
section
variable {w : World} {K J : List Nat} {g : Nat} {A : Option Addr} {N c : Nat} {ls : List (List Int)}
theorem step_put_out (hb : Bf w K g ls) (hd : Gd w J (.slice A N c) ls) (ho : ∀ q, q ∈ K → q ∉ J) (hN : N = ls.length) (t a : Int) (ht : t < 0 ∨ (N : Int) ≤ t) :
    Calls Try.prog 19 #[.pointer (some ⟨g, 0, none⟩), .slice A N c, .agg #[.int .i64 1, .int .i64 t, .int .i64 a]] w (StA K J g w) := by
  have S0 := Lib.hid (Sp.start (o := 1) (t := t) (a := a) hb hd ho)
  have HN := Lib.hid hN
  have h8 : N ≤ 8 := by rw [hN]; exact hb.ok.1
  have PN := Lib.hid (fun W (h : Bf W K g ls) => Put_out h t a (by rw [← hN]; exact ht))
  clear hb hd ho hN
  by_cases hlo : t < 0
  · have t1 : decide ((0 : Int) ≤ t) = false := decide_eq_false (by omega)
    clear ht
    go_enter Try.func19, Try.ntmps19
    go_wp2
    go_quiet (fail)
    go_wp2_with (go_at_call 11; (with_reducible refine (PN.out _ (S0.out.bf.new (by first | exact World.grownBy.refl _ _ | exact grown_drew _ _ | exact li.grown_drewN _ _ _))).mono ?_); rintro r w' ⟨rfl, rfl⟩)
    go_ret2
    exact (S0.out.new (by first | exact World.grownBy.refl _ _ | exact grown_drew _ _ | exact li.grown_drewN _ _ _)).fin HN.out
  · have t1 : decide ((0 : Int) ≤ t) = true := decide_eq_true (by omega)
    have t2 : decide (t < (N : Int)) = false := decide_eq_false (by omega)
    clear ht
    go_enter Try.func19, Try.ntmps19
    go_wp2
    go_quiet (fail)
    go_wp2_with (go_at_call 11; (with_reducible refine (PN.out _ (S0.out.bf.new (by first | exact World.grownBy.refl _ _ | exact grown_drew _ _ | exact li.grown_drewN _ _ _))).mono ?_); rintro r w' ⟨rfl, rfl⟩)
    go_ret2
    exact (S0.out.new (by first | exact World.grownBy.refl _ _ | exact grown_drew _ _ | exact li.grown_drewN _ _ _)).fin HN.out
theorem step_put_no (hb : Bf w K g ls) (hd : Gd w J (.slice A N c) ls) (ho : ∀ q, q ∈ K → q ∉ J) (hN : N = ls.length) (k : Nat) (hk : k < N) (a : Int) (ha : a < 0 ∨ 2048 ≤ a ∨ a ∈ ls.getD k []) :
    Calls Try.prog 19 #[.pointer (some ⟨g, 0, none⟩), .slice A N c, .agg #[.int .i64 1, .int .i64 (k : Int), .int .i64 a]] w (StA K J g w) := by
  have S0 := Lib.hid (Sp.start (o := 1) (t := k) (a := a) hb hd ho)
  have HN := Lib.hid hN
  have h8 : N ≤ 8 := by rw [hN]; exact hb.ok.1
  have PN := Lib.hid (fun W (h : Bf W K g ls) => Put_no h k (by rw [← hN]; exact hk) a ha)
  obtain ⟨b, A1, c1, rfl, d1, l1, _⟩ := hd.at_ (i := k) (by omega)
  have IA := fun W (hg : w.grownBy W none) => In_any (by have := hb.ok.le k; omega) ((l1.new hg).rd rfl) a
  generalize (ls.getD k []).length = m at d1 IA
  have dl := World.block_lt_of_cell? _ _ d1
  dsimp only at dl
  have k0 : (0 : Int) ≤ (k : Int) := by omega
  have k1 : (k : Int) < (N : Int) := by omega
  have t1 : decide ((0 : Int) ≤ (k : Int)) = true := decide_eq_true k0
  have t2 : decide ((k : Int) < (N : Int)) = true := decide_eq_true k1
  clear hb hd ho hN l1
  by_cases a1 : a < 0
  · have a1' : decide (a < 0) = true := decide_eq_true a1
    clear ha IA
    go_enter Try.func19, Try.ntmps19
    go_wp2
    go_quiet (fail)
    go_wp2_with (go_at_call 11; (with_reducible refine (PN.out _ (S0.out.bf.new (by first | exact World.grownBy.refl _ _ | exact grown_drew _ _ | exact li.grown_drewN _ _ _))).mono ?_); rintro r w' ⟨rfl, rfl⟩)
    go_ret2
    exact (S0.out.new (by first | exact World.grownBy.refl _ _ | exact grown_drew _ _ | exact li.grown_drewN _ _ _)).fin HN.out
  have a1' : decide (a < 0) = false := decide_eq_false a1
  by_cases a2 : 2047 < a
  · have a2' : decide (2047 < a) = true := decide_eq_true a2
    clear ha IA
    go_enter Try.func19, Try.ntmps19
    go_wp2
    go_quiet (fail)
    go_wp2_with (go_at_call 11; (with_reducible refine (PN.out _ (S0.out.bf.new (by first | exact World.grownBy.refl _ _ | exact grown_drew _ _ | exact li.grown_drewN _ _ _))).mono ?_); rintro r w' ⟨rfl, rfl⟩)
    go_ret2
    exact (S0.out.new (by first | exact World.grownBy.refl _ _ | exact grown_drew _ _ | exact li.grown_drewN _ _ _)).fin HN.out
  have a2' : decide (2047 < a) = false := decide_eq_false a2
  rw [show decide (a ∈ ls.getD k []) = true from decide_eq_true (by rcases ha with ha | ha | ha; exact absurd ha a1; omega; exact ha)] at IA
  have IN := Lib.hid IA
  clear ha IA
  go_enter Try.func19, Try.ntmps19
  go_wp2
  go_quiet (first | (go_at_call 24; refine Calls.quiet_of_same (IN.out _ (by first | exact World.grownBy_alloc _ _ _ | exact (World.grownBy_alloc _ _ _).trans (li.grown_drewN _ _ _) | exact (World.grownBy_alloc _ _ _).trans (grown_drew _ _)))))
  go_wp2_with (go_at_call 11; (with_reducible refine (PN.out _ (S0.out.bf.new (by first | exact World.grownBy.refl _ _ | exact grown_drew _ _ | exact li.grown_drewN _ _ _))).mono ?_); rintro r w' ⟨rfl, rfl⟩)
  go_ret2
  exact (S0.out.new (by first | exact World.grownBy.refl _ _ | exact grown_drew _ _ | exact li.grown_drewN _ _ _)).fin HN.out
theorem step_take_out (hb : Bf w K g ls) (hd : Gd w J (.slice A N c) ls) (ho : ∀ q, q ∈ K → q ∉ J) (hN : N = ls.length) (t a : Int) (ht : t < 0 ∨ (N : Int) ≤ t) :
    Calls Try.prog 19 #[.pointer (some ⟨g, 0, none⟩), .slice A N c, .agg #[.int .i64 2, .int .i64 t, .int .i64 a]] w (StA K J g w) := by
  have S0 := Lib.hid (Sp.start (o := 2) (t := t) (a := a) hb hd ho)
  have HN := Lib.hid hN
  have h8 : N ≤ 8 := by rw [hN]; exact hb.ok.1
  have PN := Lib.hid (fun W (h : Bf W K g ls) => Take_out h t (by rw [← hN]; exact ht))
  clear hb hd ho hN
  by_cases hlo : t < 0
  · have t1 : decide ((0 : Int) ≤ t) = false := decide_eq_false (by omega)
    clear ht
    go_enter Try.func19, Try.ntmps19
    go_wp2_with (go_at_call 12; (with_reducible refine (PN.out _ (S0.out.bf.new (by first | exact World.grownBy.refl _ _ | exact grown_drew _ _ | exact li.grown_drewN _ _ _))).mono ?_); rintro r w' ⟨rfl, rfl⟩)
    go_ret2
    exact (S0.out.new (by first | exact World.grownBy.refl _ _ | exact grown_drew _ _ | exact li.grown_drewN _ _ _)).fin HN.out
  · have t1 : decide ((0 : Int) ≤ t) = true := decide_eq_true (by omega)
    have t2 : decide (t < (N : Int)) = false := decide_eq_false (by omega)
    clear ht
    go_enter Try.func19, Try.ntmps19
    go_wp2_with (go_at_call 12; (with_reducible refine (PN.out _ (S0.out.bf.new (by first | exact World.grownBy.refl _ _ | exact grown_drew _ _ | exact li.grown_drewN _ _ _))).mono ?_); rintro r w' ⟨rfl, rfl⟩)
    go_ret2
    exact (S0.out.new (by first | exact World.grownBy.refl _ _ | exact grown_drew _ _ | exact li.grown_drewN _ _ _)).fin HN.out
theorem step_len_out (hb : Bf w K g ls) (hd : Gd w J (.slice A N c) ls) (ho : ∀ q, q ∈ K → q ∉ J) (hN : N = ls.length) (o t a : Int) (ht : t < 0 ∨ (N : Int) ≤ t) (o1 : (o == 1) = false) (o2 : (o == 2) = false) (o3 : (o == 3) = false) :
    Calls Try.prog 19 #[.pointer (some ⟨g, 0, none⟩), .slice A N c, .agg #[.int .i64 o, .int .i64 t, .int .i64 a]] w (StA K J g w) := by
  have S0 := Lib.hid (Sp.start (o := o) (t := t) (a := a) hb hd ho)
  have HN := Lib.hid hN
  have h8 : N ≤ 8 := by rw [hN]; exact hb.ok.1
  have PN := Lib.hid (fun W (h : Bf W K g ls) => Len_out h t (by rw [← hN]; exact ht))
  clear hb hd ho hN
  by_cases hlo : t < 0
  · have t1 : decide ((0 : Int) ≤ t) = false := decide_eq_false (by omega)
    clear ht
    go_enter Try.func19, Try.ntmps19
    go_wp2_with (go_at_call 18; (with_reducible refine (PN.out _ (S0.out.bf.new (by first | exact World.grownBy.refl _ _ | exact grown_drew _ _ | exact li.grown_drewN _ _ _))).mono ?_); rintro r w' ⟨rfl, rfl⟩)
    go_ret2
    exact (S0.out.new (by first | exact World.grownBy.refl _ _ | exact grown_drew _ _ | exact li.grown_drewN _ _ _)).fin HN.out
  · have t1 : decide ((0 : Int) ≤ t) = true := decide_eq_true (by omega)
    have t2 : decide (t < (N : Int)) = false := decide_eq_false (by omega)
    clear ht
    go_enter Try.func19, Try.ntmps19
    go_wp2_with (go_at_call 18; (with_reducible refine (PN.out _ (S0.out.bf.new (by first | exact World.grownBy.refl _ _ | exact grown_drew _ _ | exact li.grown_drewN _ _ _))).mono ?_); rintro r w' ⟨rfl, rfl⟩)
    go_ret2
    exact (S0.out.new (by first | exact World.grownBy.refl _ _ | exact grown_drew _ _ | exact li.grown_drewN _ _ _)).fin HN.out
theorem step_len_in (hb : Bf w K g ls) (hd : Gd w J (.slice A N c) ls) (ho : ∀ q, q ∈ K → q ∉ J) (hN : N = ls.length) (o : Int) (k : Nat) (hk : k < N) (a : Int) (o1 : (o == 1) = false) (o2 : (o == 2) = false) (o3 : (o == 3) = false) :
    Calls Try.prog 19 #[.pointer (some ⟨g, 0, none⟩), .slice A N c, .agg #[.int .i64 o, .int .i64 (k : Int), .int .i64 a]] w (StA K J g w) := by
  have S0 := Lib.hid (Sp.start (o := o) (t := k) (a := a) hb hd ho)
  have HN := Lib.hid hN
  have h8 : N ≤ 8 := by rw [hN]; exact hb.ok.1
  have PN := fun W (h : Bf W K g ls) => (Len_in h k (by rw [← hN]; exact hk)).mono (fun r w' h => (⟨h.1, h.2.symm⟩ : r = .returned (.int .i64 ((ls.getD k []).length : Int)) ∧ w' = W))
  obtain ⟨b, A1, c1, rfl, d1, _, _⟩ := hd.at_ (i := k) (by omega)
  have hm := hb.ok.le k
  generalize (ls.getD k []).length = m at *
  have LN := Lib.hid PN
  have dl := World.block_lt_of_cell? _ _ d1
  dsimp only at dl
  have k0 : (0 : Int) ≤ (k : Int) := by omega
  have k1 : (k : Int) < (N : Int) := by omega
  have t1 : decide ((0 : Int) ≤ (k : Int)) = true := decide_eq_true k0
  have t2 : decide ((k : Int) < (N : Int)) = true := decide_eq_true k1
  clear hb hd ho hN PN
  go_enter Try.func19, Try.ntmps19
  go_wp2
  go_quiet (first | (go_at_call 18; refine Calls.quiet_of_same (LN.out _ (S0.out.bf.new (by first | exact World.grownBy.refl _ _ | exact grown_drew _ _ | exact li.grown_drewN _ _ _)))))
  go_wp2
  go_ret2
  exact (S0.out.new (by first | exact World.grownBy.refl _ _ | exact grown_drew _ _ | exact li.grown_drewN _ _ _)).fin HN.out
end
end Go.Proofs.Ytljahpjdkkennaa.bf
