/- The walk of StackClones. (Printed by wip/tools/genSkK.py.) -/
import Derived.Test.YtokjiklmeolleaaSkI
namespace Go.Proofs.Ytokjiklmeolleaa.sk
open Go.ChangeShapes Go.WideShapes Go.ChangeAt Go.RowKit gen li en gr
set_option linter.unusedVariables false
set_option maxHeartbeats 16000000
set_option maxRecDepth 100000
/-- Two stacks and a list for each, alike and apart. -/
structure Cs (w : World) (K1 K2 : List Nat) (g g2 r : Nat) (b1 : Bool) (v1 : Value) (m1 : List Va) (b2 : Bool) (v2 : Value) (m2 : List Va) (cur : World) : Prop where
  a1 : Al w K1 g r b1 m1 cur
  a2 : Al w K2 g2 r b2 m2 cur
  l1 : Lv cur 0 v1 m1
  l2 : Lv cur 0 v2 m2
  o11 : ∀ q, v1.ownBlock = some q → q ∉ K1
  o12 : ∀ q, v1.ownBlock = some q → q ∉ K2
  o21 : ∀ q, v2.ownBlock = some q → q ∉ K1
  o22 : ∀ q, v2.ownBlock = some q → q ∉ K2
  ap : ∀ q, q ∈ K2 → q ∉ K1
section
variable {w cur cur' W : World} {K1 K2 K L : List Nat} {g g2 r B : Nat} {b1 b2 b : Bool} {v1 v2 v : Value} {m1 m2 m : List Va}
theorem Cs.gr (h : Cs w K1 K2 g g2 r b1 v1 m1 b2 v2 m2 cur) (hg : Gr L cur cur') (h1 : ∀ q, q ∈ L → q ∉ K1) (h2 : ∀ q, q ∈ L → q ∉ K2) (h3 : ∀ q, q ∈ L → v1.ownBlock ≠ some q) (h4 : ∀ q, q ∈ L → v2.ownBlock ≠ some q) (hL : ∀ q, q ∈ L → w.heap.size ≤ q) : Cs w K1 K2 g g2 r b1 v1 m1 b2 v2 m2 cur' :=
  ⟨⟨h.a1.sk.gr hg (fun q hq e => h1 q e hq), h.a1.le, Gr.grown h.a1.grown hg hL⟩, ⟨h.a2.sk.gr hg (fun q hq e => h2 q e hq), h.a2.le, Gr.grown h.a2.grown hg hL⟩, own_gr_any h.l1 hg (fun q e hq => h3 q hq e), own_gr_any h.l2 hg (fun q e hq => h4 q hq e), h.o11, h.o12, h.o21, h.o22, h.ap⟩
theorem Cs.new (h : Cs w K1 K2 g g2 r b1 v1 m1 b2 v2 m2 cur) (hg : cur.grownBy cur' none) : Cs w K1 K2 g g2 r b1 v1 m1 b2 v2 m2 cur' := h.gr (Gr.new (L := []) hg) (by simp) (by simp) (by simp) (by simp) (by simp)
theorem Cs.one (h : Cs w K1 K2 g g2 r b1 v1 m1 b2 v2 m2 cur) (gg : cur.grownBy W none) (hR : Rn W K1 v1 g r K b v m cur') : Cs w K K2 g g2 r b v m b2 v2 m2 cur' := by
  have s := gg.size
  refine ⟨h.a1.new gg |>.write hR.sk hR.kk hR.gr, ⟨(h.a2.sk.new gg).gr hR.gr h.ap, h.a2.le, Gr.grown (h.a1.grown.trans gg) hR.gr h.a1.le⟩, hR.li, own_gr_any (h.l2.new gg) hR.gr h.o21, fun q e => (hR.vv q e).1, fun q e hq => ?_, fun q e hq => ?_, h.o22, fun q hq hq2 => ?_⟩
  · rcases (hR.vv q e).2 with e2 | e2
    · exact h.o12 q e2 hq
    · have := h.a2.sk.lt q hq; omega
  · rcases hR.kk q hq with e2 | e2
    · exact h.o21 q e e2
    · have := h.l2.lt q e; omega
  · rcases hR.kk q hq2 with e2 | e2
    · exact h.ap q hq e2
    · have := h.a2.sk.lt q hq; omega
theorem Cs.turn (h : Cs w K1 K2 g g2 r b1 v1 m1 b2 v2 m2 cur) : Cs w K2 K1 g2 g r b2 v2 m2 b1 v1 m1 cur := ⟨h.a2, h.a1, h.l2, h.l1, h.o22, h.o21, h.o12, h.o11, fun q h1 h2 => h.ap q h2 h1⟩
theorem Cs.two (h : Cs w K1 K2 g g2 r b1 v1 m1 b2 v2 m2 cur) (gg : cur.grownBy W none) (hR : Rn W K2 v2 g2 r K b v m cur') : Cs w K1 K g g2 r b1 v1 m1 b v m cur' := (h.turn.one gg hR).turn
/-- What is written on a boxed book leaves the rest. -/
theorem Cs.set {u : Value} {x : Nat} {y : Bool} (h : Cs w K1 K2 g g2 r b1 v1 m1 b2 v2 m2 cur) (hb : Bk cur B u x y) (hw : w.heap.size ≤ B) (hg : cur.grownBy cur' (some B)) : Cs w K1 K2 g g2 r b1 v1 m1 b2 v2 m2 cur' :=
  h.gr (Gr.one (L := [B]) hg (by simp)) (fun q hq => by rw [List.mem_singleton] at hq; subst hq; exact h.a1.sk.off hb (by decide) (by decide)) (fun q hq => by rw [List.mem_singleton] at hq; subst hq; exact h.a2.sk.off hb (by decide) (by decide))
    (fun q hq => by rw [List.mem_singleton] at hq; subst hq; exact h.l1.off hb (fun cs z => by simp)) (fun q hq => by rw [List.mem_singleton] at hq; subst hq; exact h.l2.off hb (fun cs z => by simp)) (fun q hq => by rw [List.mem_singleton] at hq; subst hq; exact hw)
/-- A book in its box stays while a stack is written. -/
theorem Bk.far {u : Value} {x : Nat} {y : Bool} (h : Bk cur B u x y) (gg : cur.grownBy W none) (hs : Sk cur K g r b m) {K' : List Nat} {v0 v' : Value} {b' : Bool} {m' : List Va} (hR : Rn W K v0 g r K' b' v' m' cur') : Bk cur' B u x y :=
  (h.new gg).gr hR.gr (hs.off h (by decide) (by decide))
end
/-- Behind the run of the first stack: its book lies in a box, beside another one at Bo. -/
def Cq (w : World) (K2 : List Nat) (g g2 r Bo : Nat) (b2 : Bool) (v2 : Value) (m2 : List Va) (p q : Value) (cur : World) : Prop :=
  ∃ (B : Nat) (A' : Option Addr) (N' c' : Nat) (b' : Bool) (m' : List Va) (K' : List Nat), p = .pointer (some ⟨B, 0, none⟩) ∧ q = .bool true ∧ N' = m'.length ∧ Bk cur B (.slice A' N' c') r b' ∧ Bk cur Bo v2 r b2 ∧ Cs w K' K2 g g2 r b' (.slice A' N' c') m' b2 v2 m2 cur
/-- Behind the run of the other one. -/
def Cr (w : World) (K1 : List Nat) (g g2 r Bo : Nat) (b1 : Bool) (v1 : Value) (m1 : List Va) (p q : Value) (cur : World) : Prop :=
  ∃ (B : Nat) (A' : Option Addr) (N' c' : Nat) (b' : Bool) (m' : List Va) (K' : List Nat), p = .pointer (some ⟨B, 0, none⟩) ∧ q = .bool true ∧ N' = m'.length ∧ Bk cur B (.slice A' N' c') r b' ∧ Bk cur Bo v1 r b1 ∧ Cs w K1 K' g g2 r b1 v1 m1 b' (.slice A' N' c') m' cur
section
variable {w cur cur' W : World} {K1 K2 K : List Nat} {g g2 r Bo B : Nat} {b1 b2 b : Bool} {v1 v2 v p q : Value} {m1 m2 m : List Va} {A : Option Addr} {N c : Nat}
theorem Cq.new (h : Cq w K2 g g2 r Bo b2 v2 m2 p q cur) (hg : cur.grownBy cur' none) : Cq w K2 g g2 r Bo b2 v2 m2 p q cur' := by
  obtain ⟨B, A', N', c', b', m', K', h1, h2, h3, h4, h5, h6⟩ := h
  exact ⟨B, A', N', c', b', m', K', h1, h2, h3, h4.new hg, h5.new hg, h6.new hg⟩
theorem Cq.old (S : Cs w K K2 g g2 r b (.slice A N c) m b2 v2 m2 cur) (hN : N = m.length) (X : Bk cur Bo v2 r b2) (D : Bk cur B nl 0 false) (hw : w.heap.size ≤ B) (hB : Bo ≠ B) :
    Cq w K2 g g2 r Bo b2 v2 m2 (.pointer (some ⟨B, 0, none⟩)) (.bool true) (((cur.setCell ⟨B, 0, none⟩ (.slice A N c)).setCell ⟨B, 1, none⟩ (.int .i64 (r : Int))).setCell ⟨B, 2, none⟩ (.bool b)) :=
  ⟨B, A, N, c, b, m, K, rfl, rfl, hN, D.set, X.gr (Gr.one (L := [B]) (grown_three _ _ _ _ _) (by simp)) (by simpa using hB), S.set D hw (grown_three _ _ _ _ _)⟩
theorem Cq.made (S : Cs w K K2 g g2 r b (.slice A N c) m b2 v2 m2 cur) (hN : N = m.length) (X : Bk cur Bo v2 r b2) :
    Cq w K2 g g2 r Bo b2 v2 m2 (.pointer (some ⟨cur.heap.size, 0, none⟩)) (.bool true) (cur.alloc (.cells #[.slice A N c, .int .i64 (r : Int), .bool b] 26)) :=
  ⟨_, A, N, c, b, m, K, rfl, rfl, hN, heap_alloc_new _ _, X.new (World.grownBy_alloc _ _ _), S.new (World.grownBy_alloc _ _ _)⟩
theorem Cr.new (h : Cr w K1 g g2 r Bo b1 v1 m1 p q cur) (hg : cur.grownBy cur' none) : Cr w K1 g g2 r Bo b1 v1 m1 p q cur' := by
  obtain ⟨B, A', N', c', b', m', K', h1, h2, h3, h4, h5, h6⟩ := h
  exact ⟨B, A', N', c', b', m', K', h1, h2, h3, h4.new hg, h5.new hg, h6.new hg⟩
theorem Cr.old (S : Cs w K1 K g g2 r b1 v1 m1 b (.slice A N c) m cur) (hN : N = m.length) (X : Bk cur Bo v1 r b1) (D : Bk cur B nl 0 false) (hw : w.heap.size ≤ B) (hB : Bo ≠ B) :
    Cr w K1 g g2 r Bo b1 v1 m1 (.pointer (some ⟨B, 0, none⟩)) (.bool true) (((cur.setCell ⟨B, 0, none⟩ (.slice A N c)).setCell ⟨B, 1, none⟩ (.int .i64 (r : Int))).setCell ⟨B, 2, none⟩ (.bool b)) :=
  ⟨B, A, N, c, b, m, K, rfl, rfl, hN, D.set, X.gr (Gr.one (L := [B]) (grown_three _ _ _ _ _) (by simp)) (by simpa using hB), S.set D hw (grown_three _ _ _ _ _)⟩
theorem Cr.made (S : Cs w K1 K g g2 r b1 v1 m1 b (.slice A N c) m cur) (hN : N = m.length) (X : Bk cur Bo v1 r b1) :
    Cr w K1 g g2 r Bo b1 v1 m1 (.pointer (some ⟨cur.heap.size, 0, none⟩)) (.bool true) (cur.alloc (.cells #[.slice A N c, .int .i64 (r : Int), .bool b] 26)) :=
  ⟨_, A, N, c, b, m, K, rfl, rfl, hN, heap_alloc_new _ _, X.new (World.grownBy_alloc _ _ _), S.new (World.grownBy_alloc _ _ _)⟩
end
/-- The same beside the boxed books and a stack that New did not make. -/
structure Fs (w : World) (K1 K2 : List Nat) (g g2 r : Nat) (b1 : Bool) (v1 : Value) (m1 : List Va) (b2 : Bool) (v2 : Value) (m2 : List Va) (B13 B15 q : Nat) (cur : World) : Prop where
  cs : Cs w K1 K2 g g2 r b1 v1 m1 b2 v2 m2 cur
  x13 : Bk cur B13 v1 r b1
  x15 : Bk cur B15 v2 r b2
  od : Sk cur [q] q 0 false []
  q1 : q ∉ K1
  q2 : q ∉ K2
  q3 : v1.ownBlock ≠ some q
  q4 : v2.ownBlock ≠ some q
  le : w.heap.size ≤ q
section
variable {w cur cur' W : World} {K1 K2 : List Nat} {g g2 r B13 B15 B19 B21 q : Nat} {b1 b2 : Bool} {v1 v2 : Value} {m1 m2 : List Va}
theorem Fs.new (h : Fs w K1 K2 g g2 r b1 v1 m1 b2 v2 m2 B13 B15 q cur) (hg : cur.grownBy cur' none) : Fs w K1 K2 g g2 r b1 v1 m1 b2 v2 m2 B13 B15 q cur' := ⟨h.cs.new hg, h.x13.new hg, h.x15.new hg, h.od.new hg, h.q1, h.q2, h.q3, h.q4, h.le⟩
theorem Fs.start (h : Cs w K1 K2 g g2 r b1 v1 m1 b2 v2 m2 cur) (x13 : Bk cur B13 v1 r b1) (x15 : Bk cur B15 v2 r b2) : Fs w K1 K2 g g2 r b1 v1 m1 b2 v2 m2 B13 B15 cur.heap.size (cur.alloc (.cells #[.int .i64 0, .bool false, .slice none 0 0] 44)) := by
  have G := World.grownBy_alloc cur (.cells #[.int .i64 0, .bool false, .slice none 0 0] 44) none
  exact ⟨h.new G, x13.new G, x15.new G, Sk.zero cur, fun e => Nat.lt_irrefl _ (h.a1.sk.lt _ e), fun e => Nat.lt_irrefl _ (h.a2.sk.lt _ e), fun e => Nat.lt_irrefl _ (h.l1.lt _ e), fun e => Nat.lt_irrefl _ (h.l2.lt _ e), h.a1.grown.size⟩
/-- And the two entries that were told. -/
structure Gs (w : World) (K1 K2 : List Nat) (g g2 r : Nat) (b1 : Bool) (v1 : Value) (m1 : List Va) (b2 : Bool) (v2 : Value) (m2 : List Va) (B13 B15 q B19 B21 : Nat) (cur : World) : Prop where
  fs : Fs w K1 K2 g g2 r b1 v1 m1 b2 v2 m2 B13 B15 q cur
  e19 : En cur B19 0 0
  e21 : En cur B21 0 0
theorem Gs.new (h : Gs w K1 K2 g g2 r b1 v1 m1 b2 v2 m2 B13 B15 q B19 B21 cur) (hg : cur.grownBy cur' none) : Gs w K1 K2 g g2 r b1 v1 m1 b2 v2 m2 B13 B15 q B19 B21 cur' := ⟨h.fs.new hg, h.e19.new hg, h.e21.new hg⟩
theorem Gs.made (h : Fs w K1 K2 g g2 r b1 v1 m1 b2 v2 m2 B13 B15 q cur) (hg : (cur.alloc (.cells #[.int .i64 0, .int .i64 0] 36)).grownBy W none) :
    Gs w K1 K2 g g2 r b1 v1 m1 b2 v2 m2 B13 B15 q cur.heap.size W.heap.size (W.alloc (.cells #[.int .i64 0, .int .i64 0] 36)) :=
  ⟨((h.new (World.grownBy_alloc _ _ _)).new hg).new (World.grownBy_alloc _ _ _), ((En.made cur 0 0).new hg).new (World.grownBy_alloc _ _ _), En.made W 0 0⟩
/-- The odd one was asked to take an entry. -/
theorem Gs.odd (h : Gs w K1 K2 g g2 r b1 v1 m1 b2 v2 m2 B13 B15 q B19 B21 cur) (hs : Sk cur' [q] q 0 (decide (0 < 0)) []) (hg : Gr [q] cur cur') : Gs w K1 K2 g g2 r b1 v1 m1 b2 v2 m2 B13 B15 q B19 B21 cur' := by
  have n3 : B13 ∉ [q] := h.fs.od.off h.fs.x13 (by decide) (by decide)
  have n5 : B15 ∉ [q] := h.fs.od.off h.fs.x15 (by decide) (by decide)
  have hq : ∀ B, En cur B 0 0 → B ∉ [q] := fun B hB e => by
    rw [List.mem_singleton] at e
    subst e
    obtain ⟨v, ho, _⟩ := h.fs.od
    exact ty_ne hB ho.ob (by decide) rfl
  refine ⟨⟨h.fs.cs.gr hg (fun x hx => ?_) (fun x hx => ?_) (fun x hx => ?_) (fun x hx => ?_) (fun x hx => ?_), h.fs.x13.gr hg n3, h.fs.x15.gr hg n5, hs, h.fs.q1, h.fs.q2, h.fs.q3, h.fs.q4, h.fs.le⟩, h.e19.gr hg (hq _ h.e19), h.e21.gr hg (hq _ h.e21)⟩
  all_goals
    rw [List.mem_singleton] at hx
    subst hx
  · exact h.fs.q1
  · exact h.fs.q2
  · exact h.fs.q3
  · exact h.fs.q4
  · exact h.fs.le
theorem Gs.f (h : Gs w K1 K2 g g2 r b1 v1 m1 b2 v2 m2 B13 B15 q B19 B21 cur) : (cur.cell? ⟨B13, 0, none⟩ = some v1 ∧ cur.cell? ⟨B15, 0, none⟩ = some v2) ∧ (cur.cell? ⟨B19, 0, none⟩ = some (.int .i64 0) ∧ cur.cell? ⟨B19, 1, none⟩ = some (.int .i64 0)) ∧ cur.cell? ⟨B21, 0, none⟩ = some (.int .i64 0) ∧ cur.cell? ⟨B21, 1, none⟩ = some (.int .i64 0) :=
  ⟨⟨h.fs.x13.f.1, h.fs.x15.f.1⟩, ⟨h.e19.f.1, h.e19.f.2.1⟩, h.e21.f.1, h.e21.f.2.1⟩
end
theorem StackClones_any (n : Int) (D1 : Option Addr) (l1 d1 : Nat) (f1 : Nat → Nat → Int) (D2 : Option Addr) (l2 d2 : Nat) (f2 : Nat → Nat → Int) (D3 : Option Addr) (l3 d3 : Nat) (f3 : Nat → Nat → Int) (w : World)
    (ha1 : l1 ≤ d1) (hb1 : d1 ≤ maxLen) (ho1 : Rws w w.heap.size D1 l1 3 f1) (ha2 : l2 ≤ d2) (hb2 : d2 ≤ maxLen) (ho2 : Rws w w.heap.size D2 l2 3 f2) (ha3 : l3 ≤ d3) (hb3 : d3 ≤ maxLen) (ho3 : Rws w w.heap.size D3 l3 3 f3) :
    Calls Try.prog 5 #[.int .i64 n, .slice D1 l1 d1, .slice D2 l2 d2, .slice D3 l3 d3] w fun e w' => e = .returned (.bool true) ∧ w.grownBy w' none := by
  obtain ⟨k, hk, h1, h8⟩ := near_nat n
  have NW := Lib.hid (fun W (hg : w.grownBy W none) => (New_any n k hk h8 W).mono (fun e w' (h : NewA k false [] W e w') => Al.of hg h))
  have NR := Lib.hid (fun w => (show Calls Try.prog 9 #[.int .i64 n, .int .i64 1, .int .i64 256] w (fun e w' => e = .returned (.int .i64 (k : Int)) ∧ w = w') from hk ▸ Near_any n 1 256 w))
  have H1 := Lib.hid h1
  have O1 := Lib.hid ho1
  have O2 := Lib.hid ho2
  have O3 := Lib.hid ho3
  have FW1 := Lib.hid (fun w => few_any D1 l1 d1 w ha1 hb1 ho1.some)
  have FW2 := Lib.hid (fun w => few_any D2 l2 d2 w ha2 hb2 ho2.some)
  have FW3 := Lib.hid (fun w => few_any D3 l3 d3 w ha3 hb3 ho3.some)
  have RB1 := Lib.hid (fun W K g (h : Al w K g k false [] W) l2 c4 hl1 hl2 => run_begin (D := D1) (l2 := l2) (c4 := c4) h1 h ho1 hl1 hl2)
  clear ho1 ho2 ho3 ha1 ha2 ha3 hb1 hb2 hb3 hk
  go_enter Try.func5, Try.ntmps5
  go_upto_region 6 with (first
    | (have mark := S4; go_at_call 14; (with_reducible refine (CL.out).mono ?_); rintro e w5 ⟨g2, K2, rfl, hs, hk, hg⟩; have GA := (World.grownBy_alloc w4 (.cells #[.slice A4 N4 c4, .int .i64 (k : Int), .bool b4] 26) none); have S5 := Lib.hid (show Cs w K4 K2 g g2 k b4 (.slice A4 N4 c4) m4 b4 (.slice A4 N4 c4) m4 w5 from ⟨(S4.out.new GA).new hg, ⟨hs, fun q hq => Nat.le_trans (S4.out.grown.trans GA).size (hk q hq), ((S4.out.grown.trans GA).trans hg)⟩, (L4.out.new GA).new hg, (L4.out.new GA).new hg, O4.out, fun q e hq => (by have := L4.out.lt q e; have := hk q hq; have := GA.size; omega), O4.out, fun q e hq => (by have := L4.out.lt q e; have := hk q hq; have := GA.size; omega), fun q hq hq2 => (by have := S4.out.sk.lt q hq2; have := hk q hq; have := GA.size; omega)⟩); have X5 := Lib.hid (Bk.new (show Bk (w4.alloc (.cells #[.slice A4 N4 c4, .int .i64 (k : Int), .bool b4] 26)) w4.heap.size (.slice A4 N4 c4) k b4 from heap_alloc_new _ _) hg); clear hs hk hg GA)
    | (have mark := L3; go_at_call 7; (with_reducible refine (RB1.out _ _ _ S2.out _ _ L3.out.1 L3.out.2).mono ?_); rintro e w4 ⟨A4, N4, c4, b4, m4, K4, rfl, hN4, hR4⟩; have S4 := Lib.hid (S2.out.write hR4.sk hR4.kk hR4.gr); have L4 := Lib.hid hR4.li; have HN4 := Lib.hid hN4; have O4 := Lib.hid (fun q e => (hR4.vv q e).1); have CL := Lib.hid (Clone_any (S4.out.sk.new (World.grownBy_alloc w4 (.cells #[.slice A4 N4 c4, .int .i64 (k : Int), .bool b4] 26) none)) H1.out); clear hR4 hN4)
    | (go_at_call 10; (with_reducible refine (FW1.out _).mono ?_); rintro e w' ⟨⟨l2', c4', hl1, hl2, rfl⟩, hw⟩; subst hw; have L3 := Lib.hid (⟨hl1, hl2⟩ : l2' ≤ 60 ∧ l2' ≤ l1); clear hl1 hl2)
    | (go_at_call 9; (with_reducible refine (NR.out _).mono ?_); rintro e w' ⟨rfl, hw⟩; subst hw)
    | (go_at_call 8; (with_reducible refine (NW.out _ G1.out).mono ?_); rintro e w2 ⟨g, K, rfl, hs⟩; have S2 := Lib.hid hs; clear hs)
    | (go_at_call 6; (with_reducible refine (alive_any _).mono ?_); rintro e w1 ⟨rfl, hg⟩; have G1 := Lib.hid hg; clear hg))
  clear S2 G1 NW NR FW1 RB1 O1 L3 CL
  have RB := Lib.hid (fun n' d' (h1 : n' ≤ 60) (h2 : n' ≤ l2) W (hg : w5.grownBy W none) => run_any (w := W) (c0 := d') (S5.out.new hg).a1.sk H1.out (S5.out.new hg).l1 HN4.out S5.out.o11 ((O2.out.less h2).kept (S5.out.new hg).a1.grown (by simp)) S5.out.a1.le h1)
  have f5 := X5.out.f
  have n0 : w4.heap.size < w5.heap.size := (Bk.free X5.out).2.2.2
  obtain ⟨B10, hB10⟩ : ∃ B10, w4.heap.size = B10 := ⟨_, rfl⟩
  rw [hB10] at X5 f5 n0 ⊢
  clear hB10 S4 L4 O4
  have n1 : ¬ (B10 = w5.heap.size) := by omega
  have n2 : ¬ (w5.heap.size = B10) := by omega
  go_cut [13, 14] (fun p q wx => Cq w K2 g g2 k B10 b4 (.slice A4 N4 c4) m4 p q wx)
  case first =>
    go_region_held3 (fun W => W.cell? ⟨B10, 0, none⟩ = some (.slice A4 N4 c4) ∧ W.cell? ⟨B10, 1, none⟩ = some (.int .i64 (k : Int)) ∧ W.cell? ⟨B10, 2, none⟩ = some (.bool b4)) (first | exact f5 | exact f6 | go_keep) (first
      | (go_at_call 10; (with_reducible refine (FW2.out _).mono ?_); rintro e w' ⟨⟨n6, d6, hq1, hq2, rfl⟩, hw⟩; subst hw; have HL6 := Lib.hid hq1; have HM6 := Lib.hid hq2; clear hq1 hq2)
      | (go_at_call 7; (with_reducible refine (RB.out _ _ HL6.out HM6.out _ (by first | exact World.grownBy.refl _ _ | exact grown_drew _ _ | exact li.grown_drewN _ _ _ | exact World.grownBy_alloc _ _ _ | exact (World.grownBy_alloc _ _ _).trans (grown_drew _ _) | exact (World.grownBy_alloc _ _ _).trans (li.grown_drewN _ _ _) | exact (grown_drew _ _).trans (World.grownBy_alloc _ _ _) | exact (li.grown_drewN _ _ _).trans (World.grownBy_alloc _ _ _))).mono ?_); rintro e v6 ⟨A6, N6, c6, b6, m6, K6, rfl, hn, hR⟩; have S6 := Lib.hid (S5.out.one (by first | exact World.grownBy.refl _ _ | exact grown_drew _ _ | exact li.grown_drewN _ _ _ | exact World.grownBy_alloc _ _ _ | exact (World.grownBy_alloc _ _ _).trans (grown_drew _ _) | exact (World.grownBy_alloc _ _ _).trans (li.grown_drewN _ _ _) | exact (grown_drew _ _).trans (World.grownBy_alloc _ _ _) | exact (li.grown_drewN _ _ _).trans (World.grownBy_alloc _ _ _)) hR); have HN6 := Lib.hid hn; have X6 := Lib.hid (X5.out.far (by first | exact World.grownBy.refl _ _ | exact grown_drew _ _ | exact li.grown_drewN _ _ _ | exact World.grownBy_alloc _ _ _ | exact (World.grownBy_alloc _ _ _).trans (grown_drew _ _) | exact (World.grownBy_alloc _ _ _).trans (li.grown_drewN _ _ _) | exact (grown_drew _ _).trans (World.grownBy_alloc _ _ _) | exact (li.grown_drewN _ _ _).trans (World.grownBy_alloc _ _ _)) S5.out.a1.sk hR); have f6 := X6.out.f; (first | (have D6 := Lib.hid (Bk.far (cur := w5.alloc (.cells #[.slice none 0 0, .int .i64 0, .bool false] 26)) (B := w5.heap.size) (u := nl) (x := 0) (y := false) (heap_alloc_new _ _) (by first | exact World.grownBy.refl _ _ | exact grown_drew _ _ | exact li.grown_drewN _ _ _) (S5.out.a1.sk.new (World.grownBy_alloc _ _ _)) hR); obtain ⟨d0, d1, d2⟩ := D6.out.f; obtain ⟨z0, z1, z2, lt6⟩ := D6.out.free) | skip); clear hn hR))
    all_goals
      go_wp2
      go_meet
      first | exact Cq.old S6.out HN6.out X6.out D6.out (S5.out.a1.grown.size) (by have := (Bk.free X5.out).2.2.2; omega) | exact (Cq.old S6.out HN6.out X6.out D6.out (S5.out.a1.grown.size) (by have := (Bk.free X5.out).2.2.2; omega)).new (grown_drew _ _) | exact (Cq.old S6.out HN6.out X6.out D6.out (S5.out.a1.grown.size) (by have := (Bk.free X5.out).2.2.2; omega)).new (li.grown_drewN _ _ _) | exact Cq.made S6.out HN6.out X6.out | exact (Cq.made S6.out HN6.out X6.out).new (grown_drew _ _) | exact (Cq.made S6.out HN6.out X6.out).new (li.grown_drewN _ _ _) | exact Cq.made (S6.out.new (grown_drew _ _)) HN6.out (X6.out.new (grown_drew _ _)) | exact (Cq.made (S6.out.new (grown_drew _ _)) HN6.out (X6.out.new (grown_drew _ _))).new (grown_drew _ _) | exact (Cq.made (S6.out.new (grown_drew _ _)) HN6.out (X6.out.new (grown_drew _ _))).new (li.grown_drewN _ _ _) | exact Cq.made (S6.out.new (li.grown_drewN _ _ _)) HN6.out (X6.out.new (li.grown_drewN _ _ _)) | exact (Cq.made (S6.out.new (li.grown_drewN _ _ _)) HN6.out (X6.out.new (li.grown_drewN _ _ _))).new (grown_drew _ _) | exact (Cq.made (S6.out.new (li.grown_drewN _ _ _)) HN6.out (X6.out.new (li.grown_drewN _ _ _))).new (li.grown_drewN _ _ _)
  case rest =>
    obtain ⟨B13, A6, N6, c6, b6, m6, K6, rfl, rfl, hn6, hx13, hx10, hs6⟩ := hcut
    have S6 := Lib.hid hs6
    have X10 := Lib.hid hx10
    have X13 := Lib.hid hx13
    have HN6 := Lib.hid hn6
    clear RB X5 f5 n0 n1 n2 S5 hx13 hx10 hs6 hn6
    go_upto_region 7 with fail
    have RB := Lib.hid (fun n' d' (h1 : n' ≤ 60) (h2 : n' ≤ l3) W (hg : wc.grownBy W none) => run_any (w := W) (c0 := d') (S6.out.new hg).a2.sk H1.out (S6.out.new hg).l2 HN4.out S6.out.o22 ((O3.out.less h2).kept (S6.out.new hg).a2.grown (by simp)) S6.out.a2.le h1)
    have f6 := X10.out.f
    have lt10 : B10 < wc.heap.size := (Bk.free X10.out).2.2.2
    have n1 : ¬ (B10 = wc.heap.size) := by omega
    have n2 : ¬ (wc.heap.size = B10) := by omega
    go_cut [15, 16] (fun p q wx => Cr w K6 g g2 k B13 b6 (.slice A6 N6 c6) m6 p q wx)
    case first =>
      go_region_held3 (fun W => W.cell? ⟨B10, 0, none⟩ = some (.slice A4 N4 c4) ∧ W.cell? ⟨B10, 1, none⟩ = some (.int .i64 (k : Int)) ∧ W.cell? ⟨B10, 2, none⟩ = some (.bool b4)) (first | exact f6 | exact f7 | go_keep) (first
        | (go_at_call 10; (with_reducible refine (FW3.out _).mono ?_); rintro e w' ⟨⟨n7, d7, hq1, hq2, rfl⟩, hw⟩; subst hw; have HL7 := Lib.hid hq1; have HM7 := Lib.hid hq2; clear hq1 hq2)
        | (go_at_call 7; (with_reducible refine (RB.out _ _ HL7.out HM7.out _ (by first | exact World.grownBy.refl _ _ | exact grown_drew _ _ | exact li.grown_drewN _ _ _ | exact World.grownBy_alloc _ _ _ | exact (World.grownBy_alloc _ _ _).trans (grown_drew _ _) | exact (World.grownBy_alloc _ _ _).trans (li.grown_drewN _ _ _) | exact (grown_drew _ _).trans (World.grownBy_alloc _ _ _) | exact (li.grown_drewN _ _ _).trans (World.grownBy_alloc _ _ _))).mono ?_); rintro e v7 ⟨A7, N7, c7, b7, m7, K7, rfl, hn, hR⟩; have S7 := Lib.hid (S6.out.two (by first | exact World.grownBy.refl _ _ | exact grown_drew _ _ | exact li.grown_drewN _ _ _ | exact World.grownBy_alloc _ _ _ | exact (World.grownBy_alloc _ _ _).trans (grown_drew _ _) | exact (World.grownBy_alloc _ _ _).trans (li.grown_drewN _ _ _) | exact (grown_drew _ _).trans (World.grownBy_alloc _ _ _) | exact (li.grown_drewN _ _ _).trans (World.grownBy_alloc _ _ _)) hR); have HN7 := Lib.hid hn; have X7 := Lib.hid (X10.out.far (by first | exact World.grownBy.refl _ _ | exact grown_drew _ _ | exact li.grown_drewN _ _ _ | exact World.grownBy_alloc _ _ _ | exact (World.grownBy_alloc _ _ _).trans (grown_drew _ _) | exact (World.grownBy_alloc _ _ _).trans (li.grown_drewN _ _ _) | exact (grown_drew _ _).trans (World.grownBy_alloc _ _ _) | exact (li.grown_drewN _ _ _).trans (World.grownBy_alloc _ _ _)) S6.out.a2.sk hR); have Y7 := Lib.hid (X13.out.far (by first | exact World.grownBy.refl _ _ | exact grown_drew _ _ | exact li.grown_drewN _ _ _ | exact World.grownBy_alloc _ _ _ | exact (World.grownBy_alloc _ _ _).trans (grown_drew _ _) | exact (World.grownBy_alloc _ _ _).trans (li.grown_drewN _ _ _) | exact (grown_drew _ _).trans (World.grownBy_alloc _ _ _) | exact (li.grown_drewN _ _ _).trans (World.grownBy_alloc _ _ _)) S6.out.a2.sk hR); have f7 := X7.out.f; (first | (have D7 := Lib.hid (Bk.far (cur := wc.alloc (.cells #[.slice none 0 0, .int .i64 0, .bool false] 26)) (B := wc.heap.size) (u := nl) (x := 0) (y := false) (heap_alloc_new _ _) (by first | exact World.grownBy.refl _ _ | exact grown_drew _ _ | exact li.grown_drewN _ _ _) (S6.out.a2.sk.new (World.grownBy_alloc _ _ _)) hR); obtain ⟨d0, d1, d2⟩ := D7.out.f; obtain ⟨z0, z1, z2, lt7⟩ := D7.out.free) | skip); clear hn hR))
      all_goals
        go_wp2
        go_meet
        first | exact Cr.old S7.out HN7.out Y7.out D7.out (S6.out.a1.grown.size) (by have := (Bk.free X13.out).2.2.2; omega) | exact (Cr.old S7.out HN7.out Y7.out D7.out (S6.out.a1.grown.size) (by have := (Bk.free X13.out).2.2.2; omega)).new (grown_drew _ _) | exact (Cr.old S7.out HN7.out Y7.out D7.out (S6.out.a1.grown.size) (by have := (Bk.free X13.out).2.2.2; omega)).new (li.grown_drewN _ _ _) | exact Cr.made S7.out HN7.out Y7.out | exact (Cr.made S7.out HN7.out Y7.out).new (grown_drew _ _) | exact (Cr.made S7.out HN7.out Y7.out).new (li.grown_drewN _ _ _) | exact Cr.made (S7.out.new (grown_drew _ _)) HN7.out (Y7.out.new (grown_drew _ _)) | exact (Cr.made (S7.out.new (grown_drew _ _)) HN7.out (Y7.out.new (grown_drew _ _))).new (grown_drew _ _) | exact (Cr.made (S7.out.new (grown_drew _ _)) HN7.out (Y7.out.new (grown_drew _ _))).new (li.grown_drewN _ _ _) | exact Cr.made (S7.out.new (li.grown_drewN _ _ _)) HN7.out (Y7.out.new (li.grown_drewN _ _ _)) | exact (Cr.made (S7.out.new (li.grown_drewN _ _ _)) HN7.out (Y7.out.new (li.grown_drewN _ _ _))).new (grown_drew _ _) | exact (Cr.made (S7.out.new (li.grown_drewN _ _ _)) HN7.out (Y7.out.new (li.grown_drewN _ _ _))).new (li.grown_drewN _ _ _)
    case rest =>
      obtain ⟨B15, A7, N7, c7, b7, m7, K7, rfl, rfl, hn7, hx15, hx13, hs7⟩ := hcut
      have F9 := Lib.hid (Fs.start hs7 hx13 hx15)
      have HN7 := Lib.hid hn7
      clear hx15 hx13 hs7 hn7 RB X10 f6 lt10 n1 n2 S6 X13
      have SM1 := Lib.hid (fun W A c (B : Nat) x9 x19 x21 (h : Gs w K6 K7 g g2 k b6 (.slice A6 N6 c6) m6 b7 (.slice A7 N7 c7) m7 B13 B15 x9 x19 x21 W) (hv : Rv W B A m6.length c m6) => (same_true m6 A A6 m6.length N6 c c6 _ _ W (by have := h.fs.cs.a1.sk.le; omega) HN6.out.symm hv (h.fs.cs.l1.rv HN6.out)).mono (fun e w' (h : e = .returned (.bool true) ∧ Drew W w') => (show e = .returned (.bool true) ∧ W.grownBy w' none from ⟨h.1, by obtain ⟨q, rfl⟩ := h.2; exact li.grown_drewN _ q none⟩)))
      have SM2 := Lib.hid (fun W A c (B : Nat) x9 x19 x21 (h : Gs w K6 K7 g g2 k b6 (.slice A6 N6 c6) m6 b7 (.slice A7 N7 c7) m7 B13 B15 x9 x19 x21 W) (hv : Rv W B A m7.length c m7) => (same_true m7 A A7 m7.length N7 c c7 _ _ W (by have := h.fs.cs.a2.sk.le; omega) HN7.out.symm hv (h.fs.cs.l2.rv HN7.out)).mono (fun e w' (h : e = .returned (.bool true) ∧ Drew W w') => (show e = .returned (.bool true) ∧ W.grownBy w' none from ⟨h.1, by obtain ⟨q, rfl⟩ := h.2; exact li.grown_drewN _ q none⟩)))
      go_wp2_with (first
        | (have mark := F10; go_at_call 13; (with_reducible refine (Pop_none (F10.out.od.new (World.grownBy_alloc _ _ _))).mono ?_); rintro e w11 ⟨rfl, hg⟩; have F := Lib.hid (Gs.made F10.out hg); clear hg)
        | (have mark := F9; go_at_call 13; (with_reducible refine (Pop_nil _).mono ?_); rintro e w10 ⟨rfl, hg⟩; have F10 := Lib.hid (F9.out.new hg); clear hg))
      obtain ⟨W12, hW12⟩ : ∃ W12, W12 = w11.alloc (.cells #[.int .i64 0, .int .i64 0] 36) := ⟨_, rfl⟩
      obtain ⟨B19, hB19⟩ : ∃ B19, B19 = w10.heap.size := ⟨_, rfl⟩
      obtain ⟨B21, hB21⟩ : ∃ B21, B21 = w11.heap.size := ⟨_, rfl⟩
      obtain ⟨Bo, hBo⟩ : ∃ Bo, Bo = wc.heap.size := ⟨_, rfl⟩
      rw [← hW12, ← hB19, ← hB21, ← hBo] at F
      rw [← hW12, ← hB19, ← hB21, ← hBo]
      clear hW12 hB19 hB21 hBo F9 F10 O2 O3 FW2 FW3 H1 HN4 h1 h8
      dsimp only [List.append]
      have ff := F.out.f
      refine wp_region_held_drew (S := fun W => (W.cell? ⟨B13, 0, none⟩ = some (.slice A6 N6 c6) ∧ W.cell? ⟨B15, 0, none⟩ = some (.slice A7 N7 c7)) ∧ (W.cell? ⟨B19, 0, none⟩ = some (.int .i64 0) ∧ W.cell? ⟨B19, 1, none⟩ = some (.int .i64 0)) ∧ W.cell? ⟨B21, 0, none⟩ = some (.int .i64 0) ∧ W.cell? ⟨B21, 1, none⟩ = some (.int .i64 0)) (by as_aux_lemma => kernel_rfl) ff (fun hHeld => ?_)
      refine wpAnyH_take (i := 0) (oi := ⟨some 67, _, _, _, _, _⟩) (v := .bool true) rfl (by as_aux_lemma => kernel_rfl) (by as_aux_lemma => kernel_rfl) (by as_aux_lemma => kernel_rfl) (fun _ _ _ h => h) (Or.inl ⟨(by as_aux_lemma => kernel_rfl), ?_⟩) (by assumption) ?_
      · (intro w hSw; (try dsimp only at hSw); go_simp)
      try simp only [Act.put, List.setIfInBounds_toArray, List.set_cons_zero, List.set_cons_succ]
      refine wpAnyH_take (i := 1) (oi := ⟨some 68, _, _, _, _, _⟩) (v := .bool true) rfl (by as_aux_lemma => kernel_rfl) (by as_aux_lemma => kernel_rfl) (by as_aux_lemma => kernel_rfl) (fun _ _ _ h => h) (Or.inl ⟨(by as_aux_lemma => kernel_rfl), ?_⟩) (by assumption) ?_
      · (intro w hSw; (try dsimp only at hSw); go_simp)
      try simp only [Act.put, List.setIfInBounds_toArray, List.set_cons_zero, List.set_cons_succ]
      refine wpAnyH_take (i := 2) (oi := ⟨some 69, _, _, _, _, _⟩) (v := .bool true) rfl (by as_aux_lemma => kernel_rfl) (by as_aux_lemma => kernel_rfl) (by as_aux_lemma => kernel_rfl) (fun _ _ _ h => h) (Or.inl ⟨(by as_aux_lemma => kernel_rfl), ?_⟩) (by assumption) ?_
      · (intro w hSw; (try dsimp only at hSw); go_simp)
      try simp only [Act.put, List.setIfInBounds_toArray, List.set_cons_zero, List.set_cons_succ]
      refine wpAnyH_take (i := 3) (oi := ⟨some 70, _, _, _, _, _⟩) (v := .bool true) rfl (by as_aux_lemma => kernel_rfl) (by as_aux_lemma => kernel_rfl) (by as_aux_lemma => kernel_rfl) (fun _ _ _ h => h) (Or.inl ⟨(by as_aux_lemma => kernel_rfl), ?_⟩) (by assumption) ?_
      · (intro w hSw; (try dsimp only at hSw); go_simp)
      try simp only [Act.put, List.setIfInBounds_toArray, List.set_cons_zero, List.set_cons_succ]
      refine wpAnyH_take (i := 4) (oi := ⟨some 71, _, _, _, _, _⟩) (v := .bool true) rfl (by as_aux_lemma => kernel_rfl) (by as_aux_lemma => kernel_rfl) (by as_aux_lemma => kernel_rfl) (fun _ _ _ h => h) (Or.inl ⟨(by as_aux_lemma => kernel_rfl), ?_⟩) (by assumption) ?_
      · (intro w hSw; (try dsimp only at hSw); go_simp)
      try simp only [Act.put, List.setIfInBounds_toArray, List.set_cons_zero, List.set_cons_succ]
      refine wpAnyH_take (i := 5) (oi := ⟨some 72, _, _, _, _, _⟩) (v := .bool true) rfl (by as_aux_lemma => kernel_rfl) (by as_aux_lemma => kernel_rfl) (by as_aux_lemma => kernel_rfl) (fun _ _ _ h => h) (Or.inl ⟨(by as_aux_lemma => kernel_rfl), ?_⟩) (by assumption) ?_
      · (intro w hSw; (try dsimp only at hSw); go_simp)
      try simp only [Act.put, List.setIfInBounds_toArray, List.set_cons_zero, List.set_cons_succ]
      refine wpAnyH_take (i := 6) (oi := ⟨some 73, _, _, _, _, _⟩) (v := .bool true) rfl (by as_aux_lemma => kernel_rfl) (by as_aux_lemma => kernel_rfl) (by as_aux_lemma => kernel_rfl) (fun _ _ _ h => h) (Or.inl ⟨(by as_aux_lemma => kernel_rfl), ?_⟩) (by assumption) ?_
      · (intro w hSw; (try dsimp only at hSw); go_simp)
      try simp only [Act.put, List.setIfInBounds_toArray, List.set_cons_zero, List.set_cons_succ]
      refine wpAnyH_take (i := 7) (oi := ⟨some 74, _, _, _, _, _⟩) (v := .bool true) rfl (by as_aux_lemma => kernel_rfl) (by as_aux_lemma => kernel_rfl) (by as_aux_lemma => kernel_rfl) (fun _ _ _ h => h) (Or.inl ⟨(by as_aux_lemma => kernel_rfl), ?_⟩) (by assumption) ?_
      · (intro w hSw; (try dsimp only at hSw); go_simp)
      try simp only [Act.put, List.setIfInBounds_toArray, List.set_cons_zero, List.set_cons_succ]
      refine wpAnyH_take (i := 8) (oi := ⟨some 75, _, _, _, _, _⟩) (v := .pointer (some ⟨g, 0, none⟩)) rfl (by as_aux_lemma => kernel_rfl) (by as_aux_lemma => kernel_rfl) (by as_aux_lemma => kernel_rfl) (fun _ _ _ h => h) (Or.inl ⟨(by as_aux_lemma => kernel_rfl), ?_⟩) (by assumption) ?_
      · (intro w hSw; (try dsimp only at hSw); go_simp)
      try simp only [Act.put, List.setIfInBounds_toArray, List.set_cons_zero, List.set_cons_succ]
      refine wpAnyH_take (i := 10) (oi := ⟨some 77, _, _, _, _, _⟩) (v := .pointer (some ⟨B13, 0, none⟩)) rfl (by as_aux_lemma => kernel_rfl) (by as_aux_lemma => kernel_rfl) (by as_aux_lemma => kernel_rfl) (fun _ _ _ h => h) (Or.inl ⟨(by as_aux_lemma => kernel_rfl), ?_⟩) (by assumption) ?_
      · (intro w hSw; (try dsimp only at hSw); go_simp)
      try simp only [Act.put, List.setIfInBounds_toArray, List.set_cons_zero, List.set_cons_succ]
      refine wpAnyH_take (i := 11) (oi := ⟨some 78, _, _, _, _, _⟩) (v := .slice A6 N6 c6) rfl (by as_aux_lemma => kernel_rfl) (by as_aux_lemma => kernel_rfl) (by as_aux_lemma => kernel_rfl) (fun _ _ _ h => h) (Or.inl ⟨(by as_aux_lemma => kernel_rfl), ?_⟩) (by assumption) ?_
      · (intro w hSw; (try dsimp only at hSw); go_simp)
      try simp only [Act.put, List.setIfInBounds_toArray, List.set_cons_zero, List.set_cons_succ]
      refine wpAnyH_ready (rs := [9]) (by as_aux_lemma => kernel_rfl) (by simp) (AllReadyH.cons (o := ⟨some 76, _, _, _, _, _⟩) rfl (fun K hK => ?_) AllReadyH.nil)
      go_simp
      (go_at_call 16; (with_reducible refine (All_any (F.out.new (by first | exact World.grownBy.refl _ _ | exact grown_drew _ _ | exact li.grown_drewN _ _ _)).fs.cs.a1.sk).mono ?_); rintro e w9 ⟨A9, c9, rfl, hl9, hg9⟩; replace F := Lib.hid (F.out.new (World.grownBy.trans (by first | exact World.grownBy.refl _ _ | exact grown_drew _ _ | exact li.grown_drewN _ _ _) hg9)); replace ff := F.out.f; have V := Lib.hid (hl9.rv rfl); clear hl9; clear hg9)
      refine hK.out _ _ ff (fun hHeld => ?_)
      clear hK K
      try simp only [Act.put, List.setIfInBounds_toArray, List.set_cons_zero, List.set_cons_succ]
      refine wpAnyH_ready (rs := [12]) (by as_aux_lemma => kernel_rfl) (by simp) (AllReadyH.cons (o := ⟨some 79, _, _, _, _, _⟩) rfl (fun K hK => ?_) AllReadyH.nil)
      go_simp
      (go_at_call 15; (with_reducible refine (SM1.out _ _ _ _ _ _ _ (F.out.new (by first | exact World.grownBy.refl _ _ | exact grown_drew _ _ | exact li.grown_drewN _ _ _)) (V.out.made (by first | exact World.grownBy.refl _ _ | exact grown_drew _ _ | exact li.grown_drewN _ _ _))).mono ?_); rintro e w9 ⟨rfl, hg9⟩; replace F := Lib.hid (F.out.new (World.grownBy.trans (by first | exact World.grownBy.refl _ _ | exact grown_drew _ _ | exact li.grown_drewN _ _ _) hg9)); replace ff := F.out.f; clear V hg9)
      refine hK.out _ _ ff (fun hHeld => ?_)
      clear hK K
      try simp only [Act.put, List.setIfInBounds_toArray, List.set_cons_zero, List.set_cons_succ]
      refine wpAnyH_take (i := 13) (oi := ⟨some 80, _, _, _, _, _⟩) (v := .bool true) rfl (by as_aux_lemma => kernel_rfl) (by as_aux_lemma => kernel_rfl) (by as_aux_lemma => kernel_rfl) (fun _ _ _ h => h) (Or.inl ⟨(by as_aux_lemma => kernel_rfl), ?_⟩) (by assumption) ?_
      · (intro w hSw; (try dsimp only at hSw); go_simp)
      try simp only [Act.put, List.setIfInBounds_toArray, List.set_cons_zero, List.set_cons_succ]
      refine wpAnyH_take (i := 14) (oi := ⟨some 81, _, _, _, _, _⟩) (v := .bool true) rfl (by as_aux_lemma => kernel_rfl) (by as_aux_lemma => kernel_rfl) (by as_aux_lemma => kernel_rfl) (fun _ _ _ h => h) (Or.inl ⟨(by as_aux_lemma => kernel_rfl), ?_⟩) (by assumption) ?_
      · (intro w hSw; (try dsimp only at hSw); go_simp)
      try simp only [Act.put, List.setIfInBounds_toArray, List.set_cons_zero, List.set_cons_succ]
      refine wpAnyH_take (i := 15) (oi := ⟨some 82, _, _, _, _, _⟩) (v := .pointer (some ⟨g2, 0, none⟩)) rfl (by as_aux_lemma => kernel_rfl) (by as_aux_lemma => kernel_rfl) (by as_aux_lemma => kernel_rfl) (fun _ _ _ h => h) (Or.inl ⟨(by as_aux_lemma => kernel_rfl), ?_⟩) (by assumption) ?_
      · (intro w hSw; (try dsimp only at hSw); go_simp)
      try simp only [Act.put, List.setIfInBounds_toArray, List.set_cons_zero, List.set_cons_succ]
      refine wpAnyH_take (i := 17) (oi := ⟨some 84, _, _, _, _, _⟩) (v := .pointer (some ⟨B15, 0, none⟩)) rfl (by as_aux_lemma => kernel_rfl) (by as_aux_lemma => kernel_rfl) (by as_aux_lemma => kernel_rfl) (fun _ _ _ h => h) (Or.inl ⟨(by as_aux_lemma => kernel_rfl), ?_⟩) (by assumption) ?_
      · (intro w hSw; (try dsimp only at hSw); go_simp)
      try simp only [Act.put, List.setIfInBounds_toArray, List.set_cons_zero, List.set_cons_succ]
      refine wpAnyH_take (i := 18) (oi := ⟨some 85, _, _, _, _, _⟩) (v := .slice A7 N7 c7) rfl (by as_aux_lemma => kernel_rfl) (by as_aux_lemma => kernel_rfl) (by as_aux_lemma => kernel_rfl) (fun _ _ _ h => h) (Or.inl ⟨(by as_aux_lemma => kernel_rfl), ?_⟩) (by assumption) ?_
      · (intro w hSw; (try dsimp only at hSw); go_simp)
      try simp only [Act.put, List.setIfInBounds_toArray, List.set_cons_zero, List.set_cons_succ]
      refine wpAnyH_ready (rs := [16]) (by as_aux_lemma => kernel_rfl) (by simp) (AllReadyH.cons (o := ⟨some 83, _, _, _, _, _⟩) rfl (fun K hK => ?_) AllReadyH.nil)
      go_simp
      (go_at_call 16; (with_reducible refine (All_any (F.out.new (by first | exact World.grownBy.refl _ _ | exact grown_drew _ _ | exact li.grown_drewN _ _ _)).fs.cs.a2.sk).mono ?_); rintro e w9 ⟨A9, c9, rfl, hl9, hg9⟩; replace F := Lib.hid (F.out.new (World.grownBy.trans (by first | exact World.grownBy.refl _ _ | exact grown_drew _ _ | exact li.grown_drewN _ _ _) hg9)); replace ff := F.out.f; have V := Lib.hid (hl9.rv rfl); clear hl9; clear hg9)
      refine hK.out _ _ ff (fun hHeld => ?_)
      clear hK K
      try simp only [Act.put, List.setIfInBounds_toArray, List.set_cons_zero, List.set_cons_succ]
      refine wpAnyH_ready (rs := [19]) (by as_aux_lemma => kernel_rfl) (by simp) (AllReadyH.cons (o := ⟨some 86, _, _, _, _, _⟩) rfl (fun K hK => ?_) AllReadyH.nil)
      go_simp
      (go_at_call 15; (with_reducible refine (SM2.out _ _ _ _ _ _ _ (F.out.new (by first | exact World.grownBy.refl _ _ | exact grown_drew _ _ | exact li.grown_drewN _ _ _)) (V.out.made (by first | exact World.grownBy.refl _ _ | exact grown_drew _ _ | exact li.grown_drewN _ _ _))).mono ?_); rintro e w9 ⟨rfl, hg9⟩; replace F := Lib.hid (F.out.new (World.grownBy.trans (by first | exact World.grownBy.refl _ _ | exact grown_drew _ _ | exact li.grown_drewN _ _ _) hg9)); replace ff := F.out.f; clear V hg9)
      refine hK.out _ _ ff (fun hHeld => ?_)
      clear hK K
      try simp only [Act.put, List.setIfInBounds_toArray, List.set_cons_zero, List.set_cons_succ]
      refine wpAnyH_take (i := 20) (oi := ⟨some 87, _, _, _, _, _⟩) (v := .bool true) rfl (by as_aux_lemma => kernel_rfl) (by as_aux_lemma => kernel_rfl) (by as_aux_lemma => kernel_rfl) (fun _ _ _ h => h) (Or.inl ⟨(by as_aux_lemma => kernel_rfl), ?_⟩) (by assumption) ?_
      · (intro w hSw; (try dsimp only at hSw); go_simp)
      try simp only [Act.put, List.setIfInBounds_toArray, List.set_cons_zero, List.set_cons_succ]
      refine wpAnyH_take (i := 21) (oi := ⟨some 88, _, _, _, _, _⟩) (v := .bool true) rfl (by as_aux_lemma => kernel_rfl) (by as_aux_lemma => kernel_rfl) (by as_aux_lemma => kernel_rfl) (fun _ _ _ h => h) (Or.inl ⟨(by as_aux_lemma => kernel_rfl), ?_⟩) (by assumption) ?_
      · (intro w hSw; (try dsimp only at hSw); go_simp)
      try simp only [Act.put, List.setIfInBounds_toArray, List.set_cons_zero, List.set_cons_succ]
      refine wpAnyH_take (i := 22) (oi := ⟨some 89, _, _, _, _, _⟩) (v := .pointer none) rfl (by as_aux_lemma => kernel_rfl) (by as_aux_lemma => kernel_rfl) (by as_aux_lemma => kernel_rfl) (fun _ _ _ h => h) (Or.inl ⟨(by as_aux_lemma => kernel_rfl), ?_⟩) (by assumption) ?_
      · (intro w hSw; (try dsimp only at hSw); go_simp)
      try simp only [Act.put, List.setIfInBounds_toArray, List.set_cons_zero, List.set_cons_succ]
      refine wpAnyH_take (i := 23) (oi := ⟨some 90, _, _, _, _, _⟩) (v := .agg #[.int .i64 0, .int .i64 0]) rfl (by as_aux_lemma => kernel_rfl) (by as_aux_lemma => kernel_rfl) (by as_aux_lemma => kernel_rfl) (fun _ _ _ h => h) (Or.inl ⟨(by as_aux_lemma => kernel_rfl), ?_⟩) (by assumption) ?_
      · (intro w hSw; (try dsimp only at hSw); go_simp)
      try simp only [Act.put, List.setIfInBounds_toArray, List.set_cons_zero, List.set_cons_succ]
      refine wpAnyH_ready (rs := [24]) (by as_aux_lemma => kernel_rfl) (by simp) (AllReadyH.cons (o := ⟨some 91, _, _, _, _, _⟩) rfl (fun K hK => ?_) AllReadyH.nil)
      go_simp
      (go_at_call 11; (with_reducible refine (Push_nil 0 0 _).mono ?_); rintro e w9 ⟨rfl, hg9⟩; replace F := Lib.hid (F.out.new (World.grownBy.trans (by first | exact World.grownBy.refl _ _ | exact grown_drew _ _ | exact li.grown_drewN _ _ _) hg9)); replace ff := F.out.f; clear hg9)
      refine hK.out _ _ ff (fun hHeld => ?_)
      clear hK K
      try simp only [Act.put, List.setIfInBounds_toArray, List.set_cons_zero, List.set_cons_succ]
      refine wpAnyH_take (i := 25) (oi := ⟨some 92, _, _, _, _, _⟩) (v := .bool true) rfl (by as_aux_lemma => kernel_rfl) (by as_aux_lemma => kernel_rfl) (by as_aux_lemma => kernel_rfl) (fun _ _ _ h => h) (Or.inl ⟨(by as_aux_lemma => kernel_rfl), ?_⟩) (by assumption) ?_
      · (intro w hSw; (try dsimp only at hSw); go_simp)
      try simp only [Act.put, List.setIfInBounds_toArray, List.set_cons_zero, List.set_cons_succ]
      refine wpAnyH_take (i := 26) (oi := ⟨some 93, _, _, _, _, _⟩) (v := .bool true) rfl (by as_aux_lemma => kernel_rfl) (by as_aux_lemma => kernel_rfl) (by as_aux_lemma => kernel_rfl) (fun _ _ _ h => h) (Or.inl ⟨(by as_aux_lemma => kernel_rfl), ?_⟩) (by assumption) ?_
      · (intro w hSw; (try dsimp only at hSw); go_simp)
      try simp only [Act.put, List.setIfInBounds_toArray, List.set_cons_zero, List.set_cons_succ]
      refine wpAnyH_take (i := 27) (oi := ⟨some 94, _, _, _, _, _⟩) (v := .bool true) rfl (by as_aux_lemma => kernel_rfl) (by as_aux_lemma => kernel_rfl) (by as_aux_lemma => kernel_rfl) (fun _ _ _ h => h) (Or.inl ⟨(by as_aux_lemma => kernel_rfl), ?_⟩) (by assumption) ?_
      · (intro w hSw; (try dsimp only at hSw); go_simp)
      try simp only [Act.put, List.setIfInBounds_toArray, List.set_cons_zero, List.set_cons_succ]
      refine wpAnyH_take (i := 28) (oi := ⟨some 95, _, _, _, _, _⟩) (v := .pointer (some ⟨Bo, 0, none⟩)) rfl (by as_aux_lemma => kernel_rfl) (by as_aux_lemma => kernel_rfl) (by as_aux_lemma => kernel_rfl) (fun _ _ _ h => h) (Or.inl ⟨(by as_aux_lemma => kernel_rfl), ?_⟩) (by assumption) ?_
      · (intro w hSw; (try dsimp only at hSw); go_simp)
      try simp only [Act.put, List.setIfInBounds_toArray, List.set_cons_zero, List.set_cons_succ]
      refine wpAnyH_take (i := 29) (oi := ⟨some 96, _, _, _, _, _⟩) (v := .agg #[.int .i64 0, .int .i64 0]) rfl (by as_aux_lemma => kernel_rfl) (by as_aux_lemma => kernel_rfl) (by as_aux_lemma => kernel_rfl) (fun _ _ _ h => h) (Or.inl ⟨(by as_aux_lemma => kernel_rfl), ?_⟩) (by assumption) ?_
      · (intro w hSw; (try dsimp only at hSw); go_simp)
      try simp only [Act.put, List.setIfInBounds_toArray, List.set_cons_zero, List.set_cons_succ]
      refine wpAnyH_ready (rs := [30]) (by as_aux_lemma => kernel_rfl) (by simp) (AllReadyH.cons (o := ⟨some 97, _, _, _, _, _⟩) rfl (fun K hK => ?_) AllReadyH.nil)
      go_simp
      (go_at_call 11; (with_reducible refine (Push_no (F.out.new (by first | exact World.grownBy.refl _ _ | exact grown_drew _ _ | exact li.grown_drewN _ _ _)).fs.od rfl 0 0).mono ?_); rintro e w9 ⟨rfl, hs9, hg9⟩; replace F := Lib.hid ((F.out.new (by first | exact World.grownBy.refl _ _ | exact grown_drew _ _ | exact li.grown_drewN _ _ _)).odd hs9 hg9); replace ff := F.out.f; clear hs9 hg9)
      refine hK.out _ _ ff (fun hHeld => ?_)
      clear hK K
      try simp only [Act.put, List.setIfInBounds_toArray, List.set_cons_zero, List.set_cons_succ]
      refine wpAnyH_take (i := 31) (oi := ⟨some 98, _, _, _, _, _⟩) (v := .bool true) rfl (by as_aux_lemma => kernel_rfl) (by as_aux_lemma => kernel_rfl) (by as_aux_lemma => kernel_rfl) (fun _ _ _ h => h) (Or.inl ⟨(by as_aux_lemma => kernel_rfl), ?_⟩) (by assumption) ?_
      · (intro w hSw; (try dsimp only at hSw); go_simp)
      try simp only [Act.put, List.setIfInBounds_toArray, List.set_cons_zero, List.set_cons_succ]
      refine wpAnyH_take (i := 32) (oi := ⟨some 99, _, _, _, _, _⟩) (v := .bool true) rfl (by as_aux_lemma => kernel_rfl) (by as_aux_lemma => kernel_rfl) (by as_aux_lemma => kernel_rfl) (fun _ _ _ h => h) (Or.inl ⟨(by as_aux_lemma => kernel_rfl), ?_⟩) (by assumption) ?_
      · (intro w hSw; (try dsimp only at hSw); go_simp)
      try simp only [Act.put, List.setIfInBounds_toArray, List.set_cons_zero, List.set_cons_succ]
      refine wpAnyH_take (i := 33) (oi := ⟨some 100, _, _, _, _, _⟩) (v := .bool true) rfl (by as_aux_lemma => kernel_rfl) (by as_aux_lemma => kernel_rfl) (by as_aux_lemma => kernel_rfl) (fun _ _ _ h => h) (Or.inl ⟨(by as_aux_lemma => kernel_rfl), ?_⟩) (by assumption) ?_
      · (intro w hSw; (try dsimp only at hSw); go_simp)
      try simp only [Act.put, List.setIfInBounds_toArray, List.set_cons_zero, List.set_cons_succ]
      refine wpAnyH_take (i := 34) (oi := ⟨some 101, _, _, _, _, _⟩) (v := .agg #[.int .i64 0, .int .i64 0]) rfl (by as_aux_lemma => kernel_rfl) (by as_aux_lemma => kernel_rfl) (by as_aux_lemma => kernel_rfl) (fun _ _ _ h => h) (Or.inl ⟨(by as_aux_lemma => kernel_rfl), ?_⟩) (by assumption) ?_
      · (intro w hSw; (try dsimp only at hSw); go_simp)
      try simp only [Act.put, List.setIfInBounds_toArray, List.set_cons_zero, List.set_cons_succ]
      refine wpAnyH_take (i := 35) (oi := ⟨some 102, _, _, _, _, _⟩) (v := .agg #[.int .i64 0, .int .i64 0]) rfl (by as_aux_lemma => kernel_rfl) (by as_aux_lemma => kernel_rfl) (by as_aux_lemma => kernel_rfl) (fun _ _ _ h => h) (Or.inl ⟨(by as_aux_lemma => kernel_rfl), ?_⟩) (by assumption) ?_
      · (intro w hSw; (try dsimp only at hSw); go_simp)
      try simp only [Act.put, List.setIfInBounds_toArray, List.set_cons_zero, List.set_cons_succ]
      refine wpAnyH_take (i := 36) (oi := ⟨some 103, _, _, _, _, _⟩) (v := .bool true) rfl (by as_aux_lemma => kernel_rfl) (by as_aux_lemma => kernel_rfl) (by as_aux_lemma => kernel_rfl) (fun _ _ _ h => h) (Or.inl ⟨(by as_aux_lemma => kernel_rfl), ?_⟩) (by assumption) ?_
      · (intro w hSw; (try dsimp only at hSw); go_simp)
      try simp only [Act.put, List.setIfInBounds_toArray, List.set_cons_zero, List.set_cons_succ]
      refine wpAnyH_take (i := 37) (oi := ⟨some 104, _, _, _, _, _⟩) (v := .bool true) rfl (by as_aux_lemma => kernel_rfl) (by as_aux_lemma => kernel_rfl) (by as_aux_lemma => kernel_rfl) (fun _ _ _ h => h) (Or.inl ⟨(by as_aux_lemma => kernel_rfl), ?_⟩) (by assumption) ?_
      · (intro w hSw; (try dsimp only at hSw); go_simp)
      try simp only [Act.put, List.setIfInBounds_toArray, List.set_cons_zero, List.set_cons_succ]
      refine wpAnyH_take (i := 38) (oi := ⟨some 105, _, _, _, _, _⟩) (v := .bool true) rfl (by as_aux_lemma => kernel_rfl) (by as_aux_lemma => kernel_rfl) (by as_aux_lemma => kernel_rfl) (fun _ _ _ h => h) (Or.inl ⟨(by as_aux_lemma => kernel_rfl), ?_⟩) (by assumption) ?_
      · (intro w hSw; (try dsimp only at hSw); go_simp)
      try simp only [Act.put, List.setIfInBounds_toArray, List.set_cons_zero, List.set_cons_succ]
      refine wpAnyH_take (i := 39) (oi := ⟨some 106, _, _, _, _, _⟩) (v := .bool false) rfl (by as_aux_lemma => kernel_rfl) (by as_aux_lemma => kernel_rfl) (by as_aux_lemma => kernel_rfl) (fun _ _ _ h => h) (Or.inl ⟨(by as_aux_lemma => kernel_rfl), ?_⟩) (by assumption) ?_
      · (intro w hSw; (try dsimp only at hSw); go_simp)
      try simp only [Act.put, List.setIfInBounds_toArray, List.set_cons_zero, List.set_cons_succ]
      refine wpAnyH_take (i := 40) (oi := ⟨some 107, _, _, _, _, _⟩) (v := .bool true) rfl (by as_aux_lemma => kernel_rfl) (by as_aux_lemma => kernel_rfl) (by as_aux_lemma => kernel_rfl) (fun _ _ _ h => h) (Or.inl ⟨(by as_aux_lemma => kernel_rfl), ?_⟩) (by assumption) ?_
      · (intro w hSw; (try dsimp only at hSw); go_simp)
      try simp only [Act.put, List.setIfInBounds_toArray, List.set_cons_zero, List.set_cons_succ]
      refine wpAnyH_take (i := 41) (oi := ⟨some 108, _, _, _, _, _⟩) (v := .bool true) rfl (by as_aux_lemma => kernel_rfl) (by as_aux_lemma => kernel_rfl) (by as_aux_lemma => kernel_rfl) (fun _ _ _ h => h) (Or.inl ⟨(by as_aux_lemma => kernel_rfl), ?_⟩) (by assumption) ?_
      · (intro w hSw; (try dsimp only at hSw); go_simp)
      try simp only [Act.put, List.setIfInBounds_toArray, List.set_cons_zero, List.set_cons_succ]
      refine wpAnyH_take (i := 42) (oi := ⟨some 109, _, _, _, _, _⟩) (v := .bool true) rfl (by as_aux_lemma => kernel_rfl) (by as_aux_lemma => kernel_rfl) (by as_aux_lemma => kernel_rfl) (fun _ _ _ h => h) (Or.inl ⟨(by as_aux_lemma => kernel_rfl), ?_⟩) (by assumption) ?_
      · (intro w hSw; (try dsimp only at hSw); go_simp)
      try simp only [Act.put, List.setIfInBounds_toArray, List.set_cons_zero, List.set_cons_succ]
      refine wpAnyH_take (i := 43) (oi := ⟨some 110, _, _, _, _, _⟩) (v := .agg #[.int .i64 0, .int .i64 0]) rfl (by as_aux_lemma => kernel_rfl) (by as_aux_lemma => kernel_rfl) (by as_aux_lemma => kernel_rfl) (fun _ _ _ h => h) (Or.inl ⟨(by as_aux_lemma => kernel_rfl), ?_⟩) (by assumption) ?_
      · (intro w hSw; (try dsimp only at hSw); go_simp)
      try simp only [Act.put, List.setIfInBounds_toArray, List.set_cons_zero, List.set_cons_succ]
      refine wpAnyH_take (i := 44) (oi := ⟨some 111, _, _, _, _, _⟩) (v := .agg #[.int .i64 0, .int .i64 0]) rfl (by as_aux_lemma => kernel_rfl) (by as_aux_lemma => kernel_rfl) (by as_aux_lemma => kernel_rfl) (fun _ _ _ h => h) (Or.inl ⟨(by as_aux_lemma => kernel_rfl), ?_⟩) (by assumption) ?_
      · (intro w hSw; (try dsimp only at hSw); go_simp)
      try simp only [Act.put, List.setIfInBounds_toArray, List.set_cons_zero, List.set_cons_succ]
      refine wpAnyH_take (i := 45) (oi := ⟨some 112, _, _, _, _, _⟩) (v := .bool true) rfl (by as_aux_lemma => kernel_rfl) (by as_aux_lemma => kernel_rfl) (by as_aux_lemma => kernel_rfl) (fun _ _ _ h => h) (Or.inl ⟨(by as_aux_lemma => kernel_rfl), ?_⟩) (by assumption) ?_
      · (intro w hSw; (try dsimp only at hSw); go_simp)
      try simp only [Act.put, List.setIfInBounds_toArray, List.set_cons_zero, List.set_cons_succ]
      refine wpAnyH_take (i := 46) (oi := ⟨some 113, _, _, _, _, _⟩) (v := .bool true) rfl (by as_aux_lemma => kernel_rfl) (by as_aux_lemma => kernel_rfl) (by as_aux_lemma => kernel_rfl) (fun _ _ _ h => h) (Or.inl ⟨(by as_aux_lemma => kernel_rfl), ?_⟩) (by assumption) ?_
      · (intro w hSw; (try dsimp only at hSw); go_simp)
      try simp only [Act.put, List.setIfInBounds_toArray, List.set_cons_zero, List.set_cons_succ]
      refine wpAnyH_take (i := 47) (oi := ⟨some 114, _, _, _, _, _⟩) (v := .bool true) rfl (by as_aux_lemma => kernel_rfl) (by as_aux_lemma => kernel_rfl) (by as_aux_lemma => kernel_rfl) (fun _ _ _ h => h) (Or.inl ⟨(by as_aux_lemma => kernel_rfl), ?_⟩) (by assumption) ?_
      · (intro w hSw; (try dsimp only at hSw); go_simp)
      try simp only [Act.put, List.setIfInBounds_toArray, List.set_cons_zero, List.set_cons_succ]
      refine wpAnyH_take (i := 48) (oi := ⟨some 115, _, _, _, _, _⟩) (v := .bool false) rfl (by as_aux_lemma => kernel_rfl) (by as_aux_lemma => kernel_rfl) (by as_aux_lemma => kernel_rfl) (fun _ _ _ h => h) (Or.inl ⟨(by as_aux_lemma => kernel_rfl), ?_⟩) (by assumption) ?_
      · (intro w hSw; (try dsimp only at hSw); go_simp)
      try simp only [Act.put, List.setIfInBounds_toArray, List.set_cons_zero, List.set_cons_succ]
      refine wpAnyH_take (i := 49) (oi := ⟨some 116, _, _, _, _, _⟩) (v := .bool true) rfl (by as_aux_lemma => kernel_rfl) (by as_aux_lemma => kernel_rfl) (by as_aux_lemma => kernel_rfl) (fun _ _ _ h => h) (Or.inl ⟨(by as_aux_lemma => kernel_rfl), ?_⟩) (by assumption) ?_
      · (intro w hSw; (try dsimp only at hSw); go_simp)
      try simp only [Act.put, List.setIfInBounds_toArray, List.set_cons_zero, List.set_cons_succ]
      refine wpAnyH_take (i := 50) (oi := ⟨some 117, _, _, _, _, _⟩) (v := .bool true) rfl (by as_aux_lemma => kernel_rfl) (by as_aux_lemma => kernel_rfl) (by as_aux_lemma => kernel_rfl) (fun _ _ _ h => h) (Or.inl ⟨(by as_aux_lemma => kernel_rfl), ?_⟩) (by assumption) ?_
      · (intro w hSw; (try dsimp only at hSw); go_simp)
      try simp only [Act.put, List.setIfInBounds_toArray, List.set_cons_zero, List.set_cons_succ]
      refine wpAnyH_take (i := 51) (oi := ⟨some 118, _, _, _, _, _⟩) (v := .bool true) rfl (by as_aux_lemma => kernel_rfl) (by as_aux_lemma => kernel_rfl) (by as_aux_lemma => kernel_rfl) (fun _ _ _ h => h) (Or.inl ⟨(by as_aux_lemma => kernel_rfl), ?_⟩) (by assumption) ?_
      · (intro w hSw; (try dsimp only at hSw); go_simp)
      try simp only [Act.put, List.setIfInBounds_toArray, List.set_cons_zero, List.set_cons_succ]
      refine wpAnyH_take (i := 52) (oi := ⟨some 119, _, _, _, _, _⟩) (v := .pointer none) rfl (by as_aux_lemma => kernel_rfl) (by as_aux_lemma => kernel_rfl) (by as_aux_lemma => kernel_rfl) (fun _ _ _ h => h) (Or.inl ⟨(by as_aux_lemma => kernel_rfl), ?_⟩) (by assumption) ?_
      · (intro w hSw; (try dsimp only at hSw); go_simp)
      try simp only [Act.put, List.setIfInBounds_toArray, List.set_cons_zero, List.set_cons_succ]
      refine wpAnyH_ready (rs := [53]) (by as_aux_lemma => kernel_rfl) (by simp) (AllReadyH.cons (o := ⟨some 120, _, _, _, _, _⟩) rfl (fun K hK => ?_) AllReadyH.nil)
      go_simp
      (go_at_call 17; (with_reducible refine (Len_nil _).mono ?_); rintro e w9 ⟨rfl, hg9⟩; replace F := Lib.hid (F.out.new (World.grownBy.trans (by first | exact World.grownBy.refl _ _ | exact grown_drew _ _ | exact li.grown_drewN _ _ _) hg9)); replace ff := F.out.f; clear hg9)
      refine hK.out _ _ ff (fun hHeld => ?_)
      clear hK K
      try simp only [Act.put, List.setIfInBounds_toArray, List.set_cons_zero, List.set_cons_succ]
      refine wpAnyH_take (i := 54) (oi := ⟨some 121, _, _, _, _, _⟩) (v := .bool true) rfl (by as_aux_lemma => kernel_rfl) (by as_aux_lemma => kernel_rfl) (by as_aux_lemma => kernel_rfl) (fun _ _ _ h => h) (Or.inl ⟨(by as_aux_lemma => kernel_rfl), ?_⟩) (by assumption) ?_
      · (intro w hSw; (try dsimp only at hSw); go_simp)
      try simp only [Act.put, List.setIfInBounds_toArray, List.set_cons_zero, List.set_cons_succ]
      refine wpAnyH_take (i := 55) (oi := ⟨some 122, _, _, _, _, _⟩) (v := .bool true) rfl (by as_aux_lemma => kernel_rfl) (by as_aux_lemma => kernel_rfl) (by as_aux_lemma => kernel_rfl) (fun _ _ _ h => h) (Or.inl ⟨(by as_aux_lemma => kernel_rfl), ?_⟩) (by assumption) ?_
      · (intro w hSw; (try dsimp only at hSw); go_simp)
      try simp only [Act.put, List.setIfInBounds_toArray, List.set_cons_zero, List.set_cons_succ]
      refine wpAnyH_take (i := 56) (oi := ⟨some 123, _, _, _, _, _⟩) (v := .bool true) rfl (by as_aux_lemma => kernel_rfl) (by as_aux_lemma => kernel_rfl) (by as_aux_lemma => kernel_rfl) (fun _ _ _ h => h) (Or.inl ⟨(by as_aux_lemma => kernel_rfl), ?_⟩) (by assumption) ?_
      · (intro w hSw; (try dsimp only at hSw); go_simp)
      try simp only [Act.put, List.setIfInBounds_toArray, List.set_cons_zero, List.set_cons_succ]
      refine wpAnyH_take (i := 57) (oi := ⟨some 124, _, _, _, _, _⟩) (v := .pointer none) rfl (by as_aux_lemma => kernel_rfl) (by as_aux_lemma => kernel_rfl) (by as_aux_lemma => kernel_rfl) (fun _ _ _ h => h) (Or.inl ⟨(by as_aux_lemma => kernel_rfl), ?_⟩) (by assumption) ?_
      · (intro w hSw; (try dsimp only at hSw); go_simp)
      try simp only [Act.put, List.setIfInBounds_toArray, List.set_cons_zero, List.set_cons_succ]
      refine wpAnyH_ready (rs := [58]) (by as_aux_lemma => kernel_rfl) (by simp) (AllReadyH.cons (o := ⟨some 125, _, _, _, _, _⟩) rfl (fun K hK => ?_) AllReadyH.nil)
      go_simp
      (go_at_call 12; (with_reducible refine (Over_nil _).mono ?_); rintro e w9 ⟨rfl, hg9⟩; replace F := Lib.hid (F.out.new (World.grownBy.trans (by first | exact World.grownBy.refl _ _ | exact grown_drew _ _ | exact li.grown_drewN _ _ _) hg9)); replace ff := F.out.f; clear hg9)
      refine hK.out _ _ ff (fun hHeld => ?_)
      clear hK K
      try simp only [Act.put, List.setIfInBounds_toArray, List.set_cons_zero, List.set_cons_succ]
      refine wpAnyH_take (i := 59) (oi := ⟨some 126, _, _, _, _, _⟩) (v := .bool true) rfl (by as_aux_lemma => kernel_rfl) (by as_aux_lemma => kernel_rfl) (by as_aux_lemma => kernel_rfl) (fun _ _ _ h => h) (Or.inl ⟨(by as_aux_lemma => kernel_rfl), ?_⟩) (by assumption) ?_
      · (intro w hSw; (try dsimp only at hSw); go_simp)
      try simp only [Act.put, List.setIfInBounds_toArray, List.set_cons_zero, List.set_cons_succ]
      refine wpAnyH_take (i := 60) (oi := ⟨some 127, _, _, _, _, _⟩) (v := .bool true) rfl (by as_aux_lemma => kernel_rfl) (by as_aux_lemma => kernel_rfl) (by as_aux_lemma => kernel_rfl) (fun _ _ _ h => h) (Or.inl ⟨(by as_aux_lemma => kernel_rfl), ?_⟩) (by assumption) ?_
      · (intro w hSw; (try dsimp only at hSw); go_simp)
      try simp only [Act.put, List.setIfInBounds_toArray, List.set_cons_zero, List.set_cons_succ]
      refine wpAnyH_take (i := 61) (oi := ⟨some 128, _, _, _, _, _⟩) (v := .bool true) rfl (by as_aux_lemma => kernel_rfl) (by as_aux_lemma => kernel_rfl) (by as_aux_lemma => kernel_rfl) (fun _ _ _ h => h) (Or.inl ⟨(by as_aux_lemma => kernel_rfl), ?_⟩) (by assumption) ?_
      · (intro w hSw; (try dsimp only at hSw); go_simp)
      try simp only [Act.put, List.setIfInBounds_toArray, List.set_cons_zero, List.set_cons_succ]
      refine wpAnyH_take (i := 62) (oi := ⟨some 129, _, _, _, _, _⟩) (v := .pointer (some ⟨Bo, 0, none⟩)) rfl (by as_aux_lemma => kernel_rfl) (by as_aux_lemma => kernel_rfl) (by as_aux_lemma => kernel_rfl) (fun _ _ _ h => h) (Or.inl ⟨(by as_aux_lemma => kernel_rfl), ?_⟩) (by assumption) ?_
      · (intro w hSw; (try dsimp only at hSw); go_simp)
      try simp only [Act.put, List.setIfInBounds_toArray, List.set_cons_zero, List.set_cons_succ]
      refine wpAnyH_ready (rs := [63]) (by as_aux_lemma => kernel_rfl) (by simp) (AllReadyH.cons (o := ⟨some 130, _, _, _, _, _⟩) rfl (fun K hK => ?_) AllReadyH.nil)
      go_simp
      (go_at_call 12; (with_reducible refine (Over_any (F.out.new (by first | exact World.grownBy.refl _ _ | exact grown_drew _ _ | exact li.grown_drewN _ _ _)).fs.od).mono ?_); rintro e w' ⟨rfl, hw⟩; subst hw)
      refine hK.out _ _ ff (fun hHeld => ?_)
      clear hK K
      try simp only [Act.put, List.setIfInBounds_toArray, List.set_cons_zero, List.set_cons_succ]
      refine wpAnyH_take (i := 64) (oi := ⟨some 131, _, _, _, _, _⟩) (v := .bool true) rfl (by as_aux_lemma => kernel_rfl) (by as_aux_lemma => kernel_rfl) (by as_aux_lemma => kernel_rfl) (fun _ _ _ h => h) (Or.inl ⟨(by as_aux_lemma => kernel_rfl), ?_⟩) (by assumption) ?_
      · (intro w hSw; (try dsimp only at hSw); go_simp)
      try simp only [Act.put, List.setIfInBounds_toArray, List.set_cons_zero, List.set_cons_succ]
      refine wpAnyH_take (i := 65) (oi := ⟨some 132, _, _, _, _, _⟩) (v := .bool true) rfl (by as_aux_lemma => kernel_rfl) (by as_aux_lemma => kernel_rfl) (by as_aux_lemma => kernel_rfl) (fun _ _ _ h => h) (Or.inl ⟨(by as_aux_lemma => kernel_rfl), ?_⟩) (by assumption) ?_
      · (intro w hSw; (try dsimp only at hSw); go_simp)
      try simp only [Act.put, List.setIfInBounds_toArray, List.set_cons_zero, List.set_cons_succ]
      refine wpAnyH_take (i := 66) (oi := ⟨some 133, _, _, _, _, _⟩) (v := .bool true) rfl (by as_aux_lemma => kernel_rfl) (by as_aux_lemma => kernel_rfl) (by as_aux_lemma => kernel_rfl) (fun _ _ _ h => h) (Or.inl ⟨(by as_aux_lemma => kernel_rfl), ?_⟩) (by assumption) ?_
      · (intro w hSw; (try dsimp only at hSw); go_simp)
      try simp only [Act.put, List.setIfInBounds_toArray, List.set_cons_zero, List.set_cons_succ]
      refine wpAnyH_take (i := 67) (oi := ⟨some 134, _, _, _, _, _⟩) (v := .pointer none) rfl (by as_aux_lemma => kernel_rfl) (by as_aux_lemma => kernel_rfl) (by as_aux_lemma => kernel_rfl) (fun _ _ _ h => h) (Or.inl ⟨(by as_aux_lemma => kernel_rfl), ?_⟩) (by assumption) ?_
      · (intro w hSw; (try dsimp only at hSw); go_simp)
      try simp only [Act.put, List.setIfInBounds_toArray, List.set_cons_zero, List.set_cons_succ]
      refine wpAnyH_ready (rs := [68]) (by as_aux_lemma => kernel_rfl) (by simp) (AllReadyH.cons (o := ⟨some 135, _, _, _, _, _⟩) rfl (fun K hK => ?_) AllReadyH.nil)
      go_simp
      (go_at_call 18; (with_reducible refine (Settle_nil _).mono ?_); rintro e w9 ⟨rfl, hg9⟩; replace F := Lib.hid (F.out.new (World.grownBy.trans (by first | exact World.grownBy.refl _ _ | exact grown_drew _ _ | exact li.grown_drewN _ _ _) hg9)); replace ff := F.out.f; clear hg9)
      refine hK.out _ _ ff (fun hHeld => ?_)
      clear hK K
      try simp only [Act.put, List.setIfInBounds_toArray, List.set_cons_zero, List.set_cons_succ]
      refine wpAnyH_take (i := 69) (oi := ⟨some 136, _, _, _, _, _⟩) (v := .bool true) rfl (by as_aux_lemma => kernel_rfl) (by as_aux_lemma => kernel_rfl) (by as_aux_lemma => kernel_rfl) (fun _ _ _ h => h) (Or.inl ⟨(by as_aux_lemma => kernel_rfl), ?_⟩) (by assumption) ?_
      · (intro w hSw; (try dsimp only at hSw); go_simp)
      try simp only [Act.put, List.setIfInBounds_toArray, List.set_cons_zero, List.set_cons_succ]
      refine wpAnyH_take (i := 70) (oi := ⟨some 137, _, _, _, _, _⟩) (v := .bool true) rfl (by as_aux_lemma => kernel_rfl) (by as_aux_lemma => kernel_rfl) (by as_aux_lemma => kernel_rfl) (fun _ _ _ h => h) (Or.inl ⟨(by as_aux_lemma => kernel_rfl), ?_⟩) (by assumption) ?_
      · (intro w hSw; (try dsimp only at hSw); go_simp)
      try simp only [Act.put, List.setIfInBounds_toArray, List.set_cons_zero, List.set_cons_succ]
      refine wpAnyH_take (i := 71) (oi := ⟨some 138, _, _, _, _, _⟩) (v := .bool true) rfl (by as_aux_lemma => kernel_rfl) (by as_aux_lemma => kernel_rfl) (by as_aux_lemma => kernel_rfl) (fun _ _ _ h => h) (Or.inl ⟨(by as_aux_lemma => kernel_rfl), ?_⟩) (by assumption) ?_
      · (intro w hSw; (try dsimp only at hSw); go_simp)
      try simp only [Act.put, List.setIfInBounds_toArray, List.set_cons_zero, List.set_cons_succ]
      refine wpAnyH_take (i := 72) (oi := ⟨some 139, _, _, _, _, _⟩) (v := .pointer none) rfl (by as_aux_lemma => kernel_rfl) (by as_aux_lemma => kernel_rfl) (by as_aux_lemma => kernel_rfl) (fun _ _ _ h => h) (Or.inl ⟨(by as_aux_lemma => kernel_rfl), ?_⟩) (by assumption) ?_
      · (intro w hSw; (try dsimp only at hSw); go_simp)
      try simp only [Act.put, List.setIfInBounds_toArray, List.set_cons_zero, List.set_cons_succ]
      refine wpAnyH_ready (rs := [73]) (by as_aux_lemma => kernel_rfl) (by simp) (AllReadyH.cons (o := ⟨some 140, _, _, _, _, _⟩) rfl (fun K hK => ?_) AllReadyH.nil)
      go_simp
      (go_at_call 16; (with_reducible refine (All_nil _).mono ?_); rintro e w9 ⟨⟨A9, c9, rfl⟩, hg9⟩; replace F := Lib.hid (F.out.new (World.grownBy.trans (by first | exact World.grownBy.refl _ _ | exact grown_drew _ _ | exact li.grown_drewN _ _ _) hg9)); replace ff := F.out.f; clear hg9)
      refine hK.out _ _ ff (fun hHeld => ?_)
      clear hK K
      try simp only [Act.put, List.setIfInBounds_toArray, List.set_cons_zero, List.set_cons_succ]
      refine wpAnyH_take (i := 74) (oi := ⟨some 141, _, _, _, _, _⟩) (v := .int .i64 0) rfl (by as_aux_lemma => kernel_rfl) (by as_aux_lemma => kernel_rfl) (by as_aux_lemma => kernel_rfl) (fun _ _ _ h => h) (Or.inl ⟨(by as_aux_lemma => kernel_rfl), ?_⟩) (by assumption) ?_
      · (intro w hSw; (try dsimp only at hSw); go_simp)
      try simp only [Act.put, List.setIfInBounds_toArray, List.set_cons_zero, List.set_cons_succ]
      refine wpAnyH_take (i := 75) (oi := ⟨some 142, _, _, _, _, _⟩) (v := .bool true) rfl (by as_aux_lemma => kernel_rfl) (by as_aux_lemma => kernel_rfl) (by as_aux_lemma => kernel_rfl) (fun _ _ _ h => h) (Or.inl ⟨(by as_aux_lemma => kernel_rfl), ?_⟩) (by assumption) ?_
      · (intro w hSw; (try dsimp only at hSw); go_simp)
      try simp only [Act.put, List.setIfInBounds_toArray, List.set_cons_zero, List.set_cons_succ]
      refine wpAnyH_take (i := 76) (oi := ⟨some 143, _, _, _, _, _⟩) (v := .bool true) rfl (by as_aux_lemma => kernel_rfl) (by as_aux_lemma => kernel_rfl) (by as_aux_lemma => kernel_rfl) (fun _ _ _ h => h) (Or.inl ⟨(by as_aux_lemma => kernel_rfl), ?_⟩) (by assumption) ?_
      · (intro w hSw; (try dsimp only at hSw); go_simp)
      try simp only [Act.put, List.setIfInBounds_toArray, List.set_cons_zero, List.set_cons_succ]
      refine wpAnyH_take (i := 77) (oi := ⟨some 144, _, _, _, _, _⟩) (v := .bool true) rfl (by as_aux_lemma => kernel_rfl) (by as_aux_lemma => kernel_rfl) (by as_aux_lemma => kernel_rfl) (fun _ _ _ h => h) (Or.inl ⟨(by as_aux_lemma => kernel_rfl), ?_⟩) (by assumption) ?_
      · (intro w hSw; (try dsimp only at hSw); go_simp)
      try simp only [Act.put, List.setIfInBounds_toArray, List.set_cons_zero, List.set_cons_succ]
      refine wpAnyH_take (i := 78) (oi := ⟨some 145, _, _, _, _, _⟩) (v := .pointer none) rfl (by as_aux_lemma => kernel_rfl) (by as_aux_lemma => kernel_rfl) (by as_aux_lemma => kernel_rfl) (fun _ _ _ h => h) (Or.inl ⟨(by as_aux_lemma => kernel_rfl), ?_⟩) (by assumption) ?_
      · (intro w hSw; (try dsimp only at hSw); go_simp)
      try simp only [Act.put, List.setIfInBounds_toArray, List.set_cons_zero, List.set_cons_succ]
      refine wpAnyH_ready (rs := [79]) (by as_aux_lemma => kernel_rfl) (by simp) (AllReadyH.cons (o := ⟨some 146, _, _, _, _, _⟩) rfl (fun K hK => ?_) AllReadyH.nil)
      go_simp
      (go_at_call 14; (with_reducible refine (Clone_nil _).mono ?_); rintro e w9 ⟨rfl, hg9⟩; replace F := Lib.hid (F.out.new (World.grownBy.trans (by first | exact World.grownBy.refl _ _ | exact grown_drew _ _ | exact li.grown_drewN _ _ _) hg9)); replace ff := F.out.f; clear hg9)
      refine hK.out _ _ ff (fun hHeld => ?_)
      clear hK K
      try simp only [Act.put, List.setIfInBounds_toArray, List.set_cons_zero, List.set_cons_succ]
      refine wpAnyH_take (i := 80) (oi := ⟨some 147, _, _, _, _, _⟩) (v := .bool true) rfl (by as_aux_lemma => kernel_rfl) (by as_aux_lemma => kernel_rfl) (by as_aux_lemma => kernel_rfl) (fun _ _ _ h => h) (Or.inl ⟨(by as_aux_lemma => kernel_rfl), ?_⟩) (by assumption) ?_
      · (intro w hSw; (try dsimp only at hSw); go_simp)
      try simp only [Act.put, List.setIfInBounds_toArray, List.set_cons_zero, List.set_cons_succ]
      refine wpAnyH_take (i := 81) (oi := ⟨some 148, _, _, _, _, _⟩) (v := .bool true) rfl (by as_aux_lemma => kernel_rfl) (by as_aux_lemma => kernel_rfl) (by as_aux_lemma => kernel_rfl) (fun _ _ _ h => h) (Or.inl ⟨(by as_aux_lemma => kernel_rfl), ?_⟩) (by assumption) ?_
      · (intro w hSw; (try dsimp only at hSw); go_simp)
      try simp only [Act.put, List.setIfInBounds_toArray, List.set_cons_zero, List.set_cons_succ]
      refine wpAnyH_take (i := 82) (oi := ⟨some 149, _, _, _, _, _⟩) (v := .bool true) rfl (by as_aux_lemma => kernel_rfl) (by as_aux_lemma => kernel_rfl) (by as_aux_lemma => kernel_rfl) (fun _ _ _ h => h) (Or.inl ⟨(by as_aux_lemma => kernel_rfl), ?_⟩) (by assumption) ?_
      · (intro w hSw; (try dsimp only at hSw); go_simp)
      try simp only [Act.put, List.setIfInBounds_toArray, List.set_cons_zero, List.set_cons_succ]
      refine wpAnyH_take (i := 83) (oi := ⟨some 150, _, _, _, _, _⟩) (v := .pointer (some ⟨Bo, 0, none⟩)) rfl (by as_aux_lemma => kernel_rfl) (by as_aux_lemma => kernel_rfl) (by as_aux_lemma => kernel_rfl) (fun _ _ _ h => h) (Or.inl ⟨(by as_aux_lemma => kernel_rfl), ?_⟩) (by assumption) ?_
      · (intro w hSw; (try dsimp only at hSw); go_simp)
      try simp only [Act.put, List.setIfInBounds_toArray, List.set_cons_zero, List.set_cons_succ]
      refine wpAnyH_ready (rs := [84]) (by as_aux_lemma => kernel_rfl) (by simp) (AllReadyH.cons (o := ⟨some 151, _, _, _, _, _⟩) rfl (fun K hK => ?_) AllReadyH.nil)
      go_simp
      (go_at_call 14; (with_reducible refine (Clone_zero (F.out.new (by first | exact World.grownBy.refl _ _ | exact grown_drew _ _ | exact li.grown_drewN _ _ _)).fs.od).mono ?_); rintro e w' ⟨rfl, hw⟩; subst hw)
      refine hK.out _ _ ff (fun hHeld => ?_)
      clear hK K
      try simp only [Act.put, List.setIfInBounds_toArray, List.set_cons_zero, List.set_cons_succ]
      refine wpAnyH_take (i := 85) (oi := ⟨some 152, _, _, _, _, _⟩) (v := .bool true) rfl (by as_aux_lemma => kernel_rfl) (by as_aux_lemma => kernel_rfl) (by as_aux_lemma => kernel_rfl) (fun _ _ _ h => h) (Or.inl ⟨(by as_aux_lemma => kernel_rfl), ?_⟩) (by assumption) ?_
      · (intro w hSw; (try dsimp only at hSw); go_simp)
      try simp only [Act.put, List.setIfInBounds_toArray, List.set_cons_zero, List.set_cons_succ]
      refine wpAnyH_take (i := 86) (oi := ⟨some 153, _, _, _, _, _⟩) (v := .bool true) rfl (by as_aux_lemma => kernel_rfl) (by as_aux_lemma => kernel_rfl) (by as_aux_lemma => kernel_rfl) (fun _ _ _ h => h) (Or.inl ⟨(by as_aux_lemma => kernel_rfl), ?_⟩) (by assumption) ?_
      · (intro w hSw; (try dsimp only at hSw); go_simp)
      try simp only [Act.put, List.setIfInBounds_toArray, List.set_cons_zero, List.set_cons_succ]
      refine wpAnyH_take (i := 87) (oi := ⟨some 8, _, _, _, _, _⟩) (v := .bool true) rfl (by as_aux_lemma => kernel_rfl) (by as_aux_lemma => kernel_rfl) (by as_aux_lemma => kernel_rfl) (fun _ _ _ h => h) (Or.inl ⟨(by as_aux_lemma => kernel_rfl), ?_⟩) (by assumption) ?_
      · (intro w hSw; (try dsimp only at hSw); go_simp)
      try simp only [Act.put, List.setIfInBounds_toArray, List.set_cons_zero, List.set_cons_succ]
      refine wpAnyH_done (by as_aux_lemma => kernel_rfl) ?_ _
      go_wp2
      go_ret
      exact ⟨rfl, F.out.fs.cs.a1.grown⟩
end Go.Proofs.Ytokjiklmeolleaa.sk
