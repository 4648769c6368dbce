/- The walk of EpochClones. (Printed by wip/tools/genEpK.py.) -/
import Derived.Test.YtahiagaocnmjpaaEpH
import Derived.Deep.DeepCutAuto
namespace Go.Proofs.Ytahiagaocnmjpaa.ep
open Go.ChangeShapes Go.WideShapes Go.ChangeAt Go.RowKit gen li
set_option linter.unusedVariables false
set_option maxHeartbeats 16000000
set_option maxRecDepth 100000
theorem Bx.ne_g {w : World} {B g : Nat} {v : Value} {z : Int} {b : Bool} {e : Nat} {m : List Int} (h : Bx w B v z) (hr : Rg w g b e m) : some B ≠ some g := fun e => by
  injection e with e
  subst e
  have := h.symm.trans hr.1
  injection this with this
  injection this with _ h2 _
  exact absurd h2 (by decide)
/-- All that stands behind the clone: both registries and a book for each. -/
structure Cs (w : World) (g g2 : Nat) (A : Option Addr) (N c : Nat) (m : List Int) (e : Nat) (A2 : Option Addr) (N2 c2 : Nat) (m2 : List Int) (e2 : Nat) (cur : World) : Prop where
  grown : w.grownBy cur none
  r1 : Rg cur g true e m
  r2 : Rg cur g2 true e2 m2
  l1 : Li cur (.slice A N c) m
  l2 : Li cur (.slice A2 N2 c2) m2
  n1 : N = m.length
  n2 : N2 = m2.length
  b1 : w.heap.size ≤ g
  b2 : w.heap.size ≤ g2
  ne : g ≠ g2
section
variable {w : World} {g g2 : Nat} {A : Option Addr} {N c : Nat} {m : List Int} {e : Nat} {A2 : Option Addr} {N2 c2 : Nat} {m2 : List Int} {e2 : Nat} {cur cur' : World}
theorem Cs.new (h : Cs w g g2 A N c m e A2 N2 c2 m2 e2 cur) (hg : cur.grownBy cur' none) : Cs w g g2 A N c m e A2 N2 c2 m2 e2 cur' :=
  ⟨h.grown.trans hg, h.r1.new hg, h.r2.new hg, h.l1.new hg, h.l2.new hg, h.n1, h.n2, h.b1, h.b2, h.ne⟩
theorem Cs.one (h : Cs w g g2 A N c m e A2 N2 c2 m2 e2 cur) {A' : Option Addr} {N' c' : Nat} {m' : List Int} {e' : Nat} (hr : Rg cur' g true e' m') (hl : Li cur' (.slice A' N' c') m') (hn : N' = m'.length) (hg : cur.grownBy cur' (some g)) : Cs w g g2 A' N' c' m' e' A2 N2 c2 m2 e2 cur' :=
  ⟨grown_new h.grown hg h.b1, hr, h.r2.kept hg (by have := h.ne; simp; omega), hl, h.l2.row h.r1 hg, hn, h.n2, h.b1, h.b2, h.ne⟩
theorem Cs.two (h : Cs w g g2 A N c m e A2 N2 c2 m2 e2 cur) {A' : Option Addr} {N' c' : Nat} {m' : List Int} {e' : Nat} (hr : Rg cur' g2 true e' m') (hl : Li cur' (.slice A' N' c') m') (hn : N' = m'.length) (hg : cur.grownBy cur' (some g2)) : Cs w g g2 A N c m e A' N' c' m' e' cur' :=
  ⟨grown_new h.grown hg h.b2, h.r1.kept hg (by have := h.ne; simp; omega), hr, h.l1.row h.r2 hg, hl, h.n1, hn, h.b1, h.b2, h.ne⟩
theorem Cs.one' (h : Cs w g g2 A N c m e A2 N2 c2 m2 e2 cur) {W : World} (gg : cur.grownBy W none) {A' : Option Addr} {N' c' : Nat} {m' : List Int} {e' : Nat} (hr : Rg cur' g true e' m') (hl : Li cur' (.slice A' N' c') m') (hn : N' = m'.length) (hg : W.grownBy cur' (some g)) : Cs w g g2 A' N' c' m' e' A2 N2 c2 m2 e2 cur' := (h.new gg).one hr hl hn hg
theorem Cs.two' (h : Cs w g g2 A N c m e A2 N2 c2 m2 e2 cur) {W : World} (gg : cur.grownBy W none) {A' : Option Addr} {N' c' : Nat} {m' : List Int} {e' : Nat} (hr : Rg cur' g2 true e' m') (hl : Li cur' (.slice A' N' c') m') (hn : N' = m'.length) (hg : W.grownBy cur' (some g2)) : Cs w g g2 A N c m e A' N' c' m' e' cur' := (h.new gg).two hr hl hn hg
theorem Bx.far {B : Nat} {v : Value} {z : Int} {b : Bool} {q : Nat} {l : List Int} {y : Nat} (h : Bx cur B v z) {W : World} (gg : cur.grownBy W none) (hr : Rg cur q b y l) (hg : W.grownBy cur' (some q)) : Bx cur' B v z := (h.new gg).kept hg (h.ne_g hr)
/-- What is written on a boxed book leaves the rest. -/
theorem Cs.set (h : Cs w g g2 A N c m e A2 N2 c2 m2 e2 cur) {B : Nat} {v : Value} {z : Int} (hb : Bx cur B v z) (hw : w.heap.size ≤ B) (hg : cur.grownBy cur' (some B)) : Cs w g g2 A N c m e A2 N2 c2 m2 e2 cur' :=
  ⟨grown_new h.grown hg hw, h.r1.kept hg (Ne.symm (hb.ne_g h.r1)), h.r2.kept hg (Ne.symm (hb.ne_g h.r2)), h.l1.kept hg (.inr (h.l1.off hb (fun cs z => by simp))), h.l2.kept hg (.inr (h.l2.off hb (fun cs z => by simp))), h.n1, h.n2, h.b1, h.b2, h.ne⟩
end
/-- A book in a box that the walk knows by its cells. -/
def Pb (v : Value) (o : Value) (z : Value) (e : Nat) (cur : World) : Prop := ∃ B, v = .pointer (some ⟨B, 0, none⟩) ∧ o = .bool true ∧ Bx cur B z e
theorem Bx.set {w : World} {B : Nat} {v v2 : Value} {z z2 : Int} (h : Bx w B v z) : Bx ((w.setCell ⟨B, 0, none⟩ v2).setCell ⟨B, 1, none⟩ (.int .i64 z2)) B v2 z2 := by
  have g1 := heap_setCell_same w B 0 _ _ v2 h
  have g2 := heap_setCell_same _ B 1 _ _ (.int .i64 z2) g1
  exact g2
theorem grown_set2 (w : World) (B : Nat) (v1 v2 : Value) : w.grownBy ((w.setCell ⟨B, 0, none⟩ v1).setCell ⟨B, 1, none⟩ v2) (some B) := (grown_set _ _ _ _).trans (grown_set _ _ _ _)
/-- Behind the run of the first registry. -/
def Cq (w : World) (g g2 B10 : Nat) (A : Option Addr) (N c : Nat) (m : List Int) (e : Nat) (p q : Value) (cur : World) : Prop :=
  ∃ (B : Nat) (A' : Option Addr) (N' c' : Nat) (m' : List Int) (e' : Nat), p = .pointer (some ⟨B, 0, none⟩) ∧ q = .bool true ∧ Bx cur B (.slice A' N' c') e' ∧ Bx cur B10 (.slice A N c) e ∧ Cs w g g2 A' N' c' m' e' A N c m e cur
/-- Behind the run of the other one. -/
def Cr (w : World) (g g2 B13 : Nat) (A : Option Addr) (N c : Nat) (m : List Int) (e : Nat) (p q : Value) (cur : World) : Prop :=
  ∃ (B : Nat) (A' : Option Addr) (N' c' : Nat) (m' : List Int) (e' : Nat), p = .pointer (some ⟨B, 0, none⟩) ∧ q = .bool true ∧ Bx cur B (.slice A' N' c') e' ∧ Bx cur B13 (.slice A N c) e ∧ Cs w g g2 A N c m e A' N' c' m' e' cur
section
variable {w : World} {g g2 B10 B : Nat} {A : Option Addr} {N c : Nat} {m : List Int} {e : Nat} {A' : Option Addr} {N' c' : Nat} {m' : List Int} {e' : Nat} {p q : Value} {cur cur' : World}
theorem Cq.new (h : Cq w g g2 B10 A N c m e p q cur) (hg : cur.grownBy cur' none) : Cq w g g2 B10 A N c m e p q cur' := by
  obtain ⟨B, A', N', c', m', e', h1, h2, h3, h4, h5⟩ := h
  exact ⟨B, A', N', c', m', e', h1, h2, h3.new hg, h4.new hg, h5.new hg⟩
theorem Cq.old (S : Cs w g g2 A' N' c' m' e' A N c m e cur) (X : Bx cur B10 (.slice A N c) e) (D : Bx cur B (.slice none 0 0) 0) (hw : w.heap.size ≤ B) (hB : B10 ≠ B) :
    Cq w g g2 B10 A N c m e (.pointer (some ⟨B, 0, none⟩)) (.bool true) ((cur.setCell ⟨B, 0, none⟩ (.slice A' N' c')).setCell ⟨B, 1, none⟩ (.int .i64 (e' : Int))) :=
  ⟨B, A', N', c', m', e', rfl, rfl, D.set, X.kept (grown_set2 _ _ _ _) (by simp; exact hB), S.set D hw (grown_set2 _ _ _ _)⟩
theorem Cq.made (S : Cs w g g2 A' N' c' m' e' A N c m e cur) (X : Bx cur B10 (.slice A N c) e) :
    Cq w g g2 B10 A N c m e (.pointer (some ⟨cur.heap.size, 0, none⟩)) (.bool true) (cur.alloc (.cells #[.slice A' N' c', .int .i64 (e' : Int)] 26)) :=
  ⟨_, A', N', c', m', e', rfl, rfl, Bx.made _ _ _, X.new (World.grownBy_alloc _ _ _), S.new (World.grownBy_alloc _ _ _)⟩
theorem Cr.new (h : Cr w g g2 B10 A N c m e p q cur) (hg : cur.grownBy cur' none) : Cr w g g2 B10 A N c m e p q cur' := by
  obtain ⟨B, A', N', c', m', e', h1, h2, h3, h4, h5⟩ := h
  exact ⟨B, A', N', c', m', e', h1, h2, h3.new hg, h4.new hg, h5.new hg⟩
theorem Cr.old (S : Cs w g g2 A N c m e A' N' c' m' e' cur) (X : Bx cur B10 (.slice A N c) e) (D : Bx cur B (.slice none 0 0) 0) (hw : w.heap.size ≤ B) (hB : B10 ≠ B) :
    Cr w g g2 B10 A N c m e (.pointer (some ⟨B, 0, none⟩)) (.bool true) ((cur.setCell ⟨B, 0, none⟩ (.slice A' N' c')).setCell ⟨B, 1, none⟩ (.int .i64 (e' : Int))) :=
  ⟨B, A', N', c', m', e', rfl, rfl, D.set, X.kept (grown_set2 _ _ _ _) (by simp; exact hB), S.set D hw (grown_set2 _ _ _ _)⟩
theorem Cr.made (S : Cs w g g2 A N c m e A' N' c' m' e' cur) (X : Bx cur B10 (.slice A N c) e) :
    Cr w g g2 B10 A N c m e (.pointer (some ⟨cur.heap.size, 0, none⟩)) (.bool true) (cur.alloc (.cells #[.slice A' N' c', .int .i64 (e' : Int)] 26)) :=
  ⟨_, A', N', c', m', e', rfl, rfl, Bx.made _ _ _, X.new (World.grownBy_alloc _ _ _), S.new (World.grownBy_alloc _ _ _)⟩
end
/-- The same beside the boxed books and a registry that New did not make. -/
structure Fs (w : World) (g g2 B13 B15 q : Nat) (A : Option Addr) (N c : Nat) (m : List Int) (e : Nat) (A2 : Option Addr) (N2 c2 : Nat) (m2 : List Int) (e2 : Nat) (cur : World) : Prop where
  cs : Cs w g g2 A N c m e A2 N2 c2 m2 e2 cur
  x13 : Bx cur B13 (.slice A N c) e
  x15 : Bx cur B15 (.slice A2 N2 c2) e2
  od : Rg cur q false 0 []
theorem Fs.new {w : World} {g g2 B13 B15 q : Nat} {A : Option Addr} {N c : Nat} {m : List Int} {e : Nat} {A2 : Option Addr} {N2 c2 : Nat} {m2 : List Int} {e2 : Nat} {cur cur' : World} (h : Fs w g g2 B13 B15 q A N c m e A2 N2 c2 m2 e2 cur) (hg : cur.grownBy cur' none) : Fs w g g2 B13 B15 q A N c m e A2 N2 c2 m2 e2 cur' :=
  ⟨h.cs.new hg, h.x13.new hg, h.x15.new hg, h.od.new hg⟩
theorem Rg.odd (w : World) : Rg (w.alloc (.cells #[.bool false, .int .i64 0, .int .i64 0, .bool false, .int .i64 0, .bool false, .int .i64 0, .bool false, .int .i64 0, .bool false, .int .i64 0, .bool false, .int .i64 0, .bool false, .int .i64 0, .bool false, .int .i64 0, .bool false, .int .i64 0] 47)) w.heap.size false 0 [] := Rg.fresh w false (k := 0) (by omega)
theorem EpochClones_any (n : Int) (D1 : Option Addr) (l1 d1 : Nat) (f1 : Nat → Nat → Int) (D2 : Option Addr) (l2 d2 : Nat) (f2 : Nat → Nat → Int) (D3 : Option Addr) (l3 d3 : Nat) (f3 : Nat → Nat → Int) (w : World)
    (ha1 : l1 ≤ d1) (hb1 : d1 ≤ maxLen) (ho1 : Rws w w.heap.size D1 l1 2 f1) (ha2 : l2 ≤ d2) (hb2 : d2 ≤ maxLen) (ho2 : Rws w w.heap.size D2 l2 2 f2) (ha3 : l3 ≤ d3) (hb3 : d3 ≤ maxLen) (ho3 : Rws w w.heap.size D3 l3 2 f3) :
    Calls Try.prog 5 #[.int .i64 n, .slice D1 l1 d1, .slice D2 l2 d2, .slice D3 l3 d3] w fun e w' => e = .returned (.bool true) ∧ w.grownBy w' none := by
  obtain ⟨k, hk, h8⟩ := near_nat n 8
  have NW := Lib.hid (fun w => New_any n k hk h8 w)
  have BG := Lib.hid (fun w => begin_any n k hk h8 w)
  have O1 := Lib.hid ho1
  have O2 := Lib.hid ho2
  have O3 := Lib.hid ho3
  have FW1 := Lib.hid (fun w => few_any D1 l1 d1 w ha1 hb1 ho1.some)
  have FW2 := Lib.hid (fun w => few_any D2 l2 d2 w ha2 hb2 ho2.some)
  have FW3 := Lib.hid (fun w => few_any D3 l3 d3 w ha3 hb3 ho3.some)
  clear ho1 ho2 ho3 ha1 ha2 ha3 hb1 hb2 hb3 hk
  go_enter Try.func5, Try.ntmps5
  go_upto_region 6 with (first
    | (go_at_call 6; (with_reducible refine (alive_any _).mono ?_); rintro r w1 ⟨rfl, hg⟩; have G1 := Lib.hid hg; clear hg)
    | (go_at_call 8; (with_reducible refine (NW.out _).mono ?_); rintro r w2 ⟨g, rfl, hr, hge, hg⟩; have R2 := Lib.hid hr; have G2 := Lib.hid (G1.out.trans hg); have LE := Lib.hid (Nat.le_trans G1.out.size hge); clear hr hge hg)
    | (go_at_call 9; (with_reducible refine (BG.out _).mono ?_); rintro r w3 ⟨A3, N3, c3, hn3, rfl, hl3, hg⟩; have HN3 := Lib.hid hn3; have R3 := Lib.hid (R2.out.new hg); have L3 := Lib.hid hl3; have G3 := Lib.hid (G2.out.trans hg); clear hn3 hl3 hg)
    | (go_at_call 10; (with_reducible refine (FW1.out _).mono ?_); rintro r w' ⟨⟨n1, q1, hl1, hl2, rfl⟩, rfl⟩; have HL1 := Lib.hid hl1; have RU := Lib.hid (show Calls Try.prog 7 #[.pointer (some ⟨g, 0, none⟩), .agg #[.slice A3 N3 c3, .int .i64 0], .slice D1 n1 q1] w3 (RunA g 0 n1 w3) from run_any (e := 0) R3.out L3.out HN3.out (by omega) ((O1.out.less hl2).kept G3.out (by simp)) LE.out hl1); clear hl1 hl2)
    | (go_at_call 7; (with_reducible refine (RU.out).mono ?_); rintro r w4 ⟨A4, N4, c4, m4, e4, rfl, hn4, he4, hr4, hl4, hg⟩; have HN4 := Lib.hid hn4; have HE4 := Lib.hid (show e4 ≤ 50 by have := HL1.out; omega); have R4 := Lib.hid hr4; have L4 := Lib.hid hl4; have G4 := Lib.hid (grown_new G3.out hg LE.out); clear hn4 he4 hr4 hl4 hg)
    | (go_at_call 22; (with_reducible refine (Clone_yes (R4.out.new (World.grownBy_alloc _ _ _))).mono ?_); rintro r w5 ⟨g2, rfl, hr, hge, hg⟩; have GA := (World.grownBy_alloc w4 (.cells #[.slice A4 N4 c4, .int .i64 (e4 : Int)] 26) none); have S5 := Lib.hid (Cs.mk ((G4.out.trans GA).trans hg) ((R4.out.new GA).new hg) hr ((L4.out.new GA).new hg) ((L4.out.new GA).new hg) HN4.out HN4.out LE.out (Nat.le_trans (G4.out.trans GA).size hge) (by have := R4.out.lt; have := GA.size; omega)); have X5 := Lib.hid ((Bx.made w4 (.slice A4 N4 c4) e4).new hg); clear hr hge hg GA))
  clear R2 G2 R3 L3 G3 G1 HN3 NW BG FW1 O1
  have RB := Lib.hid (fun n' d' (h1 : n' ≤ 50) (h2 : n' ≤ l2) W (hg : w5.grownBy W none) => run_any (w := W) (c2 := d') (S5.out.new hg).r1 (S5.out.new hg).l1 S5.out.n1 (by have := HE4.out; omega) ((O2.out.less h2).kept (S5.out.new hg).grown (by simp)) S5.out.b1 h1)
  have f5 := (⟨X5.out.cells.1, X5.out.cells.2.1⟩ : _ ∧ _)
  have n0 : w4.heap.size < w5.heap.size := X5.out.lt
  obtain ⟨B10, hB10⟩ : ∃ B10, w4.heap.size = B10 := ⟨_, rfl⟩
  rw [hB10] at X5 f5 n0 ⊢
  clear hB10 R4 L4 G4
  have n1 : ¬ (B10 = w5.heap.size) := by omega
  have n2 : ¬ (w5.heap.size = B10) := by omega
  go_cut [13, 14] (fun p q wx => Cq w g g2 B10 A4 N4 c4 m4 e4 p q wx)
  case first =>
    go_region_held3 (fun W => W.cell? ⟨B10, 0, none⟩ = some (.slice A4 N4 c4) ∧ W.cell? ⟨B10, 1, none⟩ = some (.int .i64 (e4 : Int))) (first | exact f5 | exact f6 | go_keep) (first
      | (go_at_call 10; (with_reducible refine (FW2.out _).mono ?_); rintro r w' ⟨⟨n6, d6, hq1, hq2, rfl⟩, rfl⟩; have HL6 := Lib.hid hq1; have HM6 := Lib.hid hq2; clear hq1 hq2)
      | (go_at_call 7; (with_reducible refine (RB.out _ _ HL6.out HM6.out _ (by first | exact World.grownBy.refl _ _ | exact grown_drew _ _ | exact li.grown_drewN _ _ _ | exact World.grownBy_alloc _ _ _ | exact (World.grownBy_alloc _ _ _).trans (grown_drew _ _) | exact (World.grownBy_alloc _ _ _).trans (li.grown_drewN _ _ _) | exact (grown_drew _ _).trans (World.grownBy_alloc _ _ _) | exact (li.grown_drewN _ _ _).trans (World.grownBy_alloc _ _ _))).mono ?_); rintro r v6 ⟨A6, N6, c6, m6, e6, rfl, hn, he, hr, hl, hg⟩; have S6 := Lib.hid (S5.out.one' (by first | exact World.grownBy.refl _ _ | exact grown_drew _ _ | exact li.grown_drewN _ _ _ | exact World.grownBy_alloc _ _ _ | exact (World.grownBy_alloc _ _ _).trans (grown_drew _ _) | exact (World.grownBy_alloc _ _ _).trans (li.grown_drewN _ _ _) | exact (grown_drew _ _).trans (World.grownBy_alloc _ _ _) | exact (li.grown_drewN _ _ _).trans (World.grownBy_alloc _ _ _)) hr hl hn hg); have X6 := Lib.hid (X5.out.far (by first | exact World.grownBy.refl _ _ | exact grown_drew _ _ | exact li.grown_drewN _ _ _ | exact World.grownBy_alloc _ _ _ | exact (World.grownBy_alloc _ _ _).trans (grown_drew _ _) | exact (World.grownBy_alloc _ _ _).trans (li.grown_drewN _ _ _) | exact (grown_drew _ _).trans (World.grownBy_alloc _ _ _) | exact (li.grown_drewN _ _ _).trans (World.grownBy_alloc _ _ _)) S5.out.r1 hg); have E6 := Lib.hid he; have f6 := (⟨X6.out.cells.1, X6.out.cells.2.1⟩ : _ ∧ _); (first | (have D6 := Lib.hid (Bx.kept (B := (w5).heap.size) (v := .slice none 0 0) (e := 0) (by exact Bx.made w5 (.slice none 0 0) 0) hg (by have := S5.out.r1.lt; simp; omega)); obtain ⟨d0, d1, z0, z1⟩ := D6.out.cells; have lt6 := D6.out.lt) | skip); clear hn he hr hl hg))
    all_goals
      go_wp2
      go_meet
      first | exact Cq.old S6.out X6.out D6.out ((S5.out.grown).size) (by have := X5.out.lt; omega) | exact (Cq.old S6.out X6.out D6.out ((S5.out.grown).size) (by have := X5.out.lt; omega)).new (grown_drew _ _) | exact (Cq.old S6.out X6.out D6.out ((S5.out.grown).size) (by have := X5.out.lt; omega)).new (li.grown_drewN _ _ _) | exact Cq.made S6.out X6.out | exact (Cq.made S6.out X6.out).new (grown_drew _ _) | exact (Cq.made S6.out X6.out).new (li.grown_drewN _ _ _) | exact Cq.made (S6.out.new (grown_drew _ _)) (X6.out.new (grown_drew _ _)) | exact (Cq.made (S6.out.new (grown_drew _ _)) (X6.out.new (grown_drew _ _))).new (grown_drew _ _) | exact (Cq.made (S6.out.new (grown_drew _ _)) (X6.out.new (grown_drew _ _))).new (li.grown_drewN _ _ _) | exact Cq.made (S6.out.new (li.grown_drewN _ _ _)) (X6.out.new (li.grown_drewN _ _ _)) | exact (Cq.made (S6.out.new (li.grown_drewN _ _ _)) (X6.out.new (li.grown_drewN _ _ _))).new (grown_drew _ _) | exact (Cq.made (S6.out.new (li.grown_drewN _ _ _)) (X6.out.new (li.grown_drewN _ _ _))).new (li.grown_drewN _ _ _)
  case rest =>
    obtain ⟨B13, A6, N6, c6, m6, e6, rfl, rfl, hx13, hx10, hs6⟩ := hcut
    have S6 := Lib.hid hs6
    have X10 := Lib.hid hx10
    have X13 := Lib.hid hx13
    clear RB X5 f5 n0 n1 n2 S5 hx13 hx10 hs6
    go_upto_region 7 with fail
    have RB := Lib.hid (fun n' d' (h1 : n' ≤ 50) (h2 : n' ≤ l3) W (hg : wc.grownBy W none) => run_any (w := W) (c2 := d') (S6.out.new hg).r2 (S6.out.new hg).l2 S6.out.n2 (by have := HE4.out; omega) ((O3.out.less h2).kept (S6.out.new hg).grown (by simp)) S6.out.b2 h1)
    have f6 := (⟨X10.out.cells.1, X10.out.cells.2.1⟩ : _ ∧ _)
    have n1 : ¬ (B10 = wc.heap.size) := by have := X10.out.lt; omega
    have n2 : ¬ (wc.heap.size = B10) := by have := X10.out.lt; omega
    have lt10 : B10 < wc.heap.size := X10.out.lt
    go_cut [15, 16] (fun p q wx => Cr w g g2 B13 A6 N6 c6 m6 e6 p q wx)
    case first =>
      go_region_held3 (fun W => W.cell? ⟨B10, 0, none⟩ = some (.slice A4 N4 c4) ∧ W.cell? ⟨B10, 1, none⟩ = some (.int .i64 (e4 : Int))) (first | exact f6 | exact f7 | go_keep) (first
        | (go_at_call 10; (with_reducible refine (FW3.out _).mono ?_); rintro r w' ⟨⟨n7, d7, hq1, hq2, rfl⟩, rfl⟩; have HL7 := Lib.hid hq1; have HM7 := Lib.hid hq2; clear hq1 hq2)
        | (go_at_call 7; (with_reducible refine (RB.out _ _ HL7.out HM7.out _ (by first | exact World.grownBy.refl _ _ | exact grown_drew _ _ | exact li.grown_drewN _ _ _ | exact World.grownBy_alloc _ _ _ | exact (World.grownBy_alloc _ _ _).trans (grown_drew _ _) | exact (World.grownBy_alloc _ _ _).trans (li.grown_drewN _ _ _) | exact (grown_drew _ _).trans (World.grownBy_alloc _ _ _) | exact (li.grown_drewN _ _ _).trans (World.grownBy_alloc _ _ _))).mono ?_); rintro r v7 ⟨A7, N7, c7, m7, e7, rfl, hn, he, hr, hl, hg⟩; have S7 := Lib.hid (S6.out.two' (by first | exact World.grownBy.refl _ _ | exact grown_drew _ _ | exact li.grown_drewN _ _ _ | exact World.grownBy_alloc _ _ _ | exact (World.grownBy_alloc _ _ _).trans (grown_drew _ _) | exact (World.grownBy_alloc _ _ _).trans (li.grown_drewN _ _ _) | exact (grown_drew _ _).trans (World.grownBy_alloc _ _ _) | exact (li.grown_drewN _ _ _).trans (World.grownBy_alloc _ _ _)) hr hl hn hg); have X7 := Lib.hid (X10.out.far (by first | exact World.grownBy.refl _ _ | exact grown_drew _ _ | exact li.grown_drewN _ _ _ | exact World.grownBy_alloc _ _ _ | exact (World.grownBy_alloc _ _ _).trans (grown_drew _ _) | exact (World.grownBy_alloc _ _ _).trans (li.grown_drewN _ _ _) | exact (grown_drew _ _).trans (World.grownBy_alloc _ _ _) | exact (li.grown_drewN _ _ _).trans (World.grownBy_alloc _ _ _)) S6.out.r2 hg); have Y7 := Lib.hid (X13.out.far (by first | exact World.grownBy.refl _ _ | exact grown_drew _ _ | exact li.grown_drewN _ _ _ | exact World.grownBy_alloc _ _ _ | exact (World.grownBy_alloc _ _ _).trans (grown_drew _ _) | exact (World.grownBy_alloc _ _ _).trans (li.grown_drewN _ _ _) | exact (grown_drew _ _).trans (World.grownBy_alloc _ _ _) | exact (li.grown_drewN _ _ _).trans (World.grownBy_alloc _ _ _)) S6.out.r2 hg); have E7 := Lib.hid he; have f7 := (⟨X7.out.cells.1, X7.out.cells.2.1⟩ : _ ∧ _); (first | (have D7 := Lib.hid (Bx.kept (B := (wc).heap.size) (v := .slice none 0 0) (e := 0) (by exact Bx.made wc (.slice none 0 0) 0) hg (by have := S6.out.r2.lt; simp; omega)); obtain ⟨d0, d1, z0, z1⟩ := D7.out.cells; have lt7 := D7.out.lt) | skip); clear hn he hr hl hg))
      all_goals
        go_wp2
        go_meet
        first | exact Cr.old S7.out Y7.out D7.out ((S6.out.grown).size) (by have := X13.out.lt; omega) | exact (Cr.old S7.out Y7.out D7.out ((S6.out.grown).size) (by have := X13.out.lt; omega)).new (grown_drew _ _) | exact (Cr.old S7.out Y7.out D7.out ((S6.out.grown).size) (by have := X13.out.lt; omega)).new (li.grown_drewN _ _ _) | exact Cr.made S7.out Y7.out | exact (Cr.made S7.out Y7.out).new (grown_drew _ _) | exact (Cr.made S7.out Y7.out).new (li.grown_drewN _ _ _) | exact Cr.made (S7.out.new (grown_drew _ _)) (Y7.out.new (grown_drew _ _)) | exact (Cr.made (S7.out.new (grown_drew _ _)) (Y7.out.new (grown_drew _ _))).new (grown_drew _ _) | exact (Cr.made (S7.out.new (grown_drew _ _)) (Y7.out.new (grown_drew _ _))).new (li.grown_drewN _ _ _) | exact Cr.made (S7.out.new (li.grown_drewN _ _ _)) (Y7.out.new (li.grown_drewN _ _ _)) | exact (Cr.made (S7.out.new (li.grown_drewN _ _ _)) (Y7.out.new (li.grown_drewN _ _ _))).new (grown_drew _ _) | exact (Cr.made (S7.out.new (li.grown_drewN _ _ _)) (Y7.out.new (li.grown_drewN _ _ _))).new (li.grown_drewN _ _ _)
    case rest =>
      obtain ⟨B15, A7, N7, c7, m7, e7, rfl, rfl, hx15, hx13, hs7⟩ := hcut
      have F := Lib.hid (Fs.mk (hs7.new (World.grownBy_alloc _ (.cells #[.bool false, .int .i64 0, .int .i64 0, .bool false, .int .i64 0, .bool false, .int .i64 0, .bool false, .int .i64 0, .bool false, .int .i64 0, .bool false, .int .i64 0, .bool false, .int .i64 0, .bool false, .int .i64 0, .bool false, .int .i64 0] 47) none)) (hx13.new (World.grownBy_alloc _ _ none)) (hx15.new (World.grownBy_alloc _ _ none)) (Rg.odd _))
      obtain ⟨x0, x1, _, _⟩ := F.out.x13.cells
      obtain ⟨y0, y1, _, _⟩ := F.out.x15.cells
      have OA := Lib.hid (fun W q (h : Rg W q false 0 []) => show Calls Try.prog 11 #[.pointer (some ⟨q, 0, none⟩), .int .i64 0] W fun r w' => r = .returned (.bool false) ∧ W = w' from Attach_no h 0 (.inl rfl))
      have OR := Lib.hid (fun W q (h : Rg W q false 0 []) => Raise_odd h)
      have OE := Lib.hid (fun W q (h : Rg W q false 0 []) => show Calls Try.prog 17 #[.pointer (some ⟨q, 0, none⟩)] W fun r w' => r = .returned (.int .i64 0) ∧ W = w' from Epoch_any h)
      have OG := Lib.hid (fun W q (h : Rg W q false 0 []) => show Calls Try.prog 19 #[.pointer (some ⟨q, 0, none⟩)] W fun r w' => r = .returned (.bool true) ∧ W.grownBy w' none from Agreed_any h)
      have OC := Lib.hid (fun W q (h : Rg W q false 0 []) => Clone_odd h)
      clear hx15 hx13 hs7
      go_wp2_with (first
        | (go_at_call 23; (with_reducible refine (told_any F.out.cs.r1 (F.out.cs.l1.rd F.out.cs.n1)).mono ?_); rintro r w9 ⟨rfl, hg⟩; have F := Lib.hid (F.out.new hg); obtain ⟨x0, x1, _, _⟩ := F.out.x13.cells; obtain ⟨y0, y1, _, _⟩ := F.out.x15.cells; clear hg)
        | (go_at_call 23; (with_reducible refine (told_any F.out.cs.r2 (F.out.cs.l2.rd F.out.cs.n2)).mono ?_); rintro r w9 ⟨rfl, hg⟩; have F := Lib.hid (F.out.new hg); obtain ⟨x0, x1, _, _⟩ := F.out.x13.cells; obtain ⟨y0, y1, _, _⟩ := F.out.x15.cells; clear hg)
        | (go_at_call 11; (with_reducible refine (Attach_nil _ _).mono ?_); rintro r w' ⟨rfl, rfl⟩)
        | (go_at_call 11; (with_reducible refine (OA.out _ _ F.out.od).mono ?_); rintro r w' ⟨rfl, rfl⟩)
        | (go_at_call 12; (with_reducible refine (Detach_nil _ _).mono ?_); rintro r w' ⟨rfl, rfl⟩)
        | (go_at_call 24; (with_reducible refine (Live_nil _ _).mono ?_); rintro r w' ⟨rfl, rfl⟩)
        | (go_at_call 14; (with_reducible refine (Confirm_nil _ _).mono ?_); rintro r w9 ⟨rfl, q, rfl⟩; have F := Lib.hid (F.out.new (li.grown_drewN _ q none)))
        | (go_at_call 13; (with_reducible refine (Raise_nil _).mono ?_); rintro r w' ⟨rfl, rfl⟩)
        | (go_at_call 13; (with_reducible refine (OR.out _ _ F.out.od).mono ?_); rintro r w' ⟨rfl, rfl⟩)
        | (go_at_call 17; (with_reducible refine (Epoch_nil _).mono ?_); rintro r w' ⟨rfl, rfl⟩)
        | (go_at_call 17; (with_reducible refine (OE.out _ _ F.out.od).mono ?_); rintro r w' ⟨rfl, rfl⟩)
        | (go_at_call 16; (with_reducible refine (Of_nil _ _).mono ?_); rintro r w' ⟨rfl, rfl⟩)
        | (go_at_call 19; (with_reducible refine (Agreed_nil _).mono ?_); rintro r w9 ⟨rfl, hg⟩; have F := Lib.hid (F.out.new hg); clear hg)
        | (go_at_call 19; (with_reducible refine (OG.out _ _ F.out.od).mono ?_); rintro r w9 ⟨rfl, hg⟩; have F := Lib.hid (F.out.new hg); clear hg)
        | (go_at_call 18; (with_reducible refine (Least_nil _).mono ?_); rintro r w' ⟨rfl, rfl⟩)
        | (go_at_call 15; (with_reducible refine (All_nil _).mono ?_); rintro r w' ⟨rfl, rfl⟩)
        | (go_at_call 21; (with_reducible refine (Behind_nil _).mono ?_); rintro r w9 ⟨rfl, hg⟩; have F := Lib.hid (F.out.new hg); clear hg)
        | (go_at_call 22; (with_reducible refine (Clone_nil _).mono ?_); rintro r w' ⟨rfl, rfl⟩)
        | (go_at_call 22; (with_reducible refine (OC.out _ _ F.out.od).mono ?_); rintro r w' ⟨rfl, rfl⟩))
      go_ret
      exact ⟨rfl, F.out.cs.grown⟩

end Go.Proofs.Ytahiagaocnmjpaa.ep
