/- The walk of BankClones. (Printed by wip/tools/genBnI.py.) -/
import Derived.Test.YtamfbpoaohmkaaaBnF
import Derived.Deep.DeepCutAuto
namespace Go.Proofs.Ytamfbpoaohmkaaa.bn
open Go.ChangeShapes Go.WideShapes Go.ChangeAt Go.RowKit gen li gr
set_option linter.unusedVariables false
set_option maxHeartbeats 16000000
set_option maxRecDepth 100000
theorem Mx.ne_g {w : World} {B g : Nat} {r h i o l r2 h2 i2 o2 l2 N : Int} (m : Mx w B r h i o l) (k : Bk w g N h2 i2 o2 l2 r2) : some B ≠ some g := fun e => by
  injection e with e
  subst e
  have := m.symm.trans k.bo
  injection this with this
  injection this with _ h2 _
  exact absurd h2 (by decide)
/-- All that stands behind the clone: both banks. -/
structure Cs (w : World) (g g2 : Nat) (N N2 r h i o l h2 i2 o2 l2 : Int) (cur : World) : Prop where
  grown : w.grownBy cur none
  k1 : Bk cur g N h i o l r
  k2 : Bk cur g2 N2 h2 i2 o2 l2 r
  b1 : w.heap.size ≤ g
  b2 : w.heap.size ≤ g2
  ne : g ≠ g2
section
variable {w : World} {g g2 : Nat} {N N2 r h i o l h2 i2 o2 l2 : Int} {cur cur' : World}
theorem Cs.new (q : Cs w g g2 N N2 r h i o l h2 i2 o2 l2 cur) (hg : cur.grownBy cur' none) : Cs w g g2 N N2 r h i o l h2 i2 o2 l2 cur' :=
  ⟨q.grown.trans hg, q.k1.new hg, q.k2.new hg, q.b1, q.b2, q.ne⟩
theorem Cs.one' (q : Cs w g g2 N N2 r h i o l h2 i2 o2 l2 cur) {W : World} (gg : cur.grownBy W none) {M h' i' o' l' : Int} (k : Bk cur' g M h' i' o' l' r) (hg : W.grownBy cur' (some g)) : Cs w g g2 M N2 r h' i' o' l' h2 i2 o2 l2 cur' :=
  ⟨grown_new (q.grown.trans gg) hg q.b1, k, (q.k2.new gg).kept hg (by have := q.ne; simp; omega), q.b1, q.b2, q.ne⟩
theorem Cs.two' (q : Cs w g g2 N N2 r h i o l h2 i2 o2 l2 cur) {W : World} (gg : cur.grownBy W none) {M h' i' o' l' : Int} (k : Bk cur' g2 M h' i' o' l' r) (hg : W.grownBy cur' (some g2)) : Cs w g g2 N M r h i o l h' i' o' l' cur' :=
  ⟨grown_new (q.grown.trans gg) hg q.b2, (q.k1.new gg).kept hg (by have := q.ne; simp; omega), k, q.b1, q.b2, q.ne⟩
theorem Mx.far {B p : Nat} {r2 M h' i' o' l' : Int} (m : Mx cur B r h i o l) {W : World} (gg : cur.grownBy W none) (k : Bk cur p M h' i' o' l' r2) (hg : W.grownBy cur' (some p)) : Mx cur' B r h i o l := (m.new gg).kept hg (m.ne_g k)
/-- What is written on a boxed book leaves the rest. -/
theorem Cs.set (q : Cs w g g2 N N2 r h i o l h2 i2 o2 l2 cur) {B : Nat} {r' h' i' o' l' : Int} (m : Mx cur B r' h' i' o' l') (hw : w.heap.size ≤ B) (hg : cur.grownBy cur' (some B)) : Cs w g g2 N N2 r h i o l h2 i2 o2 l2 cur' :=
  ⟨grown_new q.grown hg hw, q.k1.kept hg (Ne.symm (m.ne_g q.k1)), q.k2.kept hg (Ne.symm (m.ne_g q.k2)), q.b1, q.b2, q.ne⟩
/-- Behind the run of the first bank. -/
def Cq (w : World) (g g2 B10 : Nat) (N r h i o l : Int) (p q : Value) (cur : World) : Prop :=
  ∃ (B : Nat) (M h' i' o' l' : Int), p = .pointer (some ⟨B, 0, none⟩) ∧ q = .bool true ∧ Mx cur B r h' i' o' l' ∧ Mx cur B10 r h i o l ∧ Cs w g g2 M N r h' i' o' l' h i o l cur
/-- Behind the run of the other one. -/
def Cr (w : World) (g g2 B13 : Nat) (N r h i o l : Int) (p q : Value) (cur : World) : Prop :=
  ∃ (B : Nat) (M h' i' o' l' : Int), p = .pointer (some ⟨B, 0, none⟩) ∧ q = .bool true ∧ Mx cur B r h' i' o' l' ∧ Mx cur B13 r h i o l ∧ Cs w g g2 N M r h i o l h' i' o' l' cur
variable {B B10 : Nat} {M h' i' o' l' : Int} {p q : Value}
theorem Cq.new (c : Cq w g g2 B10 N r h i o l p q cur) (hg : cur.grownBy cur' none) : Cq w g g2 B10 N r h i o l p q cur' := by
  obtain ⟨B, M, h', i', o', l', h1, h2, h3, h4, h5⟩ := c
  exact ⟨B, M, h', i', o', l', h1, h2, h3.new hg, h4.new hg, h5.new hg⟩
theorem Cr.new (c : Cr w g g2 B10 N r h i o l p q cur) (hg : cur.grownBy cur' none) : Cr w g g2 B10 N r h i o l p q cur' := by
  obtain ⟨B, M, h', i', o', l', h1, h2, h3, h4, h5⟩ := c
  exact ⟨B, M, h', i', o', l', h1, h2, h3.new hg, h4.new hg, h5.new hg⟩
theorem Cq.old (S : Cs w g g2 M N r h' i' o' l' h i o l cur) (X : Mx cur B10 r h i o l) (D : Mx cur B 0 0 0 0 0) (hw : w.heap.size ≤ B) (hB : B10 ≠ B) :
    Cq w g g2 B10 N r h i o l (.pointer (some ⟨B, 0, none⟩)) (.bool true) (((((cur.setCell ⟨B, 0, none⟩ (.int .i64 r)).setCell ⟨B, 1, none⟩ (.int .i64 h')).setCell ⟨B, 2, none⟩ (.int .i64 i')).setCell ⟨B, 3, none⟩ (.int .i64 o')).setCell ⟨B, 4, none⟩ (.int .i64 l')) :=
  ⟨B, M, h', i', o', l', rfl, rfl, D.set _ _ _ _ _, X.kept (set5 _ _ _ _ _ _ _) (by simp; exact hB), S.set D hw (set5 _ _ _ _ _ _ _)⟩
theorem Cq.made (S : Cs w g g2 M N r h' i' o' l' h i o l cur) (X : Mx cur B10 r h i o l) :
    Cq w g g2 B10 N r h i o l (.pointer (some ⟨cur.heap.size, 0, none⟩)) (.bool true) (cur.alloc (.cells #[.int .i64 r, .int .i64 h', .int .i64 i', .int .i64 o', .int .i64 l'] 25)) :=
  ⟨_, M, h', i', o', l', rfl, rfl, Mx.made _ _ _ _ _ _, X.new (World.grownBy_alloc _ _ _), S.new (World.grownBy_alloc _ _ _)⟩
theorem Cr.old (S : Cs w g g2 N M r h i o l h' i' o' l' cur) (X : Mx cur B10 r h i o l) (D : Mx cur B 0 0 0 0 0) (hw : w.heap.size ≤ B) (hB : B10 ≠ B) :
    Cr w g g2 B10 N r h i o l (.pointer (some ⟨B, 0, none⟩)) (.bool true) (((((cur.setCell ⟨B, 0, none⟩ (.int .i64 r)).setCell ⟨B, 1, none⟩ (.int .i64 h')).setCell ⟨B, 2, none⟩ (.int .i64 i')).setCell ⟨B, 3, none⟩ (.int .i64 o')).setCell ⟨B, 4, none⟩ (.int .i64 l')) :=
  ⟨B, M, h', i', o', l', rfl, rfl, D.set _ _ _ _ _, X.kept (set5 _ _ _ _ _ _ _) (by simp; exact hB), S.set D hw (set5 _ _ _ _ _ _ _)⟩
theorem Cr.made (S : Cs w g g2 N M r h i o l h' i' o' l' cur) (X : Mx cur B10 r h i o l) :
    Cr w g g2 B10 N r h i o l (.pointer (some ⟨cur.heap.size, 0, none⟩)) (.bool true) (cur.alloc (.cells #[.int .i64 r, .int .i64 h', .int .i64 i', .int .i64 o', .int .i64 l'] 25)) :=
  ⟨_, M, h', i', o', l', rfl, rfl, Mx.made _ _ _ _ _ _, X.new (World.grownBy_alloc _ _ _), S.new (World.grownBy_alloc _ _ _)⟩
end
/-- The same beside the boxed books and a bank that New did not make. -/
structure Fs (w : World) (g g2 B13 B15 z : Nat) (N N2 r h i o l h2 i2 o2 l2 : Int) (cur : World) : Prop where
  cs : Cs w g g2 N N2 r h i o l h2 i2 o2 l2 cur
  x13 : Mx cur B13 r h i o l
  x15 : Mx cur B15 r h2 i2 o2 l2
  od : Bo cur z 0 0 0 0 false
theorem Fs.new {w : World} {g g2 B13 B15 z : Nat} {N N2 r h i o l h2 i2 o2 l2 : Int} {cur cur' : World} (q : Fs w g g2 B13 B15 z N N2 r h i o l h2 i2 o2 l2 cur) (hg : cur.grownBy cur' none) : Fs w g g2 B13 B15 z N N2 r h i o l h2 i2 o2 l2 cur' :=
  ⟨q.cs.new hg, q.x13.new hg, q.x15.new hg, q.od.new hg⟩
theorem BankClones_any (n : Int) (D1 : Option Addr) (l1 d1 : Nat) (f1 : Nat → Nat → Int) (D2 : Option Addr) (l2 d2 : Nat) (f2 : Nat → Nat → Int) (D3 : Option Addr) (l3 d3 : Nat) (f3 : Nat → Nat → Int) (w : World)
    (ha1 : l1 ≤ d1) (hb1 : d1 ≤ maxLen) (ho1 : Rws w w.heap.size D1 l1 2 f1) (ha2 : l2 ≤ d2) (hb2 : d2 ≤ maxLen) (ho2 : Rws w w.heap.size D2 l2 2 f2) (ha3 : l3 ≤ d3) (hb3 : d3 ≤ maxLen) (ho3 : Rws w w.heap.size D3 l3 2 f3) :
    Calls Try.prog 5 #[.int .i64 n, .slice D1 l1 d1, .slice D2 l2 d2, .slice D3 l3 d3] w fun e w' => e = .returned (.bool true) ∧ w.grownBy w' none := by
  have NW := Lib.hid (fun w => New_any n w)
  have NE := Lib.hid (fun w => Near_any n 0 65535 w)
  have O1 := Lib.hid ho1
  have O2 := Lib.hid ho2
  have O3 := Lib.hid ho3
  have FW1 := Lib.hid (fun w => few_any D1 l1 d1 w ha1 hb1 ho1.some)
  have FW2 := Lib.hid (fun w => few_any D2 l2 d2 w ha2 hb2 ho2.some)
  have FW3 := Lib.hid (fun w => few_any D3 l3 d3 w ha3 hb3 ho3.some)
  generalize near n 0 65535 = r0 at NW NE
  clear ho1 ho2 ho3 ha1 ha2 ha3 hb1 hb2 hb3
  go_enter Try.func5, Try.ntmps5
  go_upto_region 6 with (first
    | (go_at_call 6; (with_reducible refine (alive_any _).mono ?_); rintro e w1 ⟨rfl, hg⟩; have G1 := Lib.hid hg; clear hg)
    | (go_at_call 8; (with_reducible refine (NW.out _).mono ?_); rintro e w2 ⟨g, rfl, hr, hge, hg⟩; have K2 := Lib.hid hr; have G2 := Lib.hid (G1.out.trans hg); have LE := Lib.hid (Nat.le_trans G1.out.size hge); clear hr hge hg)
    | (go_at_call 9; (with_reducible refine (NE.out _).mono ?_); rintro e w' ⟨rfl, hw⟩; subst hw)
    | (go_at_call 10; (with_reducible refine (FW1.out _).mono ?_); rintro e w' ⟨⟨n1, q1, hl1, hl2, rfl⟩, rfl⟩; have HL1 := Lib.hid hl1; have RU := Lib.hid (show Calls Try.prog 7 #[.pointer (some ⟨g, 0, none⟩), .agg #[.int .i64 r0, .int .i64 0, .int .i64 0, .int .i64 0, .int .i64 0], .slice D1 n1 q1] w2 (RunA g n1 0 r0 w2) from run_any K2.out (by omega) ((O1.out.less hl2).kept G2.out (by simp)) LE.out hl1); clear hl1 hl2)
    | (go_at_call 7; (with_reducible refine (RU.out).mono ?_); rintro e w4 ⟨h4, i4, o4, t4, rfl, hk, hg⟩; have K4 := Lib.hid (show Bk w4 g 128849018880 h4 i4 o4 t4 r0 from ⟨hk.bo, hk.nu.more (by have := HL1.out; omega)⟩); have G4 := Lib.hid (grown_new G2.out hg LE.out); clear hk hg)
    | (go_at_call 18; (with_reducible refine (Clone_any (K4.out.new (World.grownBy_alloc _ _ _))).mono ?_); rintro e w5 ⟨g2, rfl, hr, hge, hg⟩; have GA := (World.grownBy_alloc w4 (.cells #[.int .i64 r0, .int .i64 h4, .int .i64 i4, .int .i64 o4, .int .i64 t4] 25) none); have S5 := Lib.hid (Cs.mk ((G4.out.trans GA).trans hg) ((K4.out.new GA).new hg) hr LE.out (Nat.le_trans (G4.out.trans GA).size hge) (by have := K4.out.lt; have := GA.size; omega)); have X5 := Lib.hid ((Mx.made w4 r0 h4 i4 o4 t4).new hg); clear hr hge hg GA))
  clear K2 G2 G1 NW FW1 O1
  have RB := Lib.hid (fun n' d' (h1 : n' ≤ 60) (h2 : n' ≤ l2) W (hg : w5.grownBy W none) => run_any (w := W) (c2 := d') (S5.out.new hg).k1 (by omega) ((O2.out.less h2).kept (S5.out.new hg).grown (by simp)) S5.out.b1 h1)
  have f5 := X5.out.f
  have n0 : w4.heap.size < w5.heap.size := X5.out.lt
  obtain ⟨B10, hB10⟩ : ∃ B10, w4.heap.size = B10 := ⟨_, rfl⟩
  rw [hB10] at X5 f5 n0 ⊢
  clear hB10 K4 G4
  have n1 : ¬ (B10 = w5.heap.size) := by omega
  have n2 : ¬ (w5.heap.size = B10) := by omega
  go_cut [13, 14] (fun p q wx => Cq w g g2 B10 128849018880 r0 h4 i4 o4 t4 p q wx)
  case first =>
    go_region_held3 (fun W => W.cell? ⟨B10, 0, none⟩ = some (.int .i64 r0) ∧ W.cell? ⟨B10, 1, none⟩ = some (.int .i64 h4) ∧ W.cell? ⟨B10, 2, none⟩ = some (.int .i64 i4) ∧ W.cell? ⟨B10, 3, none⟩ = some (.int .i64 o4) ∧ W.cell? ⟨B10, 4, none⟩ = some (.int .i64 t4)) (first | with_reducible exact f5 | with_reducible exact f6 | go_keep) (first
      | (go_at_call 10; (with_reducible refine (FW2.out _).mono ?_); rintro e w' ⟨⟨n6, d6, hq1, hq2, rfl⟩, rfl⟩; have HL6 := Lib.hid hq1; have HM6 := Lib.hid hq2; clear hq1 hq2)
      | (go_at_call 7; (with_reducible refine (RB.out _ _ HL6.out HM6.out _ (by first | exact World.grownBy.refl _ _ | exact grown_drew _ _ | exact li.grown_drewN _ _ _ | exact World.grownBy_alloc _ _ _ | exact (World.grownBy_alloc _ _ _).trans (grown_drew _ _) | exact (World.grownBy_alloc _ _ _).trans (li.grown_drewN _ _ _) | exact (grown_drew _ _).trans (World.grownBy_alloc _ _ _) | exact (li.grown_drewN _ _ _).trans (World.grownBy_alloc _ _ _))).mono ?_); rintro e v6 ⟨h6, i6, o6, t6, rfl, hk, hg⟩; have S6 := Lib.hid (S5.out.one' (by first | exact World.grownBy.refl _ _ | exact grown_drew _ _ | exact li.grown_drewN _ _ _ | exact World.grownBy_alloc _ _ _ | exact (World.grownBy_alloc _ _ _).trans (grown_drew _ _) | exact (World.grownBy_alloc _ _ _).trans (li.grown_drewN _ _ _) | exact (grown_drew _ _).trans (World.grownBy_alloc _ _ _) | exact (li.grown_drewN _ _ _).trans (World.grownBy_alloc _ _ _)) hk hg); have X6 := Lib.hid (X5.out.far (by first | exact World.grownBy.refl _ _ | exact grown_drew _ _ | exact li.grown_drewN _ _ _ | exact World.grownBy_alloc _ _ _ | exact (World.grownBy_alloc _ _ _).trans (grown_drew _ _) | exact (World.grownBy_alloc _ _ _).trans (li.grown_drewN _ _ _) | exact (grown_drew _ _).trans (World.grownBy_alloc _ _ _) | exact (li.grown_drewN _ _ _).trans (World.grownBy_alloc _ _ _)) S5.out.k1 hg); have f6 := X6.out.f; (first | (have D6 := Lib.hid (Mx.kept (B := (w5).heap.size) (r := 0) (h := 0) (i := 0) (o := 0) (l := 0) (by exact Mx.made w5 0 0 0 0 0) hg (by have := S5.out.k1.lt; simp; omega)); obtain ⟨d0, d1, d2, d3, d4⟩ := D6.out.f; have z0 := D6.out.free 0; have z1 := D6.out.free 1; have z2 := D6.out.free 2; have z3 := D6.out.free 3; have z4 := D6.out.free 4; have lt6 := D6.out.lt) | skip); clear hk hg))
    all_goals
      go_wp2
      go_meet
      first | with_reducible exact Cq.old S6.out X6.out D6.out (S5.out.grown.size) (by have := X5.out.lt; omega) | with_reducible exact (Cq.old S6.out X6.out D6.out (S5.out.grown.size) (by have := X5.out.lt; omega)).new (grown_drew _ _) | with_reducible exact (Cq.old S6.out X6.out D6.out (S5.out.grown.size) (by have := X5.out.lt; omega)).new (li.grown_drewN _ _ _) | with_reducible exact Cq.made S6.out X6.out | with_reducible exact (Cq.made S6.out X6.out).new (grown_drew _ _) | with_reducible exact (Cq.made S6.out X6.out).new (li.grown_drewN _ _ _) | with_reducible exact Cq.made (S6.out.new (grown_drew _ _)) (X6.out.new (grown_drew _ _)) | with_reducible exact (Cq.made (S6.out.new (grown_drew _ _)) (X6.out.new (grown_drew _ _))).new (grown_drew _ _) | with_reducible exact (Cq.made (S6.out.new (grown_drew _ _)) (X6.out.new (grown_drew _ _))).new (li.grown_drewN _ _ _) | with_reducible exact Cq.made (S6.out.new (li.grown_drewN _ _ _)) (X6.out.new (li.grown_drewN _ _ _)) | with_reducible exact (Cq.made (S6.out.new (li.grown_drewN _ _ _)) (X6.out.new (li.grown_drewN _ _ _))).new (grown_drew _ _) | with_reducible exact (Cq.made (S6.out.new (li.grown_drewN _ _ _)) (X6.out.new (li.grown_drewN _ _ _))).new (li.grown_drewN _ _ _)
  case rest =>
    obtain ⟨B13, M6, h6, i6, o6, t6, rfl, rfl, hx13, hx10, hs6⟩ := hcut
    have S6 := Lib.hid hs6
    have X10 := Lib.hid hx10
    have X13 := Lib.hid hx13
    clear RB X5 f5 n0 n1 n2 S5 hx13 hx10 hs6
    go_upto_region 7 with fail
    have RB := Lib.hid (fun n' d' (h1 : n' ≤ 60) (h2 : n' ≤ l3) W (hg : wc.grownBy W none) => run_any (w := W) (c2 := d') (S6.out.new hg).k2 (by omega) ((O3.out.less h2).kept (S6.out.new hg).grown (by simp)) S6.out.b2 h1)
    have f6 := X10.out.f
    have n1 : ¬ (B10 = wc.heap.size) := by have := X10.out.lt; omega
    have n2 : ¬ (wc.heap.size = B10) := by have := X10.out.lt; omega
    have lt10 : B10 < wc.heap.size := X10.out.lt
    go_cut [15, 16] (fun p q wx => Cr w g g2 B13 M6 r0 h6 i6 o6 t6 p q wx)
    case first =>
      go_region_held3 (fun W => W.cell? ⟨B10, 0, none⟩ = some (.int .i64 r0) ∧ W.cell? ⟨B10, 1, none⟩ = some (.int .i64 h4) ∧ W.cell? ⟨B10, 2, none⟩ = some (.int .i64 i4) ∧ W.cell? ⟨B10, 3, none⟩ = some (.int .i64 o4) ∧ W.cell? ⟨B10, 4, none⟩ = some (.int .i64 t4)) (first | with_reducible exact f6 | with_reducible exact f7 | go_keep) (first
        | (go_at_call 10; (with_reducible refine (FW3.out _).mono ?_); rintro e w' ⟨⟨n7, d7, hq1, hq2, rfl⟩, rfl⟩; have HL7 := Lib.hid hq1; have HM7 := Lib.hid hq2; clear hq1 hq2)
        | (go_at_call 7; (with_reducible refine (RB.out _ _ HL7.out HM7.out _ (by first | exact World.grownBy.refl _ _ | exact grown_drew _ _ | exact li.grown_drewN _ _ _ | exact World.grownBy_alloc _ _ _ | exact (World.grownBy_alloc _ _ _).trans (grown_drew _ _) | exact (World.grownBy_alloc _ _ _).trans (li.grown_drewN _ _ _) | exact (grown_drew _ _).trans (World.grownBy_alloc _ _ _) | exact (li.grown_drewN _ _ _).trans (World.grownBy_alloc _ _ _))).mono ?_); rintro e v7 ⟨h7, i7, o7, t7, rfl, hk, hg⟩; have S7 := Lib.hid (S6.out.two' (by first | exact World.grownBy.refl _ _ | exact grown_drew _ _ | exact li.grown_drewN _ _ _ | exact World.grownBy_alloc _ _ _ | exact (World.grownBy_alloc _ _ _).trans (grown_drew _ _) | exact (World.grownBy_alloc _ _ _).trans (li.grown_drewN _ _ _) | exact (grown_drew _ _).trans (World.grownBy_alloc _ _ _) | exact (li.grown_drewN _ _ _).trans (World.grownBy_alloc _ _ _)) hk hg); have X7 := Lib.hid (X10.out.far (by first | exact World.grownBy.refl _ _ | exact grown_drew _ _ | exact li.grown_drewN _ _ _ | exact World.grownBy_alloc _ _ _ | exact (World.grownBy_alloc _ _ _).trans (grown_drew _ _) | exact (World.grownBy_alloc _ _ _).trans (li.grown_drewN _ _ _) | exact (grown_drew _ _).trans (World.grownBy_alloc _ _ _) | exact (li.grown_drewN _ _ _).trans (World.grownBy_alloc _ _ _)) S6.out.k2 hg); have Y7 := Lib.hid (X13.out.far (by first | exact World.grownBy.refl _ _ | exact grown_drew _ _ | exact li.grown_drewN _ _ _ | exact World.grownBy_alloc _ _ _ | exact (World.grownBy_alloc _ _ _).trans (grown_drew _ _) | exact (World.grownBy_alloc _ _ _).trans (li.grown_drewN _ _ _) | exact (grown_drew _ _).trans (World.grownBy_alloc _ _ _) | exact (li.grown_drewN _ _ _).trans (World.grownBy_alloc _ _ _)) S6.out.k2 hg); have f7 := X7.out.f; (first | (have D7 := Lib.hid (Mx.kept (B := (wc).heap.size) (r := 0) (h := 0) (i := 0) (o := 0) (l := 0) (by exact Mx.made wc 0 0 0 0 0) hg (by have := S6.out.k2.lt; simp; omega)); obtain ⟨d0, d1, d2, d3, d4⟩ := D7.out.f; have z0 := D7.out.free 0; have z1 := D7.out.free 1; have z2 := D7.out.free 2; have z3 := D7.out.free 3; have z4 := D7.out.free 4; have lt7 := D7.out.lt) | skip); clear hk hg))
      all_goals
        go_wp2
        go_meet
        first | with_reducible exact Cr.old S7.out Y7.out D7.out (S6.out.grown.size) (by have := X13.out.lt; omega) | with_reducible exact (Cr.old S7.out Y7.out D7.out (S6.out.grown.size) (by have := X13.out.lt; omega)).new (grown_drew _ _) | with_reducible exact (Cr.old S7.out Y7.out D7.out (S6.out.grown.size) (by have := X13.out.lt; omega)).new (li.grown_drewN _ _ _) | with_reducible exact Cr.made S7.out Y7.out | with_reducible exact (Cr.made S7.out Y7.out).new (grown_drew _ _) | with_reducible exact (Cr.made S7.out Y7.out).new (li.grown_drewN _ _ _) | with_reducible exact Cr.made (S7.out.new (grown_drew _ _)) (Y7.out.new (grown_drew _ _)) | with_reducible exact (Cr.made (S7.out.new (grown_drew _ _)) (Y7.out.new (grown_drew _ _))).new (grown_drew _ _) | with_reducible exact (Cr.made (S7.out.new (grown_drew _ _)) (Y7.out.new (grown_drew _ _))).new (li.grown_drewN _ _ _) | with_reducible exact Cr.made (S7.out.new (li.grown_drewN _ _ _)) (Y7.out.new (li.grown_drewN _ _ _)) | with_reducible exact (Cr.made (S7.out.new (li.grown_drewN _ _ _)) (Y7.out.new (li.grown_drewN _ _ _))).new (grown_drew _ _) | with_reducible exact (Cr.made (S7.out.new (li.grown_drewN _ _ _)) (Y7.out.new (li.grown_drewN _ _ _))).new (li.grown_drewN _ _ _)
    case rest =>
      obtain ⟨B15, M7, h7, i7, o7, t7, rfl, rfl, hx15, hx13, hs7⟩ := hcut
      have F := Lib.hid (Fs.mk (hs7.new (World.grownBy_alloc _ (.cells #[.int .i64 0, .int .i64 0, .int .i64 0, .int .i64 0, .bool false] 43) none)) (hx13.new (World.grownBy_alloc _ _ none)) (hx15.new (World.grownBy_alloc _ _ none)) (Bo.zero _))
      obtain ⟨x0, x1, x2, x3, x4⟩ := F.out.x13.f
      obtain ⟨y0, y1, y2, y3, y4⟩ := F.out.x15.f
      clear hx15 hx13 hs7
      go_wp2_with (first
        | (go_at_call 19; (with_reducible refine (told_any F.out.cs.k1).mono ?_); rintro e w9 ⟨rfl, hg⟩; have F := Lib.hid (F.out.new hg); obtain ⟨x0, x1, x2, x3, x4⟩ := F.out.x13.f; obtain ⟨y0, y1, y2, y3, y4⟩ := F.out.x15.f; clear hg)
        | (go_at_call 19; (with_reducible refine (told_any F.out.cs.k2).mono ?_); rintro e w9 ⟨rfl, hg⟩; have F := Lib.hid (F.out.new hg); obtain ⟨x0, x1, x2, x3, x4⟩ := F.out.x13.f; obtain ⟨y0, y1, y2, y3, y4⟩ := F.out.x15.f; clear hg)
        | (go_at_call 11; (with_reducible refine (Put_nil _ _).mono ?_); rintro e w9 ⟨rfl, hg⟩; have F := Lib.hid (F.out.new hg); obtain ⟨x0, x1, x2, x3, x4⟩ := F.out.x13.f; obtain ⟨y0, y1, y2, y3, y4⟩ := F.out.x15.f; clear hg)
        | (go_at_call 11; (with_reducible refine (Put_odd F.out.od _).mono ?_); rintro e w' ⟨rfl, rfl⟩)
        | (go_at_call 12; (with_reducible refine (Take_nil _ _).mono ?_); rintro e w9 ⟨rfl, hg⟩; have F := Lib.hid (F.out.new hg); obtain ⟨x0, x1, x2, x3, x4⟩ := F.out.x13.f; obtain ⟨y0, y1, y2, y3, y4⟩ := F.out.x15.f; clear hg)
        | (go_at_call 12; (with_reducible refine (Take_odd F.out.od _).mono ?_); rintro e w' ⟨rfl, rfl⟩)
        | (go_at_call 13; (with_reducible refine (Spend_nil _ _).mono ?_); rintro e w9 ⟨rfl, hg⟩; have F := Lib.hid (F.out.new hg); obtain ⟨x0, x1, x2, x3, x4⟩ := F.out.x13.f; obtain ⟨y0, y1, y2, y3, y4⟩ := F.out.x15.f; clear hg)
        | (go_at_call 13; (with_reducible refine (Spend_odd F.out.od _).mono ?_); rintro e w9 ⟨rfl, hg⟩; have F := Lib.hid (F.out.new hg); obtain ⟨x0, x1, x2, x3, x4⟩ := F.out.x13.f; obtain ⟨y0, y1, y2, y3, y4⟩ := F.out.x15.f; clear hg)
        | (go_at_call 14; (with_reducible refine (Balance_nil _).mono ?_); rintro e w9 ⟨rfl, hg⟩; have F := Lib.hid (F.out.new hg); obtain ⟨x0, x1, x2, x3, x4⟩ := F.out.x13.f; obtain ⟨y0, y1, y2, y3, y4⟩ := F.out.x15.f; clear hg)
        | (go_at_call 14; (with_reducible refine (Balance_any (h := 0) F.out.od (by omega) (by omega) (by omega)).mono ?_); rintro e w9 ⟨rfl, hg⟩; have F := Lib.hid (F.out.new hg); obtain ⟨x0, x1, x2, x3, x4⟩ := F.out.x13.f; obtain ⟨y0, y1, y2, y3, y4⟩ := F.out.x15.f; clear hg)
        | (go_at_call 15; (with_reducible refine (In_nil _).mono ?_); rintro e w9 ⟨rfl, hg⟩; have F := Lib.hid (F.out.new hg); obtain ⟨x0, x1, x2, x3, x4⟩ := F.out.x13.f; obtain ⟨y0, y1, y2, y3, y4⟩ := F.out.x15.f; clear hg)
        | (go_at_call 15; (with_reducible refine (In_any F.out.od).mono ?_); rintro e w' ⟨rfl, rfl⟩)
        | (go_at_call 16; (with_reducible refine (Out_nil _).mono ?_); rintro e w9 ⟨rfl, hg⟩; have F := Lib.hid (F.out.new hg); obtain ⟨x0, x1, x2, x3, x4⟩ := F.out.x13.f; obtain ⟨y0, y1, y2, y3, y4⟩ := F.out.x15.f; clear hg)
        | (go_at_call 16; (with_reducible refine (Out_any F.out.od).mono ?_); rintro e w' ⟨rfl, rfl⟩)
        | (go_at_call 17; (with_reducible refine (Lost_nil _).mono ?_); rintro e w9 ⟨rfl, hg⟩; have F := Lib.hid (F.out.new hg); obtain ⟨x0, x1, x2, x3, x4⟩ := F.out.x13.f; obtain ⟨y0, y1, y2, y3, y4⟩ := F.out.x15.f; clear hg)
        | (go_at_call 17; (with_reducible refine (Lost_any F.out.od).mono ?_); rintro e w' ⟨rfl, rfl⟩)
        | (go_at_call 18; (with_reducible refine (Clone_nil _).mono ?_); rintro e w9 ⟨rfl, hg⟩; have F := Lib.hid (F.out.new hg); obtain ⟨x0, x1, x2, x3, x4⟩ := F.out.x13.f; obtain ⟨y0, y1, y2, y3, y4⟩ := F.out.x15.f; clear hg)
        | (go_at_call 18; (with_reducible refine (Clone_odd F.out.od).mono ?_); rintro e w' ⟨rfl, rfl⟩))
      go_ret
      exact ⟨rfl, F.out.cs.grown⟩

end Go.Proofs.Ytamfbpoaohmkaaa.bn
