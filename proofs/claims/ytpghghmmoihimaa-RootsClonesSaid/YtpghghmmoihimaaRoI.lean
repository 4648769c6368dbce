/- The walk of RootsClones. -/
import Derived.Test.YtpghghmmoihimaaRoF
namespace Go.Proofs.Ytpghghmmoihimaa.ro
open Go.ChangeShapes Go.WideShapes Go.ChangeAt Go.RowKit gen li va wd
set_option linter.unusedVariables false
set_option maxHeartbeats 16000000
set_option maxRecDepth 100000
/-- A row of one's own that is written on. -/
def Wr (w : World) (base : Nat) (A : Option Addr) (N : Nat) : Prop := N = 0 ∨ ∃ q cs, A = some ⟨q, 0, none⟩ ∧ base ≤ q ∧ w.heap[q]? = some (.cells cs 29 (0, 0)) ∧ N * 2 ≤ cs.size
theorem Rt.le {w : World} {g : Nat} {m : List Va} (h : Rt w g m) : m.length ≤ 16 := h.2
theorem Wr.of {w : World} {base N c : Nat} {A : Option Addr} {m : List Va} (h : Lv w base (.slice A N c) m) : Wr w base A N := by
  rcases h.2 with ⟨e, hz⟩ | ⟨g, cap, cur, e, hb, hg, h1, h2, h3, h4⟩
  · injection e with _ e _
    exact .inl e
  · injection e with e1 e2 e3
    subst e1 e2
    exact .inr ⟨g, cur, rfl, hb, hg, by omega⟩
/-- All that stands behind the clone. -/
structure Cs (w : World) (g g2 : Nat) (A : Option Addr) (N c : Nat) (m : List Va) (A2 : Option Addr) (N2 c2 : Nat) (m2 : List Va) (cur : World) : Prop where
  grown : w.grownBy cur none
  r1 : Rt cur g m
  r2 : Rt cur g2 m2
  l1 : Lv cur 0 (.slice A N c) m
  l2 : Lv cur 0 (.slice A2 N2 c2) m2
  n1 : N = m.length
  n2 : N2 = m2.length
  b1 : w.heap.size ≤ g
  b2 : w.heap.size ≤ g2
  ne : g ≠ g2
section
variable {w : World} {g g2 : Nat} {A : Option Addr} {N c : Nat} {m : List Va} {A2 : Option Addr} {N2 c2 : Nat} {m2 : List Va} {cur cur' : World}
theorem Cs.new (h : Cs w g g2 A N c m A2 N2 c2 m2 cur) (hg : cur.grownBy cur' none) : Cs w g g2 A N c m A2 N2 c2 m2 cur' :=
  ⟨h.grown.trans hg, h.r1.new hg, h.r2.new hg, h.l1.new hg, h.l2.new hg, h.n1, h.n2, h.b1, h.b2, h.ne⟩
theorem Cs.one (h : Cs w g g2 A N c m A2 N2 c2 m2 cur) {A' : Option Addr} {N' c' : Nat} {m' : List Va} (hr : Rt cur' g m') (hl : Lv cur' 0 (.slice A' N' c') m') (hn : N' = m'.length) (hg : cur.grownBy cur' (some g)) : Cs w g g2 A' N' c' m' A2 N2 c2 m2 cur' :=
  ⟨grown_new h.grown hg h.b1, hr, h.r2.kept hg (by have := h.ne; simp; omega), hl, h.l2.kept hg (.inr (off_g h.l2 h.r1)), hn, h.n2, h.b1, h.b2, h.ne⟩
theorem Cs.two (h : Cs w g g2 A N c m A2 N2 c2 m2 cur) {A' : Option Addr} {N' c' : Nat} {m' : List Va} (hr : Rt cur' g2 m') (hl : Lv cur' 0 (.slice A' N' c') m') (hn : N' = m'.length) (hg : cur.grownBy cur' (some g2)) : Cs w g g2 A N c m A' N' c' m' cur' :=
  ⟨grown_new h.grown hg h.b2, h.r1.kept hg (by have := h.ne; simp; omega), hr, h.l1.kept hg (.inr (off_g h.l1 h.r2)), hl, h.n1, hn, h.b1, h.b2, h.ne⟩
end
/-- The same beside two values, both nothing. -/
structure Fs (w : World) (g g2 : Nat) (A : Option Addr) (N c : Nat) (m : List Va) (A2 : Option Addr) (N2 c2 : Nat) (m2 : List Va) (p q : Nat) (cur : World) : Prop where
  cs : Cs w g g2 A N c m A2 N2 c2 m2 cur
  t1 : Two cur p 0 0
  t2 : Two cur q 0 0
theorem Fs.new {w : World} {g g2 : Nat} {A : Option Addr} {N c : Nat} {m : List Va} {A2 : Option Addr} {N2 c2 : Nat} {m2 : List Va} {p q : Nat} {cur cur' : World} (h : Fs w g g2 A N c m A2 N2 c2 m2 p q cur) (hg : cur.grownBy cur' none) : Fs w g g2 A N c m A2 N2 c2 m2 p q cur' :=
  ⟨h.cs.new hg, Two.below (li.grown_below hg) h.t1, Two.below (li.grown_below hg) h.t2⟩
theorem Fs.made {w : World} {g g2 : Nat} {A : Option Addr} {N c : Nat} {m : List Va} {A2 : Option Addr} {N2 c2 : Nat} {m2 : List Va} {wp wg : World} (h : Cs w g g2 A N c m A2 N2 c2 m2 wp) (hg : (wp.alloc (.cells #[.int .i64 0, .int .i64 0] 29)).grownBy wg none) :
    Fs w g g2 A N c m A2 N2 c2 m2 wp.heap.size wg.heap.size (wg.alloc (.cells #[.int .i64 0, .int .i64 0] 29)) :=
  ⟨((h.new (World.grownBy_alloc _ _ _)).new hg).new (World.grownBy_alloc _ _ _), Two.below (li.grown_below (World.grownBy_alloc _ _ _)) (Two.below (li.grown_below hg) (Two.new wp _ 0 0 rfl)), Two.new wg _ 0 0 rfl⟩
theorem RootsClones_any (D1 : Option Addr) (l1 c1 : Nat) (f1 : Nat → Nat → Int) (D2 : Option Addr) (l2 c2 : Nat) (f2 : Nat → Nat → Int) (D3 : Option Addr) (l3 c3 : Nat) (f3 : Nat → Nat → Int) (w : World)
    (ha1 : l1 ≤ c1) (hb1 : c1 ≤ maxLen) (ho1 : Rws w w.heap.size D1 l1 4 f1) (ha2 : l2 ≤ c2) (hb2 : c2 ≤ maxLen) (ho2 : Rws w w.heap.size D2 l2 4 f2) (ha3 : l3 ≤ c3) (hb3 : c3 ≤ maxLen) (ho3 : Rws w w.heap.size D3 l3 4 f3) :
    Calls Try.prog 4 #[.slice D1 l1 c1, .slice D2 l2 c2, .slice D3 l3 c3] w fun e w' => e = .returned (.bool true) ∧ w.grownBy w' none := by
  have O1 := Lib.hid ho1
  have O2 := Lib.hid ho2
  have O3 := Lib.hid ho3
  have FW1 := Lib.hid (fun w => few_any D1 l1 c1 w ha1 hb1 ho1.some)
  have FW2 := Lib.hid (fun w => few_any D2 l2 c2 w ha2 hb2 ho2.some)
  have FW3 := Lib.hid (fun w => few_any D3 l3 c3 w ha3 hb3 ho3.some)
  clear ho1 ho2 ho3 ha1 ha2 ha3 hb1 hb2 hb3
  go_enter Try.func4, Try.ntmps4
  go_wp2_with (first
    | (go_at_call 6; (with_reducible refine (alive_any _).mono ?_); rintro e w1 ⟨rfl, hg⟩; have G1 := Lib.hid hg; have R1 := Lib.hid (Rt.zero w1); have G2 := Lib.hid (hg.trans (grown_zero w1)); have LE := Lib.hid hg.size; clear hg)
    | (go_at_call 7; (with_reducible refine (run_any R1.out (Lv.nil _ _) rfl ((O1.out.less P1.out).kept G2.out (by simp)) LE.out Q1.out).mono ?_); rintro e w2 ⟨A1, N1, c1, m1, rfl, hn1, hr1, hl1, hg1⟩; have HN1 := Lib.hid hn1; have R2 := Lib.hid hr1; have L2 := Lib.hid hl1; have G3 := Lib.hid (grown_new G1.out (grown_then (grown_zero w1) hg1) LE.out); clear hn1 hr1 hl1 hg1)
    | (go_at_call 9; (with_reducible refine (Clone_any R2.out).mono ?_); rintro e w3 ⟨g2, rfl, hr, hge, hg⟩; have S3 := Lib.hid (Cs.mk (G3.out.trans hg) (R2.out.new hg) hr (L2.out.new hg) (L2.out.new hg) HN1.out HN1.out LE.out (by have := G3.out.size; omega) (by have := R2.out.lt; omega)); clear hr hge hg)
    | (go_at_call 10; (with_reducible refine (All_any S3.out.r1).mono ?_); rintro e w4 ⟨A4, c4, rfl, hl4, hg4⟩; have W4 := Lib.hid (Wr.of hl4); have S4 := Lib.hid (S3.out.new hg4); have G4 := Lib.hid hg4; clear hl4 hg4)
    | (go_at_call 8; (with_reducible refine (FW1.out _).mono ?_); rintro e w' ⟨⟨n1, d1, hq1, hq2, rfl⟩, rfl⟩; have Q1 := Lib.hid hq1; have P1 := Lib.hid hq2; clear hq1 hq2))
  have S5 := S4
  go_loopw [12] (fun i wr => ∃ k : Nat, k ≤ m1.length ∧ i = .int .i64 k ∧ Wr wr w3.heap.size A4 m1.length ∧ w3.grownBy wr none) (fun i _ => m1.length - (intOf i).toNat)
  case atStart => exact ⟨0, Nat.zero_le _, rfl, W4.out, G4.out⟩
  case round =>
    obtain ⟨k, hk, rfl, hw, hg⟩ := hrel
    clear S5
    by_cases hlt : k < m1.length
    · rcases hw with h0 | ⟨q, cs, rfl, hq, hh, hsz⟩
      · omega
      · have k0 := cell_of_row wr q (k * 2) _ _ _ hh
        have k1 := cell_of_row wr q (k * 2 + 1) _ _ _ hh
        rw [Array.getElem?_eq_getElem (by omega)] at k0 k1
        have z0 := frozen_of_row wr q (k * 2) _ _ hh
        have z1 := frozen_of_row wr q (k * 2 + 1) _ _ hh
        have HH := Lib.hid hh
        have GG := Lib.hid hg
        have HQ := Lib.hid hq
        have l1 : (0 : Int) ≤ (k : Int) := by omega
        have l2 : (k : Int) < m1.length := by omega
        have SZ := Lib.hid hsz
        have l16 := Rt.le S3.out.r1
        generalize cs[k * 2] = v0 at k0
        generalize cs[k * 2 + 1] = v1 at k1
        clear hh hg hq hsz
        go_wp2
        have h1 := heap_setCell_same wr q (k * 2) _ _ (.int .i64 7) HH.out
        have h2 := heap_setCell_same _ q (k * 2 + 1) _ _ (.int .i64 0) h1
        exact ⟨⟨k + 1, by omega, by go_num, .inr ⟨q, _, rfl, HQ.out, h2, by have := SZ.out; simpa using this⟩, grown_new GG.out ((grown_set _ _ _ _).trans (grown_set _ _ _ _)) HQ.out⟩, by simp [intOf]; omega⟩
    · have S5 := Lib.hid (S3.out.new hg)
      clear hw hg
      go_wp2_with (first
    | (have mark := S6; go_at_call 8; (with_reducible refine (FW3.out _).mono ?_); rintro e w' ⟨⟨n3, d3, hq1, hq2, rfl⟩, rfl⟩; have Q3 := Lib.hid hq1; have P3 := Lib.hid hq2; clear hq1 hq2)
    | (have mark := S6; go_at_call 7; (with_reducible refine (run_any S6.out.r2 S6.out.l2 S6.out.n2 ((O3.out.less P3.out).kept S6.out.grown (by simp)) S6.out.b2 Q3.out).mono ?_); rintro e w7 ⟨A7, N7, c7, m7, rfl, hn7, hr7, hl7, hg7⟩; have S7 := Lib.hid (S6.out.two hr7 hl7 hn7 hg7); clear hn7 hr7 hl7 hg7)
    | (have mark := S5; go_at_call 8; (with_reducible refine (FW2.out _).mono ?_); rintro e w' ⟨⟨n2, d2, hq1, hq2, rfl⟩, rfl⟩; have Q2 := Lib.hid hq1; have P2 := Lib.hid hq2; clear hq1 hq2)
    | (go_at_call 7; (with_reducible refine (run_any S5.out.r1 S5.out.l1 S5.out.n1 ((O2.out.less P2.out).kept S5.out.grown (by simp)) S5.out.b1 Q2.out).mono ?_); rintro e w6 ⟨A6, N6, c6, m6, rfl, hn6, hr6, hl6, hg6⟩; have S6 := Lib.hid (S5.out.one hr6 hl6 hn6 hg6); clear hn6 hr6 hl6 hg6)
    | (go_at_call 11; (with_reducible refine (Clear_nil _).mono ?_); rintro e w' ⟨rfl, rfl⟩; skip)
    | (go_at_call 12; (with_reducible refine (Pop_nil _).mono ?_); rintro e wp ⟨rfl, hg⟩; have S7 := Lib.hid (S7.out.new hg); have GP := Lib.hid hg; clear hg)
    | (go_at_call 13; (with_reducible refine (Get_nil _ _).mono ?_); rintro e wg ⟨rfl, hg⟩; have F := Lib.hid (Fs.made S7.out hg); clear hg)
    | (go_at_call 10; (with_reducible refine (All_any F.out.cs.r1).mono ?_); rintro e w9 ⟨A9, c9, rfl, hl9, hg9⟩; have V := Lib.hid (hl9.rv rfl); have F := Lib.hid (F.out.new hg9); clear hl9 hg9)
    | (go_at_call 10; (with_reducible refine (All_any F.out.cs.r2).mono ?_); rintro e w9 ⟨A9, c9, rfl, hl9, hg9⟩; have V := Lib.hid (hl9.rv rfl); have F := Lib.hid (F.out.new hg9); clear hl9 hg9)
    | (go_at_call 10; (with_reducible refine (All_nil _).mono ?_); rintro e w9 ⟨A9, c9, rfl, hl9, hg9⟩; have F := Lib.hid (F.out.new hg9); clear hl9 hg9)
    | (go_at_call 14; (with_reducible refine (Values_true m6 _ _ _ _ _ _ _ _ _ (by have := Rt.le F.out.cs.r1; omega) F.out.cs.n1.symm V.out (F.out.cs.l1.rv F.out.cs.n1)).mono ?_); rintro e wn ⟨rfl, q, rfl⟩; have F := Lib.hid (F.out.new (li.grown_drewN _ q none)))
    | (go_at_call 14; (with_reducible refine (Values_true m7 _ _ _ _ _ _ _ _ _ (by have := Rt.le F.out.cs.r2; omega) F.out.cs.n2.symm V.out (F.out.cs.l2.rv F.out.cs.n2)).mono ?_); rintro e wn ⟨rfl, q, rfl⟩; have F := Lib.hid (F.out.new (li.grown_drewN _ q none)))
    | (go_at_call 15; (with_reducible refine (Push_nil _ _ _).mono ?_); rintro e w10 ⟨rfl, hg⟩; have F := Lib.hid (F.out.new hg); obtain ⟨x0, x1, _, _⟩ := F.out.t1; obtain ⟨y0, y1, _, _⟩ := F.out.t2; clear hg)
    | (go_at_call 16; (with_reducible refine (Len_nil _).mono ?_); rintro e w' ⟨rfl, rfl⟩)
    | (go_at_call 17; (with_reducible refine (Refs_nil _).mono ?_); rintro e w' ⟨rfl, rfl⟩)
    | (go_at_call 9; (with_reducible refine (Clone_nil _).mono ?_); rintro e w' ⟨rfl, rfl⟩))
      go_ret
      exact ⟨rfl, F.out.cs.grown⟩
end Go.Proofs.Ytpghghmmoihimaa.ro
