/- The walks of the statements on runs of calls, and on clones. -/
import Derived.Test.YtkhnggkdlilabaaPgJ
namespace Go.Proofs.Ytkhnggkdlilabaa.pg
open Go.ChangeShapes Go.WideShapes Go.ChangeAt Go.RowKit gen calls cls li
set_option linter.unusedVariables false

set_option maxRecDepth 100000 in
set_option maxHeartbeats 4000000 in
theorem PageRuns_any (n : Int) (D : Option Addr) (l c2 : Nat) (f : Nat → Nat → Int) (w : World) (hc : l ≤ c2) (hc2 : c2 ≤ maxLen) (ho : Rws w w.heap.size D l 2 f) :
    Calls Try.prog 3 #[.int .i64 n, .slice D l c2] w fun e w' => e = .returned (.bool true) ∧ w.grownBy w' none := by
  obtain ⟨k, hk, hk2⟩ := near_nat n 64
  have HK : Hid (near n 0 64 = (k : Int)) := Lib.hid hk
  have HO := Lib.hid ho
  have HD := Lib.hid (show 0 < l → ∃ ad, D = some ad from ho.some)
  have HL1 := Lib.hid hc
  have HL2 := Lib.hid hc2
  have HKS := Lib.hid (Ks.zero k)
  have ZL := Lib.hid (show (List.replicate k (0 : Int)).length = k by simp)
  have RN := Lib.hid (fun w => rNew_any n k hk w)
  have NW := Lib.hid (fun w => New_any n k hk w)
  clear hk ho hc hc2
  generalize List.replicate k (0 : Int) = zs at *
  go_enter Try.func3, Try.ntmps3
  go_wp2_with (first
    | (go_at_call 6; (with_reducible refine (alive_any _).mono ?_); rintro e w1 ⟨rfl, hg⟩; have G1 := Lib.hid hg; clear hg)
    | (go_at_call 8; (with_reducible refine (NW.out _).mono ?_); rintro e w2 ⟨g, r, rfl, hm, hg, hr, hw⟩; have M2 := Lib.hid hm; have G2 := Lib.hid (G1.out.trans hw); have HR := Lib.hid (show w.heap.size ≤ r by have := G1.out.size; omega); clear hm hw hg hr)
    | (go_at_call 9; (with_reducible refine (RN.out _).mono ?_); rintro e w3 ⟨r3, rfl, ho3, hw⟩; have L3 := Lib.hid (own_lst ho3 ZL.out M2.out.lt.2); have M3 := Lib.hid (M2.out.kept hw (by simp) (by simp)); have G3 := Lib.hid (G2.out.trans hw); clear ho3 hw)
    | (go_at_call 10; (with_reducible refine (few_any _ _ _ _ HL1.out HL2.out HD.out).mono ?_); rintro e w' ⟨⟨l2, c3, hl1, hl2, rfl⟩, rfl⟩)
    | (go_at_call 7; (with_reducible refine (run_any M3.out HKS.out ZL.out L3.out ((HO.out.less hl2).kept G3.out (by simp)) HR.out hl1).mono ?_); rintro e w5 ⟨A5, c5, ys, rfl, _, _, _, _, hg5, _⟩; have G5 := Lib.hid (grown_new G3.out hg5 HR.out); clear hg5))
  go_ret
  exact ⟨rfl, G5.out⟩

theorem Lst.old {w w' : World} {r r2 : Nat} {v : Value} {xs : List Int} (h : Lst w r v xs) (hg : w.grownBy w' none) (hr : w.heap.size ≤ r2) : Lst w' r2 v xs := by
  refine ⟨(h.made hg).1, fun e => ?_⟩
  have := (h.1.lt _ e).2
  omega
theorem Lst.across {w w' : World} {r r2 : Nat} {v : Value} {xs : List Int} (h : Lst w r v xs) (h2 : Lst w r2 v xs) (hg : w.grownBy w' (some r)) : Lst w' r2 v xs := ⟨(h.grown hg).1, h2.2⟩
theorem Lst.from {w w1 w2 : World} {r r2 : Nat} {v v' : Value} {ys : List Int} (h : Lst w1 r v' ys) (hf : From w v v') (hv : v.ownBlock ≠ some r2) (hr : r2 < w.heap.size) (hg : w1.grownBy w2 (some r2)) : Lst w2 r v' ys := by
  refine h.kept hg (.inr fun e => ?_)
  rcases hf _ e with h1 | h1
  · omega
  · exact hv h1
/-- All that stands behind the three runs. -/
structure Cl (w : World) (g r g2 r2 o : Nat) (v v2 : Value) (ys y2 : List Int) (cur : World) : Prop where
  grown : w.grownBy cur none
  tab : Tab cur g r ys
  tab2 : Tab cur g2 r2 y2
  lst : Lst cur r v ys
  lst2 : Lst cur r2 v2 y2
  odd : Nobody cur (some ⟨o, 0, none⟩)
theorem Cl.go {w : World} {g r g2 r2 o : Nat} {v v2 : Value} {ys y2 : List Int} {cur cur' : World} (h : Cl w g r g2 r2 o v v2 ys y2 cur) (hg : cur.grownBy cur' none) : Cl w g r g2 r2 o v v2 ys y2 cur' :=
  ⟨h.grown.trans hg, h.tab.kept hg (by simp) (by simp), h.tab2.kept hg (by simp) (by simp), h.lst.made hg, h.lst2.made hg, h.odd.kept hg rfl⟩
theorem Cl.new {w : World} {g r g2 r2 : Nat} {v v2 : Value} {ys y2 : List Int} {cur : World} (h1 : w.grownBy cur none) (h2 : Tab cur g r ys) (h3 : Tab cur g2 r2 y2) (h4 : Lst cur r v ys) (h5 : Lst cur r2 v2 y2) :
    Cl w g r g2 r2 cur.heap.size v v2 ys y2 (cur.alloc (.cells #[.slice none 0 0] 40)) :=
  have hg := World.grownBy_alloc cur (.cells #[.slice none 0 0] 40) none
  ⟨h1.trans hg, h2.kept hg (by simp) (by simp), h3.kept hg (by simp) (by simp), h4.made hg, h5.made hg, .inr ⟨_, rfl, by simp [go_sem]⟩⟩

set_option maxRecDepth 100000 in
set_option maxHeartbeats 8000000 in
theorem PageClones_any (n : Int) (D1 : Option Addr) (l1 c1 : Nat) (f1 : Nat → Nat → Int) (D2 : Option Addr) (l2 c2 : Nat) (f2 : Nat → Nat → Int) (D3 : Option Addr) (l3 c3 : Nat) (f3 : Nat → Nat → Int) (w : World)
    (ha1 : l1 ≤ c1) (hb1 : c1 ≤ maxLen) (ho1 : Rws w w.heap.size D1 l1 2 f1) (ha2 : l2 ≤ c2) (hb2 : c2 ≤ maxLen) (ho2 : Rws w w.heap.size D2 l2 2 f2) (ha3 : l3 ≤ c3) (hb3 : c3 ≤ maxLen) (ho3 : Rws w w.heap.size D3 l3 2 f3) :
    Calls Try.prog 5 #[.int .i64 n, .slice D1 l1 c1, .slice D2 l2 c2, .slice D3 l3 c3] w fun e w' => e = .returned (.bool true) ∧ w.grownBy w' none := by
  obtain ⟨k, hk, hk2⟩ := near_nat n 64
  have R1 := Lib.hid ho1
  have R2 := Lib.hid ho2
  have R3 := Lib.hid ho3
  have FW1 := Lib.hid (fun w => few_any D1 l1 c1 w ha1 hb1 ho1.some)
  have FW2 := Lib.hid (fun w => few_any D2 l2 c2 w ha2 hb2 ho2.some)
  have FW3 := Lib.hid (fun w => few_any D3 l3 c3 w ha3 hb3 ho3.some)
  have HKS := Lib.hid (Ks.zero k)
  have ZL := Lib.hid (show (List.replicate k (0 : Int)).length = k by simp)
  have RN := Lib.hid (fun w => rNew_any n k hk w)
  have NW := Lib.hid (fun w => New_any n k hk w)
  have NP : ∀ w : World, Nobody w none := fun _ => .inl rfl
  have NP' := Lib.hid NP
  have K64 := Lib.hid hk2
  clear hk ho1 ho2 ho3 ha1 ha2 ha3 hb1 hb2 hb3 NP hk2
  generalize List.replicate k (0 : Int) = zs at *
  go_enter Try.func5, Try.ntmps5
  go_wp2_with (first
    | (go_at_call 6; (with_reducible refine (alive_any _).mono ?_); rintro e w1 ⟨rfl, hg⟩; have G1 := Lib.hid hg; clear hg)
    | (go_at_call 8; (with_reducible refine (NW.out _).mono ?_); rintro e w2 ⟨g, r, rfl, hm, hg, hr, hw⟩; have M2 := Lib.hid hm; have G2 := Lib.hid (G1.out.trans hw); have HR := Lib.hid (show w.heap.size ≤ r by have := G1.out.size; omega); clear hm hw hg hr)
    | (go_at_call 9; (with_reducible refine (RN.out _).mono ?_); rintro e w3 ⟨r3, rfl, ho3, hw⟩; have L3 := Lib.hid (own_lst ho3 ZL.out M2.out.lt.2); have M3 := Lib.hid (M2.out.kept hw (by simp) (by simp)); have G3 := Lib.hid (G2.out.trans hw); clear ho3 hw)
    | (have mark := G8; go_at_call 10; (with_reducible refine (FW3.out _).mono ?_); rintro e w' ⟨⟨m3, d3, hq1, hq2, rfl⟩, rfl⟩; have Q3 := Lib.hid hq1; have P3 := Lib.hid hq2; clear hq1 hq2)
    | (have mark := G7; go_at_call 10; (with_reducible refine (FW2.out _).mono ?_); rintro e w' ⟨⟨m2, d2, hq1, hq2, rfl⟩, rfl⟩; have Q2 := Lib.hid hq1; have P2 := Lib.hid hq2; clear hq1 hq2)
    | (go_at_call 10; (with_reducible refine (FW1.out _).mono ?_); rintro e w' ⟨⟨m1, d1, hq1, hq2, rfl⟩, rfl⟩; have Q1 := Lib.hid hq1; have P1 := Lib.hid hq2; clear hq1 hq2)
    | (have mark := G8; go_at_call 7; (with_reducible refine (run_any T8.out HK5.out HL5.out M8.out ((R3.out.less P3.out).kept G8.out (by simp)) (Nat.le_trans G6.out.size HR2.out) Q3.out).mono ?_); rintro e w9 ⟨A9, c9, y9, rfl, hl9, hk9, ht9, hm9, hg9, hf9⟩; have HL9 := Lib.hid hl9; have M9 := Lib.hid ht9; have L9 := Lib.hid hm9; have G9 := Lib.hid (grown_new G8.out hg9 (Nat.le_trans G6.out.size HR2.out)); have T9 := Lib.hid (X8.out.kept hg9 (by have := HGR.out; simp; omega) (by have := HGR.out; simp; omega)); have U9 := Lib.hid (Lst.from L8.out F8.out HNE.out HSZ.out hg9); have ST := Lib.hid (Cl.new G9.out T9.out M9.out U9.out L9.out); clear hl9 hk9 ht9 hm9 hg9 hf9)
    | (have mark := G7; go_at_call 7; (with_reducible refine (run_any X7.out HK5.out HL5.out L7.out ((R2.out.less P2.out).kept G7.out (by simp)) HR.out Q2.out).mono ?_); rintro e w8 ⟨A8, c8, y8, rfl, hl8, hk8, ht8, hm8, hg8, hf8⟩; have HL8 := Lib.hid hl8; have X8 := Lib.hid ht8; have L8 := Lib.hid hm8; have F8 := Lib.hid hf8; have G8 := Lib.hid (grown_new G7.out hg8 HR.out); have T8 := Lib.hid (T7.out.kept hg8 (by have := HGR.out; simp; omega) (by have := HGR.out; simp; omega)); have M8 := Lib.hid (Lst.across L7.out M7.out hg8); clear hl8 hk8 ht8 hm8 hg8 hf8)
    | (go_at_call 7; (with_reducible refine (run_any M3.out HKS.out ZL.out L3.out ((R1.out.less P1.out).kept G3.out (by simp)) HR.out Q1.out).mono ?_); rintro e w6 ⟨A5, c5, y5, rfl, hl5, hk5, ht5, hm5, hg5, hf5⟩; have HL5 := Lib.hid hl5; have HK5 := Lib.hid hk5; have X6 := Lib.hid ht5; have L6 := Lib.hid hm5; have G6 := Lib.hid (grown_new G3.out hg5 HR.out); clear hl5 hk5 ht5 hm5 hg5 hf5)
    | (have mark := L6; go_at_call 17; (with_reducible refine (Clone_any X6.out).mono ?_); rintro e w7 ⟨g2, r2, rfl, hm, hg, hr, hw⟩; have T7 := Lib.hid hm; have X7 := Lib.hid (X6.out.kept hw (by simp) (by simp)); have L7 := Lib.hid (L6.out.made hw); have M7 := Lib.hid (Lst.old L6.out hw hr); have HNE := Lib.hid (M7.out.2); have HSZ := Lib.hid hm.lt.2; have HGR := Lib.hid (show r < g2 ∧ r < r2 ∧ g < r2 by have := X6.out.lt; omega); have HR2 := Lib.hid hr; have G7 := Lib.hid (G6.out.trans hw); clear hm hg hr hw)
    | (go_at_call 11; (with_reducible refine (Take_none (by omega) (lowest_nobody (NP'.out _) 1)).mono ?_); rintro e wn ⟨rfl, hg⟩; have ST := Lib.hid (ST.out.go hg); clear hg)
    | (go_at_call 11; (with_reducible refine (Take_none (by omega) (lowest_nobody ST.out.odd 1)).mono ?_); rintro e wn ⟨rfl, hg⟩; have ST := Lib.hid (ST.out.go hg); clear hg)
    | (go_at_call 12; (with_reducible refine (Span_none (by omega) (lowest_nobody (NP'.out _) 1)).mono ?_); rintro e wn ⟨rfl, hg⟩; have ST := Lib.hid (ST.out.go hg); clear hg)
    | (go_at_call 12; (with_reducible refine (Span_none (by omega) (lowest_nobody ST.out.odd 1)).mono ?_); rintro e wn ⟨rfl, hg⟩; have ST := Lib.hid (ST.out.go hg); clear hg)
    | (go_at_call 14; (with_reducible refine (All_any ST.out.tab).mono ?_); rintro e wn ⟨B3, e3, rfl, ho3, hg3⟩; have RL := Lib.hid (rd_own ho3); have ST := Lib.hid (ST.out.go hg3); clear ho3 hg3)
    | (go_at_call 14; (with_reducible refine (All_any ST.out.tab2).mono ?_); rintro e wn ⟨B3, e3, rfl, ho3, hg3⟩; have RL := Lib.hid (rd_own ho3); have ST := Lib.hid (ST.out.go hg3); clear ho3 hg3)
    | (go_at_call 14; (with_reducible refine (All_nobody (NP'.out _)).mono ?_); rintro e w' ⟨rfl, rfl⟩)
    | (go_at_call 18; (with_reducible refine (Ints_true y8 _ _ _ _ _ _ _ _ _ (by rw [HL8.out]; have := K64.out; omega) HL8.out RL.out (ST.out.lst.rd' HL8.out)).mono ?_); rintro e wn ⟨rfl, q, rfl⟩; have ST := Lib.hid (ST.out.go (grown_drewN _ q _)))
    | (go_at_call 18; (with_reducible refine (Ints_true y9 _ _ _ _ _ _ _ _ _ (by rw [HL9.out]; have := K64.out; omega) HL9.out RL.out (ST.out.lst2.rd' HL9.out)).mono ?_); rintro e wn ⟨rfl, q, rfl⟩; have ST := Lib.hid (ST.out.go (grown_drewN _ q _)))
    | (go_at_call 19; (with_reducible refine (Kind_nobody (NP'.out _) _).mono ?_); rintro e w' ⟨rfl, rfl⟩)
    | (go_at_call 19; (with_reducible refine (Kind_nobody ST.out.odd _).mono ?_); rintro e w' ⟨rfl, rfl⟩)
    | (go_at_call 13; (with_reducible refine (Free_nobody (NP'.out _) _).mono ?_); rintro e w' ⟨rfl, rfl⟩)
    | (go_at_call 16; (with_reducible refine (Size_nobody (NP'.out _) _).mono ?_); rintro e w' ⟨rfl, rfl⟩)
    | (go_at_call 15; (with_reducible refine (First_nobody (NP'.out _) _).mono ?_); rintro e w' ⟨rfl, rfl⟩)
    | (go_at_call 20; (with_reducible refine (Count_nobody (NP'.out _)).mono ?_); rintro e wn ⟨rfl, hg⟩; have ST := Lib.hid (ST.out.go hg); clear hg)
    | (go_at_call 21; (with_reducible refine (Longest_nobody ST.out.odd).mono ?_); rintro e wn ⟨rfl, hg⟩; have ST := Lib.hid (ST.out.go hg); clear hg)
    | (go_at_call 17; (with_reducible refine (Clone_nobody (NP'.out _)).mono ?_); rintro e w' ⟨rfl, rfl⟩)
    | (go_at_call 17; (with_reducible refine (Clone_nobody ST.out.odd).mono ?_); rintro e w' ⟨rfl, rfl⟩))
  go_ret
  exact ⟨rfl, ST.out.grown⟩
end Go.Proofs.Ytkhnggkdlilabaa.pg
