/- The walk of the statement on clones. -/
import Derived.Test.YtkejalafpejgdaaDoorBmI
namespace Go.Proofs.YtkejalafpejgdaaDoor.bm
open Go.ChangeShapes Go.WideShapes Go.ChangeAt Go.RowKit gen
set_option linter.unusedVariables false

theorem lst_new {w w' : World} {r r' : Nat} {v : Value} {xs : List Int} (h : Lst w r v xs) (hg : w.grownBy w' none) (hr : w.heap.size ≤ r') : Lst w' r' v xs :=
  ⟨(h.made hg).1, fun e => by have := (h.1.lt r' e).2; omega⟩
/-- A list behind a run of one set is none of the other set's. -/
theorem lst_from {w w' : World} {g gk : Nat} {v v' : Value} {xs : List Int} (h : Lst w' g v' xs) (hf : From w v v') (hv : v.ownBlock ≠ some gk) (hk : gk < w.heap.size) : Lst w' gk v' xs :=
  ⟨h.1, fun e => by rcases hf gk e with h1 | h1; (omega); exact hv h1⟩
theorem odd_new (w : World) : SetAt (w.alloc (.cells #[.bool false, .int .i64 0, .int .u64 0, .int .u64 0, .int .u64 0, .int .u64 0, .int .u64 0, .int .u64 0, .int .u64 0, .int .u64 0, .int .u64 0, .int .u64 0, .int .u64 0, .int .u64 0, .int .u64 0, .int .u64 0, .int .u64 0, .int .u64 0, .int .u64 0, .int .u64 0, .int .u64 0, .int .u64 0, .int .u64 0, .int .u64 0, .int .u64 0, .int .u64 0, .int .u64 0, .int .u64 0, .int .u64 0, .int .u64 0, .int .u64 0, .int .u64 0, .int .u64 0, .int .u64 0] 36)) w.heap.size false 0 zeros :=
  ⟨heap_alloc_new w (.cells (.bool false :: .int .i64 ((0 : Nat) : Int) :: vals zeros).toArray 36), Fine.zeros (by omega)⟩
section
variable {w : World} {g : Nat}
theorem Has_odd (h : SetAt w g false 0 zeros) : Calls Tryd.prog 17 #[.pointer (some ⟨g, 0, none⟩), .int .i64 0] w fun e w' => e = .returned (.bool false) ∧ Drew w w' := by
  have := Has_any h 0
  rw [show decide ((0 : Int) ∈ nums zeros) = false by rw [nums_zeros]; rfl] at this
  exact this
theorem Next_odd (h : SetAt w g false 0 zeros) (hT : Tab w) : Calls Tryd.prog 19 #[.pointer (some ⟨g, 0, none⟩), .int .i64 0] w fun e w' => e = .returned (.int .i64 (-1)) ∧ Drew w w' := by
  have := Next_any h hT 0
  rw [show nextOf (nums zeros) 0 = -1 by rw [nums_zeros]; rfl] at this
  exact this
end
set_option maxRecDepth 100000 in
set_option maxHeartbeats 8000000 in
theorem BitmapClones_any (n : Int) (D1 D2 D3 : Option Addr) (l1 l2 l3 d1 d2 d3 : Nat) (f1 f2 f3 : Nat → Nat → Int) (w : World) (hT : Tab w) (hc1 : l1 ≤ d1) (hd1 : d1 ≤ maxLen) (ho1 : Rws w w.heap.size D1 l1 2 f1)
    (hc2 : l2 ≤ d2) (hd2 : d2 ≤ maxLen) (ho2 : Rws w w.heap.size D2 l2 2 f2) (hc3 : l3 ≤ d3) (hd3 : d3 ≤ maxLen) (ho3 : Rws w w.heap.size D3 l3 2 f3) :
    Calls Tryd.prog 4 #[.int .i64 n, .slice D1 l1 d1, .slice D2 l2 d2, .slice D3 l3 d3] w fun e w' => e = .returned (.bool true) ∧ w.grownBy w' none := by
  obtain ⟨k, hk, hk2⟩ := near_nat n 2048
  have HK : Hid (near n 0 2048 = (k : Int)) := Lib.hid hk
  have HT := Lib.hid hT
  have O1 := Lib.hid ho1
  have O2 := Lib.hid ho2
  have O3 := Lib.hid ho3
  have S1 := Lib.hid (show 0 < l1 → ∃ ad, D1 = some ad from ho1.some)
  have S2 := Lib.hid (show 0 < l2 → ∃ ad, D2 = some ad from ho2.some)
  have S3 := Lib.hid (show 0 < l3 → ∃ ad, D3 = some ad from ho3.some)
  have HL1 := Lib.hid hc1
  have HM1 := Lib.hid hd1
  have HL2 := Lib.hid hc2
  have HM2 := Lib.hid hd2
  have HL3 := Lib.hid hc3
  have HM3 := Lib.hid hd3
  clear hk hT ho1 ho2 ho3 hc1 hc2 hc3 hd1 hd2 hd3
  go_enter Tryd.func4, Tryd.ntmps4
  go_wp2_with (first
    | (go_at_call 6; (with_reducible refine (alive_any HT.out).mono ?_); rintro e w1 ⟨rfl, hg⟩; have G1 := Lib.hid hg; have T1 := Lib.hid (HT.out.kept hg (by simp)); clear hg)
    | (go_at_call 9; (with_reducible refine (Near_any _ _ _ _).mono ?_); rintro e w' ⟨rfl, rfl⟩; rw [HK.out])
    | (go_at_call 8; (with_reducible refine (New_any _ _ HK.out _).mono ?_); rintro e w2 ⟨g, rfl, hm, hg, hw⟩; have M2 := Lib.hid hm; have G2 := Lib.hid (G1.out.trans hw); have T2 := Lib.hid (T1.out.kept hw (by simp)); have HG := Lib.hid (show w.heap.size ≤ g from Nat.le_trans G1.out.size hg); have HG0 := Lib.hid (show g ≠ 0 from by have := HT.out.1; have := HG.out; omega); have HS := Lib.hid (show some 0 ≠ some g from by have := HT.out.1; have := HG.out; simp; omega); clear hm hw hg)
    | (have mark := F5; go_at_call 10; (with_reducible refine (few_any _ _ _ _ HL3.out HM3.out S3.out).mono ?_); rintro e w' ⟨⟨q3, c23, hl1, hl2, rfl⟩, rfl⟩; have HQ3 := Lib.hid hl1; have HP3 := Lib.hid hl2; clear hl1 hl2)
    | (have mark := F5; go_at_call 7; (with_reducible refine (run_any K5.out HY3.out N5.out T5.out HK0.out ((O3.out.less HP3.out).kept G5.out (by simp)) HGK.out HQ3.out).mono ?_); rintro e w6 ⟨A6, c6, ws6, m6, rfl, hy6, hm6, hl6, hg6, _⟩; have HY6 := Lib.hid hy6; have K6 := Lib.hid hm6; have M6 := Lib.hid (M5.out.kept hg6 (by have := HNE.out; simpa using this)); have RX := Lib.hid ((X5.out.grown hg6).rd' HY5.out); have RY := Lib.hid (hl6.rd' hy6); have T6 := Lib.hid (T5.out.kept hg6 HSK.out); have G6 := Lib.hid (grown_new G5.out hg6 HGK.out); have m6s := nums_length ws6; rw [hy6] at m6s; have OD := Lib.hid (odd_new w6); clear hy6 hm6 hl6 hg6)
    | (have mark := M4; go_at_call 10; (with_reducible refine (few_any _ _ _ _ HL2.out HM2.out S2.out).mono ?_); rintro e w' ⟨⟨q2, c22, hl1, hl2, rfl⟩, rfl⟩; have HQ2 := Lib.hid hl1; have HP2 := Lib.hid hl2; clear hl1 hl2)
    | (have mark := M4; go_at_call 7; (with_reducible refine (run_any M4.out HY3.out L4.out T4.out HG0.out ((O2.out.less HP2.out).kept G4.out (by simp)) HG.out HQ2.out).mono ?_); rintro e w5 ⟨A5, c5, ws5, m5, rfl, hy5, hm5, hl5, hg5, hf5⟩; have HY5 := Lib.hid hy5; have M5 := Lib.hid hm5; have K5 := Lib.hid (K4.out.kept hg5 (by have := HNE.out; simpa using Ne.symm this)); have N5 := Lib.hid (N4.out.kept hg5 (.inr L4.out.2)); have X5 : Hid (Lst w5 gk (.slice A5 m5 c5) (nums ws5)) := Lib.hid (lst_from hl5 hf5 N4.out.2 K4.out.lt); have T5 := Lib.hid (T4.out.kept hg5 HS.out); have F5 := Lib.hid hg5; have G5 := Lib.hid (grown_new G4.out hg5 HG.out); have m5s := nums_length ws5; rw [hy5] at m5s; clear hy5 hm5 hl5 hg5 hf5)
    | (go_at_call 11; (with_reducible refine (Clone_yes M3.out).mono ?_); rintro e w4 ⟨gk, rfl, hm, hg, hw⟩; have K4 := Lib.hid hm; have M4 := Lib.hid (M3.out.kept hw (by simp)); have L4 := Lib.hid (L3.out.made hw); have N4 := Lib.hid (lst_new L3.out hw hg); have T4 := Lib.hid (T3.out.kept hw (by simp)); have G4 := Lib.hid (G3.out.trans hw); have HNE := Lib.hid (show g ≠ gk from by have := M3.out.lt; omega); have HGK := Lib.hid (show w.heap.size ≤ gk from Nat.le_trans G3.out.size hg); have HK0 := Lib.hid (show gk ≠ 0 from by have := HT.out.1; have := HGK.out; omega); have HSK := Lib.hid (show some 0 ≠ some gk from by have := HT.out.1; have := HGK.out; simp; omega); clear hm hg hw)
    | (go_at_call 10; (with_reducible refine (few_any _ _ _ _ HL1.out HM1.out S1.out).mono ?_); rintro e w' ⟨⟨q1, c21, hl1, hl2, rfl⟩, rfl⟩; have HQ1 := Lib.hid hl1; have HP1 := Lib.hid hl2; clear hl1 hl2)
    | (go_at_call 7; (with_reducible refine (run_any M2.out nums_zeros_length (Lst.zeros _ _) T2.out HG0.out ((O1.out.less HP1.out).kept G2.out (by simp)) HG.out HQ1.out).mono ?_); rintro e w3 ⟨A3, c3, ws3, m3, rfl, hy3, hm3, hl3, hg3, _⟩; have HY3 := Lib.hid hy3; have M3 := Lib.hid hm3; have L3 := Lib.hid hl3; have T3 := Lib.hid (T2.out.kept hg3 HS.out); have G3 := Lib.hid (grown_new G2.out hg3 HG.out); clear hy3 hm3 hl3 hg3)
    | (go_at_call 12; (with_reducible refine (Clear_nil _).mono ?_); rintro e w' ⟨rfl, hw⟩; subst hw)
    | (go_at_call 12; (with_reducible refine (Clear_yes OD.out).mono ?_); rintro e w8 ⟨rfl, hs8, hg8⟩; have D8 := Lib.hid hs8; have B8 := Lib.hid (grown_new (World.grownBy_alloc w6 _ none) hg8 (Nat.le_refl _)); have M8 := Lib.hid (M6.out.kept B8.out (by simp)); have K8 := Lib.hid (K6.out.kept B8.out (by simp)); have T8 := Lib.hid (T6.out.kept B8.out (by simp)); have RX8 := Lib.hid (RX.out.below (grown_below B8.out)); have RY8 := Lib.hid (RY.out.below (grown_below B8.out)); have G8 := Lib.hid (G6.out.trans B8.out); clear hs8 hg8)
    | (have mark := M9; go_at_call 14; (with_reducible refine (All_yes (K9.out.drewN _) (T9.out.drewN _) HK0.out).mono ?_); rintro e w11 ⟨A11, c11, rfl, ho, hg⟩; have R11 := Lib.hid (rd_own ho); have B11 := Lib.hid (B9.out.trans (grown_then (grown_drewN w9 _ none) hg)); have D11 := Lib.hid (D9.out.kept (grown_then (grown_drewN w9 _ none) hg) (by simp)); have RY11 := Lib.hid (RY.out.below (grown_below B11.out)); have T11 := Lib.hid (T6.out.kept B11.out (by simp)); have G11 := Lib.hid (G6.out.trans B11.out); clear ho hg)
    | (have mark := D11; go_at_call 13; (with_reducible refine (Ints_true (nums ws6) _ _ _ _ _ _ _ _ _ (by rw [HY6.out]; omega) HY6.out R11.out RY11.out).mono ?_); rintro e w' ⟨rfl, d12, rfl⟩)
    | (go_at_call 14; (with_reducible refine (All_yes M8.out T8.out HG0.out).mono ?_); rintro e w9 ⟨A9, c9, rfl, ho, hg⟩; have R9 := Lib.hid (rd_own ho); have B9 := Lib.hid (B8.out.trans hg); have D9 := Lib.hid (D8.out.kept hg (by simp)); have M9 := Lib.hid (M8.out.kept hg (by simp)); have K9 := Lib.hid (K8.out.kept hg (by simp)); have T9 := Lib.hid (T8.out.kept hg (by simp)); have RX9 := Lib.hid (RX.out.below (grown_below B9.out)); clear ho hg)
    | (go_at_call 13; (with_reducible refine (Ints_true (nums ws5) _ _ _ _ _ _ _ _ _ (by rw [HY5.out]; omega) HY5.out R9.out RX9.out).mono ?_); rintro e w' ⟨rfl, d10, rfl⟩)
    | (go_at_call 14; (with_reducible refine (All_nil _).mono ?_); rintro e w' ⟨rfl, hw⟩; subst hw)
    | (go_at_call 15; (with_reducible refine (Add_out _ _ _ (place_nil _ _)).mono ?_); rintro e w' ⟨rfl, hw⟩; subst hw)
    | (go_at_call 15; (with_reducible refine (Add_no (D11.out.drewN _) 0 (fun h => absurd h.2.2 (by decide))).mono ?_); rintro e w' ⟨rfl, d13, rfl⟩)
    | (go_at_call 16; (with_reducible refine (Remove_out _ _ _ (place_nil _ _)).mono ?_); rintro e w' ⟨rfl, hw⟩; subst hw)
    | (go_at_call 17; (with_reducible refine (Has_odd (D11.out.drewN _)).mono ?_); rintro e w' ⟨rfl, d14, rfl⟩)
    | (go_at_call 18; (with_reducible refine (Count_nil _).mono ?_); rintro e w' ⟨rfl, hw⟩; subst hw)
    | (go_at_call 19; (with_reducible refine (Next_nil _ _).mono ?_); rintro e w' ⟨rfl, hw⟩; subst hw)
    | (go_at_call 19; (with_reducible refine (Next_odd (D11.out.drewN _) (T11.out.drewN _)).mono ?_); rintro e w' ⟨rfl, d15, rfl⟩)
    | (go_at_call 11; (with_reducible refine (Clone_nil _).mono ?_); rintro e w' ⟨rfl, hw⟩; subst hw)
    | (go_at_call 11; (with_reducible refine (Clone_odd (D11.out.drewN _)).mono ?_); rintro e w' ⟨rfl, hw⟩; subst hw))
  go_ret
  exact ⟨rfl, grown_more G11.out (grown_drewN _ _ _)⟩
end Go.Proofs.YtkejalafpejgdaaDoor.bm
