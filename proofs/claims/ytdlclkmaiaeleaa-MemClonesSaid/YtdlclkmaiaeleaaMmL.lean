/- The walk of the statement on clones. -/
import Derived.Test.YtdlclkmaiaeleaaMmJ
namespace Go.Proofs.Ytdlclkmaiaeleaa.mm
open Go.ChangeShapes Go.WideShapes Go.ChangeAt Go.RowKit gen
set_option linter.unusedVariables false

/-- Behind the first run: words, and a list that is alike. -/
def Ran (w : World) (k : Nat) (p m o : Value) (wx : World) : Prop := ∃ g r A c ys, p = .pointer (some ⟨g, 0, none⟩) ∧ m = .slice A k c ∧ o = .bool true ∧ ys.length = k ∧ MemAt wx g r ys ∧ Lst wx r m ys ∧ w.heap.size ≤ r ∧ w.grownBy wx none
theorem lst_new {w w' : World} {r r' : Nat} {v : Value} {xs : List Int} (h : Lst w r v xs) (hg : w.grownBy w' none) (hr : w.heap.size ≤ r') : Lst w' r' v xs :=
  ⟨(h.made hg).1, fun e => by have := (h.1.lt r' e).2; omega⟩

theorem stored_ints {w : World} {base g n cap : Nat} {e : TypeId} {zs : List Int} (h : w.ownsRow base e 1 (.slice (some ⟨g, 0, none⟩) n cap) n (ints zs)) (q : Nat) (v : Int) :
    (w.setCell ⟨g, q, none⟩ (.int .i64 v)).ownsRow base e 1 (.slice (some ⟨g, 0, none⟩) n cap) n (ints (zs.set q v)) ∧ w.grownBy (w.setCell ⟨g, q, none⟩ (.int .i64 v)) (some g) := by
  have := h.stored q (.int .i64 v)
  rwa [show (ints zs).set q (.int .i64 v) = ints (zs.set q v) by simp [ints]] at this
set_option maxRecDepth 100000 in
set_option maxHeartbeats 8000000 in
theorem MemClones_any (n : Int) (D1 D2 D3 : Option Addr) (l1 l2 l3 d1 d2 d3 : Nat) (f1 f2 f3 : Nat → Nat → Int) (w : World) (hc1 : l1 ≤ d1) (hd1 : d1 ≤ maxLen) (ho1 : Rws w w.heap.size D1 l1 5 f1)
    (hc2 : l2 ≤ d2) (hd2 : d2 ≤ maxLen) (ho2 : Rws w w.heap.size D2 l2 5 f2) (hc3 : l3 ≤ d3) (hd3 : d3 ≤ maxLen) (ho3 : Rws w w.heap.size D3 l3 5 f3) :
    Calls Try.prog 4 #[.int .i64 n, .slice D1 l1 d1, .slice D2 l2 d2, .slice D3 l3 d3] w fun e w' => e = .returned (.bool true) ∧ w.grownBy w' none := by
  obtain ⟨k, hk, hk2⟩ := near_nat n 100
  have HK : Hid (near n 0 100 = (k : Int)) := Lib.hid hk
  have HK2 : Hid (near (k : Int) 0 2048 = (k : Nat)) := Lib.hid (near_id k (by omega))
  have mk := make_words k (by omega)
  obtain ⟨cs, hcs⟩ : ∃ cs, cs = (ints (List.replicate k 0)).toArray := ⟨_, rfl⟩
  rw [← hcs] at mk
  have HC := Lib.hid hcs
  have O1 := Lib.hid ho1
  have O2 := Lib.hid ho2
  have O3 := Lib.hid ho3
  have S1 := Lib.hid (show 0 < l1 → ∃ ad, D1 = some ad from ho1.some)
  have S2 := Lib.hid (show 0 < l2 → ∃ ad, D2 = some ad from ho2.some)
  have S3 := Lib.hid (show 0 < l3 → ∃ ad, D3 = some ad from ho3.some)
  have HL1 := Lib.hid hc1
  have HM1 := Lib.hid hd1
  have HL2 := Lib.hid hc2
  have HM2 := Lib.hid hd2
  have HL3 := Lib.hid hc3
  have HM3 := Lib.hid hd3
  clear hk hcs ho1 ho2 ho3 hc1 hc2 hc3 hd1 hd2 hd3
  go_enter Try.func4, Try.ntmps4
  go_upto_region 5 with (first
    | (go_at_call 7; (with_reducible refine (alive_any _).mono ?_); rintro e w1 ⟨rfl, hg⟩; have G1 := Lib.hid hg; clear hg)
    | (go_at_call 9; (with_reducible refine (Near_any _ _ _ _).mono ?_); rintro e w' ⟨rfl, rfl⟩; rw [HK.out])
    | (go_at_call 8; (with_reducible refine (New_any _ _ HK2.out _).mono ?_); rintro e w2 ⟨g, r, rfl, hm, hg, hr, hw⟩; have M2 := Lib.hid hm; have G2 := Lib.hid (G1.out.trans hw); have HR := Lib.hid (show w.heap.size ≤ r from Nat.le_trans G1.out.size hr); clear hm hw hg hr))
  go_cut [9, 10, 11] (fun p m o wx => Ran w k p m o wx)
  case first =>
    have GZ : w2.grownBy (w2.alloc (.cells cs 2)).drew none := grown_drew (World.grownBy_alloc w2 _ none)
    have MZ := Lib.hid (M2.out.kept GZ (by simp) (by simp))
    have GW := Lib.hid (G2.out.trans GZ)
    have ZL := Lib.hid (show (List.replicate k (0 : Int)).length = k by simp)
    have OZ := World.ownsRow_lit (base := r + 1) (e := 2) (size := 1) w2 cs k (by have := M2.out.lt.2; omega) (by unfold maxLen; omega) (by rw [HC.out]; simp [ints])
    rw [show cs.toList = (List.replicate k 0).map (Value.int .i64) by rw [HC.out]; simp [ints]] at OZ
    have LZ : Hid (Lst (w2.alloc (.cells cs 2)).drew r (.slice (some ⟨w2.heap.size, 0, none⟩) k k) (List.replicate k 0)) := Lib.hid (own_lst (r := r) OZ (by simp) (by omega))
    clear OZ GZ
    go_region_with (first
      | (go_at_call 13; (with_reducible refine (few_any _ _ _ _ HL1.out HM1.out S1.out).mono ?_); rintro e w' ⟨⟨q, c3, hl1, hl2, rfl⟩, rfl⟩)
      | (go_at_call 12; (with_reducible refine (run_any MZ.out ZL.out LZ.out ((O1.out.less hl2).kept GW.out (by simp)) HR.out hl1).mono ?_); rintro e w5 ⟨A5, c5, ys, rfl, hy5, hm5, hl5, hg5, _⟩; have HY5 := Lib.hid hy5; have M5 := Lib.hid hm5; have L5 := Lib.hid hl5; have G5 := Lib.hid (grown_new GW.out hg5 HR.out); clear hy5 hm5 hl5 hg5))
    all_goals
      go_wp2
      go_meet
      exact ⟨g, r, A5, c5, ys, rfl, rfl, rfl, HY5.out, M5.out, L5.out, HR.out, G5.out⟩
  case rest =>
    obtain ⟨g, r, A, c, ys, rfl, rfl, rfl, hy, hm, hl, hr, hg⟩ := hcut
    have HY := Lib.hid hy
    have M0 := Lib.hid hm
    have L0 := Lib.hid hl
    have HR := Lib.hid hr
    have G0 := Lib.hid hg
    clear hy hm hl hr hg mk HC cs
    go_wp2_with (first
      | (go_at_call 14; (with_reducible refine (Clone_yes M0.out).mono ?_); rintro e w3 ⟨gk, rk, rfl, hm, h1, h2, hg⟩; have K3 := Lib.hid hm; have M3 := Lib.hid (M0.out.kept hg (by simp) (by simp)); have L3 := Lib.hid (L0.out.made hg); have N3 := Lib.hid (lst_new L0.out hg h2); have GR := Lib.hid (show gk ≠ r ∧ rk ≠ r ∧ g ≠ rk ∧ w.heap.size ≤ rk from by have := M0.out.lt; have := G0.out.size; omega); have G3 := Lib.hid (G0.out.trans hg); clear hm h1 h2 hg)
      | (go_at_call 11; (with_reducible refine (All_yes M3.out).mono ?_); rintro e w4 ⟨A4, c4, rfl, ho, hg⟩; have O4 := Lib.hid ho; have F4 := Lib.hid hg; clear ho hg))
    go_loopw [14] (fun i wr => ∃ (q : Nat) (zs : List Int), q ≤ k ∧ i = .int .i64 q ∧ zs.length = k ∧ wr.ownsRow w3.heap.size 2 1 (.slice A4 ys.length c4) ys.length (ints zs) ∧ w3.grownBy wr none) (fun i _ => k - (intOf i).toNat)
    case atStart => exact ⟨0, ys, Nat.zero_le _, rfl, HY.out, O4.out, F4.out⟩
    case round =>
      obtain ⟨q, zs, hq, rfl, hz, ho, hg⟩ := hrel
      have HO := Lib.hid ho
      have HG := Lib.hid hg
      have HZ := Lib.hid hz
      have hyk : ys.length ≤ 100 := by have := HY.out; omega
      have hyl : ys.length = k := HY.out
      clear ho hg hz
      by_cases hlt : q < k
      · obtain ⟨g4, cap, e4, hb4, hlt4⟩ := HO.out.form (by omega)
        obtain ⟨rfl, rfl⟩ : A4 = some ⟨g4, 0, none⟩ ∧ c4 = cap := by injection e4 with h1 h2 h3; exact ⟨h1, h3⟩
        have hc4 := HO.out.cellAt q (by omega)
        rw [ints, List.getElem?_map, List.getElem?_eq_getElem (by rw [HZ.out]; omega), Option.map_some] at hc4
        have hf4 := HO.out.frozenAt q
        have lt2 : (q : Int) < ys.length := by omega
        generalize zs[q]'(by rw [HZ.out]; omega) = z at hc4
        clear e4 hyl
        go_wp2
        go_roundw
        case rel => exact ⟨q + 1, _, by omega, by go_num, by rw [List.length_set, HZ.out], (stored_ints HO.out q _).1, grown_new HG.out (stored_ints HO.out q _).2 hb4⟩
        case measure => simp [intOf]; omega
      · have M5 := Lib.hid (M3.out.kept HG.out (by simp) (by simp))
        have K5 := Lib.hid (K3.out.kept HG.out (by simp) (by simp))
        have L5 := Lib.hid (L3.out.made HG.out)
        have N5 := Lib.hid (N3.out.made HG.out)
        have F5 := Lib.hid (G3.out.trans HG.out)
        have KLT := Lib.hid (show rk < wr.heap.size from by have := K3.out.lt.2; have := HG.out.size; omega)
        have HLT := Lib.hid hlt
        have HYL := Lib.hid hyl
        have HYLT : (ys.length : Int) ≤ q := by omega
        clear hlt hyl M0 M2 L0
        go_wp2_with (first
          | (have mark := G6; go_at_call 13; (with_reducible refine (few_any _ _ _ _ HL3.out HM3.out S3.out).mono ?_); rintro e w' ⟨⟨q3, c23, hl1, hl2, rfl⟩, rfl⟩; have HQ3 := Lib.hid hl1; have HP3 := Lib.hid hl2; clear hl1 hl2)
          | (have mark := G6; go_at_call 12; (with_reducible refine (run_any K6.out HY.out N6.out ((O3.out.less HP3.out).kept F6.out (by simp)) GR.out.2.2.2 HQ3.out).mono ?_); rintro e w7 ⟨A7, c7, ys7, rfl, hy7, hm7, hl7, hg7, hf7⟩; have HY7 := Lib.hid hy7; have K7 := Lib.hid hm7; have L7 := Lib.hid hl7; have M7 := Lib.hid (M6.out.kept hg7 (by simpa using GR.out.2.2.1) (by simpa using Ne.symm GR.out.2.1)); have X7 := Lib.hid (X6.out.grown hg7); have F7 := Lib.hid (grown_new F6.out hg7 GR.out.2.2.2); clear hy7 hm7 hl7 hg7 hf7)
          | (go_at_call 13; (with_reducible refine (few_any _ _ _ _ HL2.out HM2.out S2.out).mono ?_); rintro e w' ⟨⟨q2, c22, hl1, hl2, rfl⟩, rfl⟩; have HQ2 := Lib.hid hl1; have HP2 := Lib.hid hl2; clear hl1 hl2)
          | (go_at_call 12; (with_reducible refine (run_any M5.out HY.out L5.out ((O2.out.less HP2.out).kept F5.out (by simp)) HR.out HQ2.out).mono ?_); rintro e w6 ⟨A6, c6, ys6, rfl, hy6, hm6, hl6, hg6, hf6⟩; have HY6 := Lib.hid hy6; have M6 := Lib.hid hm6; have K6 := Lib.hid (K5.out.kept hg6 (by simpa using GR.out.1) (by simpa using GR.out.2.1)); have N6 := Lib.hid (N5.out.kept hg6 (.inr L5.out.2)); have X6 : Hid (Lst w6 rk (.slice A6 k c6) ys6) := Lib.hid ⟨hl6.1, fun e => by rcases hf6 rk e with h1 | h1; (have := KLT.out; omega); exact N5.out.2 h1⟩; have G6 := Lib.hid hg6; have F6 := Lib.hid (grown_new F5.out hg6 HR.out); clear hy6 hm6 hl6 hg6 hf6)
          | (have mark := G8; go_at_call 11; (with_reducible refine (All_yes (K8.out.drewN q8)).mono ?_); rintro e w9 ⟨A9, c9, rfl, ho, hg⟩; have R9 := Lib.hid (rd_own ho); have L9 := Lib.hid ((L8.out.drewN q8).made hg); have F9 := Lib.hid (G8.out.trans hg); clear ho hg)
          | (have mark := F9; go_at_call 10; (with_reducible refine (words_true ys7 _ _ _ _ _ _ _ _ _ (by rw [HY7.out]; omega) HY7.out R9.out (L9.out.rd' HY7.out)).mono ?_); rintro e w10 ⟨rfl, q10, rfl⟩; have F10 := Lib.hid (F9.out.trans (grown_drewN _ q10 none)))
          | (go_at_call 11; (with_reducible refine (All_yes M7.out).mono ?_); rintro e w8 ⟨A8, c8, rfl, ho, hg⟩; have R8 := Lib.hid (rd_own ho); have K8 := Lib.hid (K7.out.kept hg (by simp) (by simp)); have L8 := Lib.hid (L7.out.made hg); have X8 := Lib.hid (X7.out.made hg); have F8 := Lib.hid (F7.out.trans hg); clear ho hg)
          | (go_at_call 10; (with_reducible refine (words_true ys6 _ _ _ _ _ _ _ _ _ (by rw [HY6.out]; omega) HY6.out R8.out (X8.out.rd' HY6.out)).mono ?_); rintro e w' ⟨rfl, q8, rfl⟩; have G8 := Lib.hid (F8.out.trans (grown_drewN _ q8 none))))
        go_ret
        exact ⟨rfl, F10.out⟩
end Go.Proofs.Ytdlclkmaiaeleaa.mm
