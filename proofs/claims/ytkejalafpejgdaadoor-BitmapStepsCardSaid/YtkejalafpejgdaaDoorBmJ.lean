/- The walk of the statement on steps from number to number. -/
import Derived.Test.YtkejalafpejgdaaDoorBmI
namespace Go.Proofs.YtkejalafpejgdaaDoor.bm
open Go.ChangeShapes Go.WideShapes Go.ChangeAt Go.RowKit gen
set_option linter.unusedVariables false

/-- Behind the cut of a long list: one of at most eighty, among what came in. -/
def Head (w : World) (v : Value) (wx : World) : Prop := ∃ A m c ys, v = .slice A m c ∧ m ≤ 80 ∧ Rd w w.heap.size A m c ys ∧ w.grownBy wx none
theorem next_all {g n : Nat} {b : Bool} {ws : List Nat} {w : World} (h : SetAt w g b n ws) : ∀ W : World, SetAt W g b n ws → Tab W → Calls Tryd.prog 19 #[.pointer (some ⟨g, 0, none⟩), .int .i64 (-1)] W fun e w' => e = .returned (.int .i64 ((nums ws).getD 0 (-1))) ∧ Drew W w' := by
  intro W hW hT
  rw [← nextOf_first (xs := nums ws) (z := -1) (fun x hx => by have := nums_nonneg h x hx; omega)]
  exact Next_any hW hT _
theorem next_more {g n : Nat} {b : Bool} {ws : List Nat} {w : World} (h : SetAt w g b n ws) : ∀ (W : World) (k : Nat), SetAt W g b n ws → Tab W → k < (nums ws).length → Calls Tryd.prog 19 #[.pointer (some ⟨g, 0, none⟩), .int .i64 ((nums ws).getD k 0 + 1)] W fun e w' => e = .returned (.int .i64 ((nums ws).getD (k + 1) (-1))) ∧ Drew W w' := by
  intro W k hW hT hk
  rw [← nextOf_at k (nums_up ws) hk]
  exact Next_any hW hT _
set_option maxRecDepth 100000 in
set_option maxHeartbeats 8000000 in
theorem BitmapSteps_any (n : Int) (xs : List Int) (A : Option Addr) (n0 c0 : Nat) (w : World) (hT : Tab w) (hl0 : n0 ≤ c0) (hm0 : c0 ≤ maxLen) (rd : Rd w w.heap.size A n0 c0 xs) :
    Calls Tryd.prog 5 #[.int .i64 n, .slice A n0 c0] w fun e w' => e = .returned (.bool true) ∧ w.grownBy w' none := by
  obtain ⟨i0, hi, hz0, hz1, hz2⟩ := info_parts info_int
  have E : Hid (i0.zero = some (.int .i64 0) ∧ i0.size = 1 ∧ i0.bytes = 8 ∧ Tryd.prog.info? 3 = some i0) := ⟨hz0, hz1, hz2, hi⟩
  clear hi hz0 hz1 hz2
  obtain ⟨k, hk, hk2⟩ := near_nat n 2048
  have HK : Hid (near n 0 2048 = (k : Int)) := Lib.hid hk
  have R := Lib.hid rd
  have HT := Lib.hid hT
  unfold maxLen at hm0
  clear rd hT hk
  go_enter Tryd.func5, Tryd.ntmps5
  go_upto_if 14 with (go_at_call 6; (with_reducible refine (alive_any HT.out).mono ?_); rintro e w1 ⟨rfl, hg⟩; have G1 := Lib.hid hg; clear hg)
  go_cut [1] (fun v wx => Head w v wx)
  case first =>
    by_cases hlt : 80 < n0
    · cases A with
      | none => exact absurd (R.out.2.1 rfl).1 (by omega)
      | some ad =>
        have l1 : (80 : Int) ≤ c0 := by omega
        go_wp2
        all_goals
          go_meet
          exact ⟨_, _, _, _, rfl, by omega, Rd.take R.out (by omega) (fun e => by cases e), G1.out⟩
    · go_wp2
      all_goals
        go_meet
        exact ⟨_, _, _, _, rfl, by omega, R.out, G1.out⟩
  case rest =>
    obtain ⟨A1, m, c1, ys, rfl, hm, hr, hg⟩ := hcut
    have R1 := Lib.hid hr
    have G1 := Lib.hid hg
    have T1 := Lib.hid (HT.out.kept hg (by simp))
    have hm4 : m ≤ 4096 := by omega
    clear R hm0 hl0 hr hg
    go_wp2_with (go_at_call 8; (with_reducible refine (New_any _ _ HK.out _).mono ?_); rintro e w2 ⟨g, rfl, hmm, hg, hw⟩; have M2 := Lib.hid hmm; have G2 := Lib.hid (G1.out.trans hw); have HG := Lib.hid (show w.heap.size ≤ g from Nat.le_trans G1.out.size hg); have HG0 := Lib.hid (show g ≠ 0 from by have := HT.out.1; have := HG.out; omega); clear hmm hw hg)
    go_loopw [6, 7] (fun v i wr => ∃ (q u : Nat) (A' : Option Addr) (c' : Nat) (ws' : List Nat) (us : List Int), q ≤ m ∧ i = .int .i64 q ∧ v = .slice A' u c' ∧ SetAt wr g true k ws' ∧ us.length = u ∧ u ≤ q ∧ wr.ownsRow (g + 1) 3 1 (.slice A' u c') u (ints us) ∧ (∀ z, z ∈ us ↔ z ∈ nums ws') ∧ w.grownBy wr none) (fun _ i _ => m - (intOf i).toNat)
    case atStart => exact ⟨0, 0, none, 0, zeros, [], Nat.zero_le _, rfl, rfl, M2.out, rfl, Nat.le_refl _, World.ownsRow_nil _ _ _ _, by rw [nums_zeros]; simp, G2.out⟩
    case round =>
      obtain ⟨q, u, A', c', ws', us, hq, rfl, rfl, hs, hu, huq, ho, hz, hg⟩ := hrel
      have HS := Lib.hid hs
      have HU := Lib.hid hu
      have HO := Lib.hid ho
      have HZ := Lib.hid hz
      have G3 := Lib.hid hg
      have T3 := Lib.hid (HT.out.kept hg (by simp))
      have R3 := Lib.hid (R1.out.below (grown_below hg))
      clear hs hu ho hz hg
      by_cases hlt : q < m
      · obtain ⟨b1, o1, rfl, g1⟩ := R3.out.at_ hlt
        generalize ys.getD q 0 = x at g1
        by_cases hok : x ∉ nums ws' ∧ 0 ≤ x ∧ x < k
        · have AD := Lib.hid (Add_ok HS.out x hok.1 hok.2.1 hok.2.2)
          clear hok
          go_wp2_with (first
            | (go_at_call 15; (with_reducible refine AD.out.mono ?_); rintro e w4 ⟨ws4, rfl, hs4, hn4, hg4⟩; have H4 := Lib.hid hs4; have N4 := Lib.hid hn4; have G4 := Lib.hid (grown_new G3.out hg4 HG.out); have O4 := Lib.hid (HO.out.kept hg4 (.inr (fun e => by have := own_base HO.out g e; omega))); have g2 := (R1.out.below (grown_below G4.out)).at_ hlt; have g3 := hg4.cell g1 (by have := (R3.out.2.2 _ rfl q hlt).1; have := HG.out; simp at *; omega); clear hs4 hn4 hg4 g2)
            | (refine wpList_append_rd rfl (.tmp 31) (.tmp 36) 24 rfl (g + 1) 3 i0 (.int .i64 0) 8 Tryd.underlying24 E.out.2.2.2 E.out.1 E.out.2.1 E.out.2.2.1 rfl _ u us rfl (O4.out.alloc _) (some ⟨w4.heap.size, 0, none⟩) 1 1 _ [x] rfl (Rd.one _ _ _) (by unfold maxLen; omega) (by omega) (by have := H4.out.lt; simp; omega) ?_; intro A5 c5 w5 own1 rd1 gr1; have OWN5 := Lib.hid own1; have G5 := Lib.hid (grown_one G4.out O4.out (by have := HG.out; omega) gr1); have H5 := Lib.hid ((H4.out.kept (World.grownBy_alloc _ _ none) (by simp)).kept gr1 (fun e => by have := own_base O4.out g e.symm; omega)); clear own1 gr1 rd1))
          go_roundw
          case rel => exact ⟨q + 1, u + 1, A5, c5, ws4, us ++ [x], by omega, by go_num, rfl, H5.out, by rw [List.length_append, HU.out]; rfl, by omega, OWN5.out, fun z => by rw [N4.out, mem_rising, List.mem_append, List.mem_append, HZ.out z], G5.out⟩
          case measure => simp [intOf]; omega
        · have AD := Lib.hid (Add_no HS.out x hok)
          clear hok
          go_wp2_with (go_at_call 15; (with_reducible refine AD.out.mono ?_); rintro e w' ⟨rfl, d, rfl⟩)
          go_roundw
          case rel => exact ⟨q + 1, u, A', c', ws', us, by omega, by go_num, rfl, HS.out.drewN d, HU.out, by omega, HO.out, HZ.out, grown_more G3.out (grown_drewN _ _ _)⟩
          case measure => simp [intOf]; omega
      · have RU := Lib.hid (Rising_any (w := wr) (B := 0) (n := u) (by omega) (rd_own HO.out))
        have HR := Lib.hid (up_eq (rising_up us) (nums_up ws') (fun z => by rw [mem_rising, HZ.out z]))
        rw [HR.out] at RU
        have X0 := Lib.hid (next_all HS.out)
        have XA := Lib.hid (next_more HS.out)
        have XB := Lib.hid (show ∀ j, j < (nums ws').length → 0 ≤ (nums ws').getD j 0 ∧ (nums ws').getD j 0 < 2048 from fun j hj => by have := mem_nums_lt HS.out.2 (getD_mem hj 0); have := HS.out.2.2.2.2; omega)
        have XC := Lib.hid (show ∀ W : World, SetAt W g true k ws' → _ from fun W hW => Count_yes hW)
        have XL := Lib.hid (nums_length ws')
        clear HZ HR
        generalize nums ws' = zs at RU X0 XA XB XC XL
        have hL := XL.out
        go_wp2_with (first
          | (go_at_call 20; (with_reducible refine RU.out.mono ?_); rintro e w4 ⟨A6, c6, rfl, ho6, hg6⟩; have O6 := Lib.hid ho6; have R6 := Lib.hid (rd_own ho6); have G6 := Lib.hid (G3.out.trans hg6); have T6 := Lib.hid (T3.out.kept hg6 (by simp)); have H6 := Lib.hid (HS.out.kept hg6 (by simp)); clear ho6 hg6)
          | (go_at_call 19; (with_reducible refine (X0.out _ H6.out T6.out).mono ?_); rintro e w' ⟨rfl, d1, rfl⟩))
        go_loopw [8, 9] (fun a i wr2 => ∃ j d : Nat, j ≤ zs.length ∧ a = .int .i64 (zs.getD j (-1)) ∧ i = .int .i64 j ∧ wr2 = w4.drewN d) (fun _ i _ => zs.length - (intOf i).toNat)
        case atStart => exact ⟨0, _, Nat.zero_le _, rfl, rfl, rfl⟩
        case round =>
          obtain ⟨j, d, hj, rfl, rfl, rfl⟩ := hrel
          by_cases hjl : j < zs.length
          · obtain ⟨b2, o2, rfl, g2⟩ := R6.out.at_ hjl
            have e0 : zs.getD j (-1) = zs.getD j 0 := by simp [List.getD_eq_getElem?_getD, hjl]
            obtain ⟨hm0, hb0⟩ := XB.out j hjl
            have HC := Lib.hid (XA.out (w4.drewN d) j (H6.out.drewN d) (T6.out.drewN d) hjl)
            rw [e0]
            generalize zs.getD j 0 = x at hm0 hb0 HC g2
            obtain ⟨y, hy⟩ : ∃ y, zs.getD (j + 1) (-1) = y := ⟨_, rfl⟩
            rw [hy] at HC
            have HY := Lib.hid hy
            have e3 : IntKind.i64.wrap (x + 1) = x + 1 := IntWalk.i64_in _ (by omega)
            clear hy e0
            go_wp2_with (go_at_call 19; (with_reducible refine HC.out.mono ?_); rintro e w' ⟨rfl, d2, rfl⟩)
            go_roundw
            case rel => exact ⟨j + 1, _, by omega, by rw [HY.out], by go_num, rfl⟩
            case measure => simp [intOf]; omega
          · obtain rfl : j = zs.length := by omega
            have e0 : zs.getD zs.length (-1) = -1 := by simp
            rw [e0]
            have HC := Lib.hid (XC.out (w4.drewN d) (H6.out.drewN d))
            go_wp2_with (go_at_call 18; (with_reducible refine HC.out.mono ?_); rintro e w' ⟨rfl, hw⟩; subst hw)
            go_ret
            exact ⟨rfl, grown_more G6.out (grown_drewN _ _ _)⟩
end Go.Proofs.YtkejalafpejgdaaDoor.bm
