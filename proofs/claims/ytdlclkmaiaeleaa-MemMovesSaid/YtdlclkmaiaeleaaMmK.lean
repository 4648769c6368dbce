/- The walk of the statement on moves there and back. -/
import Derived.Test.YtdlclkmaiaeleaaMmI
import Derived.Deep.DeepCutAuto
namespace Go.Proofs.Ytdlclkmaiaeleaa.mm
open Go.ChangeShapes Go.WideShapes Go.ChangeAt Go.RowKit gen
set_option linter.unusedVariables false

theorem move_at (xs : List Int) (a b n : Nat) (hb : b + n ≤ xs.length) (i : Nat) : (moveN xs xs b a n).getD i 0 = if b ≤ i ∧ i < b + n then xs.getD (a + (i - b)) 0 else xs.getD i 0 := moveN_getD xs xs b a n hb i
theorem moves_back (xs : List Int) (a b n : Nat) (ha : a + n ≤ xs.length) (hb : b + n ≤ xs.length) (hap : a + n ≤ b ∨ b + n ≤ a) : moveN (moveN xs xs b a n) (moveN xs xs b a n) a b n = moveN xs xs b a n := by
  have hl := moveN_length xs xs b a n
  refine ext_getD (by rw [moveN_length]) (fun i hi => ?_)
  rw [moveN_getD _ _ _ _ _ (by omega)]
  by_cases h : a ≤ i ∧ i < a + n
  · rw [if_pos h, move_at xs a b n hb, move_at xs a b n hb, if_pos (by omega), if_neg (by omega)]
    congr 1
    omega
  · rw [if_neg h]
theorem move_all (xs : List Int) : moveN (List.replicate xs.length 0) xs 0 0 xs.length = xs := by
  refine ext_getD (by rw [moveN_length]; simp) (fun i hi => ?_)
  rw [moveN_length, List.length_replicate] at hi
  rw [moveN_getD _ _ _ _ _ (by simp)]
  rw [if_pos (by omega)]
  congr 1
  omega
theorem Move_to {g r : Nat} {xs zs : List Int} {w : World} (h : MemAt w g r xs) (a b n : Nat) (ha : a + n ≤ xs.length) (hb : b + n ≤ xs.length) (hz : moveN xs xs a b n = zs) :
    Calls Try.prog 17 #[.pointer (some ⟨g, 0, none⟩), .int .i64 a, .int .i64 b, .int .i64 n] w fun e w' => e = .returned (.bool true) ∧ MemAt w' g r zs ∧ w.grownBy w' (some r) := by
  subst hz
  exact Move_yes h a b n ha hb
/-- Behind the cut of a long list: one of at most a hundred, among what came in. -/
def Head (w : World) (v : Value) (wx : World) : Prop := ∃ A m c ys, v = .slice A m c ∧ m ≤ 100 ∧ Rd w w.heap.size A m c ys ∧ w.grownBy wx none
theorem rd_head {w : World} {B n c c' k : Nat} {ad : Addr} {xs : List Int} (h : Rd w B (some ad) n c xs) (hk : k ≤ n) : Rd w B (some ad) k c' (xs.take k) := by
  refine ⟨by rw [List.length_take, h.1]; omega, fun e => (by cases e), fun a e i hi => ?_⟩
  have := h.2.2 a e i (by omega)
  rw [show (xs.take k).getD i 0 = xs.getD i 0 by simp [List.getD_eq_getElem?_getD, hi]]
  exact this

set_option maxRecDepth 100000 in
set_option maxHeartbeats 8000000 in
theorem MemMoves_any (xs : List Int) (A : Option Addr) (n0 c0 : Nat) (a b n : Int) (w : World) (hl0 : n0 ≤ c0) (hm0 : c0 ≤ maxLen) (rd : Rd w w.heap.size A n0 c0 xs) :
    Calls Try.prog 5 #[.slice A n0 c0, .int .i64 a, .int .i64 b, .int .i64 n] w fun e w' => e = .returned (.bool true) ∧ w.grownBy w' none := by
  have R := Lib.hid rd
  unfold maxLen at hm0
  clear rd
  go_enter Try.func5, Try.ntmps5
  go_upto_if 20 with (go_at_call 7; (with_reducible refine (alive_any _).mono ?_); rintro e w1 ⟨rfl, hg⟩; have G1 := Lib.hid hg; clear hg)
  go_cut [0] (fun v wx => Head w v wx)
  case first =>
    by_cases hlt : 100 < n0
    · cases A with
      | none => exact absurd (R.out.2.1 rfl).1 (by omega)
      | some ad =>
        have l1 : (100 : Int) ≤ c0 := by omega
        go_wp2
        all_goals
          go_meet
          exact ⟨_, _, _, _, rfl, by omega, rd_head R.out (by omega), G1.out⟩
    · go_wp2
      all_goals
        go_meet
        exact ⟨_, _, _, _, rfl, by omega, R.out, G1.out⟩
  case rest =>
    obtain ⟨A1, m, c1, ys, rfl, hm, hr, hg⟩ := hcut
    have R1 := Lib.hid hr
    have G1 := Lib.hid hg
    have HY := Lib.hid hr.1
    have HK : Hid (near (m : Int) 0 2048 = (m : Nat)) := Lib.hid (near_id m (by omega))
    have hm4 : m ≤ 4194304 := by omega
    clear R hm0 hl0 hr hg
    go_wp2_with (go_at_call 8; (with_reducible refine (New_any _ _ HK.out _).mono ?_); rintro e w2 ⟨g, r, rfl, hmm, hg, hr, hw⟩; have M2 := Lib.hid hmm; have G2 := Lib.hid (G1.out.trans hw); have HR := Lib.hid (show w.heap.size ≤ r from Nat.le_trans G1.out.size hr); clear hmm hw hr hg)
    go_loopw [10] (fun i wr => ∃ k : Nat, k ≤ m ∧ i = .int .i64 k ∧ MemAt wr g r (moveN (List.replicate m 0) ys 0 0 k) ∧ w.grownBy wr none) (fun i _ => m - (intOf i).toNat)
    case atStart => exact ⟨0, Nat.zero_le _, rfl, M2.out, G2.out⟩
    case round =>
      obtain ⟨k, hk, rfl, hmm, hg⟩ := hrel
      have M3 := Lib.hid hmm
      have G3 := Lib.hid hg
      clear hmm hg M2 G2
      by_cases hlt : k < m
      · obtain ⟨b1, o1, rfl, g1⟩ := (R1.out.below (grown_below G3.out)).at_ hlt
        generalize hx : ys.getD k 0 = x at g1
        have HX := Lib.hid (show ys.getD (0 + k) 0 = x by rw [Nat.zero_add]; exact hx)
        clear hx
        have HLN := Lib.hid (show k < (moveN (List.replicate m 0) ys 0 0 k).length by rw [moveN_length]; simpa using hlt)
        go_wp2_with (go_at_call 15; (with_reducible refine (Store_yes M3.out k x HLN.out).mono ?_); rintro e w4 ⟨rfl, hm4, hg4⟩; have M4 := Lib.hid hm4; have G4 := Lib.hid (grown_new G3.out hg4 HR.out); clear hm4 hg4)
        go_roundw
        case rel => exact ⟨k + 1, by omega, by go_num, by have := M4.out; rw [show (moveN (List.replicate m 0) ys 0 0 k).set k x = moveN (List.replicate m 0) ys 0 0 (k + 1) by show _ = (moveN (List.replicate m 0) ys 0 0 k).set (0 + k) (ys.getD (0 + k) 0); rw [HX.out, Nat.zero_add]] at this; exact this, G4.out⟩
        case measure => simp [intOf]; omega
      · have HE := Lib.hid (show moveN (List.replicate m 0) ys 0 0 k = ys by
          have h := move_all ys
          rw [HY.out] at h
          rw [show k = m by omega]
          exact h)
        have M3' := M3.out
        rw [HE.out] at M3'
        clear M3 HE
        have M3 := Lib.hid M3'
        clear M3'
        by_cases ha : 0 ≤ a ∧ 0 ≤ n ∧ a + n ≤ m
        rotate_left
        · have HA := Lib.hid ha
          clear ha
          go_wp2_with (first
            | (go_at_call 16; (with_reducible refine (there_no _ _ _ _ _ _ hm4 HA.out).mono ?_); rintro e w' ⟨rfl, rfl⟩)
            | (go_at_call 11; (with_reducible refine (All_yes M3.out).mono ?_); rintro e w4 ⟨A4, e4, rfl, ho4, hg4⟩; have R4 := Lib.hid (rd_own ho4); have G4 := Lib.hid (G3.out.trans hg4); clear ho4 hg4)
            | (go_at_call 10; (with_reducible refine (words_true ys _ _ _ _ _ _ _ _ _ (by rw [HY.out]; omega) HY.out R4.out (R1.out.below (grown_below G4.out))).mono ?_); rintro e w5 ⟨rfl, q, rfl⟩; have G5 := Lib.hid (G4.out.trans (grown_drewN _ q none))))
          go_ret
          exact ⟨rfl, G5.out⟩
        by_cases hb : 0 ≤ b ∧ 0 ≤ n ∧ b + n ≤ m
        rotate_left
        · have HA := Lib.hid ha
          have HB := Lib.hid hb
          clear ha hb
          go_wp2_with (first
            | (go_at_call 16; (with_reducible refine (there_yes _ _ _ _ _ _ hm4 HA.out).mono ?_); rintro e w' ⟨rfl, rfl⟩)
            | (go_at_call 16; (with_reducible refine (there_no _ _ _ _ _ _ hm4 HB.out).mono ?_); rintro e w' ⟨rfl, rfl⟩)
            | (go_at_call 11; (with_reducible refine (All_yes M3.out).mono ?_); rintro e w4 ⟨A4, e4, rfl, ho4, hg4⟩; have R4 := Lib.hid (rd_own ho4); have G4 := Lib.hid (G3.out.trans hg4); clear ho4 hg4)
            | (go_at_call 10; (with_reducible refine (words_true ys _ _ _ _ _ _ _ _ _ (by rw [HY.out]; omega) HY.out R4.out (R1.out.below (grown_below G4.out))).mono ?_); rintro e w5 ⟨rfl, q, rfl⟩; have G5 := Lib.hid (G4.out.trans (grown_drewN _ q none))))
          go_ret
          exact ⟨rfl, G5.out⟩
        obtain ⟨a, rfl⟩ : ∃ q : Nat, a = q := ⟨a.toNat, by omega⟩
        obtain ⟨b, rfl⟩ : ∃ q : Nat, b = q := ⟨b.toNat, by omega⟩
        obtain ⟨n, rfl⟩ : ∃ q : Nat, n = q := ⟨n.toNat, by omega⟩
        have HA := Lib.hid ha
        have HB := Lib.hid hb
        have hm9 : a ≤ 100 := by omega
        have hb9 : b ≤ 100 := by omega
        have hn9 : n ≤ 100 := by omega
        have hq1 : a + n ≤ m := by omega
        have hq2 : b + n ≤ m := by omega
        by_cases hov : ((a : Int) < b ∧ (b : Int) - a < n) ∨ ((b : Int) ≤ a ∧ (a : Int) - b < n)
        · clear ha hb
          rcases hov with ⟨h1, h2⟩ | ⟨h1, h2⟩
          · have h3 : decide ((a : Int) < b) = true := decide_eq_true h1
            have h4 : decide ((b : Int) - a < n) = true := decide_eq_true h2
            go_wp2_with (first
              | (go_at_call 16; (with_reducible refine (there_yes _ _ _ _ _ _ hm4 HA.out).mono ?_); rintro e w' ⟨rfl, rfl⟩)
              | (go_at_call 16; (with_reducible refine (there_yes _ _ _ _ _ _ hm4 HB.out).mono ?_); rintro e w' ⟨rfl, rfl⟩)
              | (go_at_call 11; (with_reducible refine (All_yes M3.out).mono ?_); rintro e w4 ⟨A4, e4, rfl, ho4, hg4⟩; have R4 := Lib.hid (rd_own ho4); have G4 := Lib.hid (G3.out.trans hg4); clear ho4 hg4)
              | (go_at_call 10; (with_reducible refine (words_true ys _ _ _ _ _ _ _ _ _ (by rw [HY.out]; omega) HY.out R4.out (R1.out.below (grown_below G4.out))).mono ?_); rintro e w5 ⟨rfl, q, rfl⟩; have G5 := Lib.hid (G4.out.trans (grown_drewN _ q none))))
            go_ret
            exact ⟨rfl, G5.out⟩
          · have h3 : decide ((a : Int) < b) = false := decide_eq_false (by omega)
            have h4 : decide ((a : Int) - b < n) = true := decide_eq_true h2
            go_wp2_with (first
              | (go_at_call 16; (with_reducible refine (there_yes _ _ _ _ _ _ hm4 HA.out).mono ?_); rintro e w' ⟨rfl, rfl⟩)
              | (go_at_call 16; (with_reducible refine (there_yes _ _ _ _ _ _ hm4 HB.out).mono ?_); rintro e w' ⟨rfl, rfl⟩)
              | (go_at_call 11; (with_reducible refine (All_yes M3.out).mono ?_); rintro e w4 ⟨A4, e4, rfl, ho4, hg4⟩; have R4 := Lib.hid (rd_own ho4); have G4 := Lib.hid (G3.out.trans hg4); clear ho4 hg4)
              | (go_at_call 10; (with_reducible refine (words_true ys _ _ _ _ _ _ _ _ _ (by rw [HY.out]; omega) HY.out R4.out (R1.out.below (grown_below G4.out))).mono ?_); rintro e w5 ⟨rfl, q, rfl⟩; have G5 := Lib.hid (G4.out.trans (grown_drewN _ q none))))
            go_ret
            exact ⟨rfl, G5.out⟩
        obtain ⟨zs, hzs⟩ : ∃ zs, moveN ys ys b a n = zs := ⟨_, rfl⟩
        have HZ := Lib.hid hzs
        have HA2 := Lib.hid (show a + n ≤ ys.length by rw [HY.out]; omega)
        have HB2 := Lib.hid (show b + n ≤ ys.length by rw [HY.out]; omega)
        have HZL := Lib.hid (show zs.length = m by rw [← hzs, moveN_length, HY.out])
        have HA3 := Lib.hid (show a + n ≤ zs.length by rw [HZL.out]; omega)
        have HB3 := Lib.hid (show b + n ≤ zs.length by rw [HZL.out]; omega)
        have HZ2 := Lib.hid (show moveN zs zs a b n = zs by rw [← hzs]; exact moves_back ys a b n HA2.out HB2.out (by omega))
        have HZG := Lib.hid (show ∀ i, zs.getD i 0 = if b ≤ i ∧ i < b + n then ys.getD (a + (i - b)) 0 else ys.getD i 0 from fun i => by rw [← hzs]; exact move_at ys a b n HB2.out i)
        clear hzs ha hb
        by_cases hab : (a : Int) < b
        · have h4 : decide ((b : Int) - a < n) = false := decide_eq_false (by omega)
          have h5 : decide ((b : Int) ≤ a) = false := decide_eq_false (by omega)
          clear hov
          go_wp2_with (first
            | (go_at_call 16; (with_reducible refine (there_yes _ _ _ _ _ _ hm4 HA.out).mono ?_); rintro e w' ⟨rfl, rfl⟩)
            | (go_at_call 16; (with_reducible refine (there_yes _ _ _ _ _ _ hm4 HB.out).mono ?_); rintro e w' ⟨rfl, rfl⟩)
            | (go_at_call 17; (with_reducible refine (Move_to M3.out b a n HB2.out HA2.out HZ.out).mono ?_); rintro e w4 ⟨rfl, hm, hg⟩; have M4 := Lib.hid hm; have G4 := Lib.hid (grown_new G3.out hg HR.out); clear hm hg)
            | (go_at_call 17; (with_reducible refine (Move_to M5.out a b n HA3.out HB3.out HZ2.out).mono ?_); rintro e w6 ⟨rfl, hm, hg⟩; have M6 := Lib.hid hm; have G6 := Lib.hid (grown_new G5.out hg HR.out); have L6 := Lib.hid (L5.out.grown hg); clear hm hg)
            | (go_at_call 11; (with_reducible refine (All_yes M6.out).mono ?_); rintro e w7 ⟨A7, e7, rfl, ho, hg⟩; have R7 := Lib.hid (rd_own ho); have G7 := Lib.hid (G6.out.trans hg); have L7 := Lib.hid (L6.out.made hg); clear ho hg)
            | (go_at_call 11; (with_reducible refine (All_yes M4.out).mono ?_); rintro e w5 ⟨A5, e5, rfl, ho, hg⟩; have L5 := Lib.hid (own_lst ho rfl M4.out.lt.2); have G5 := Lib.hid (G4.out.trans hg); have M5 := Lib.hid (M4.out.kept hg (by simp) (by simp)); clear ho hg)
            | (go_at_call 10; (with_reducible refine (words_true zs _ _ _ _ _ _ _ _ _ (by rw [HZL.out]; omega) rfl R7.out (L7.out.rd' rfl)).mono ?_); rintro e w8 ⟨rfl, q, rfl⟩; have G8 := Lib.hid (G7.out.trans (grown_drewN _ q none))))
          have RM := Lib.hid ((L7.out.drewN q).rd' rfl)
          go_loop [14] (fun i => ∃ k : Nat, k ≤ m ∧ i = .int .i64 k) (fun i => m - (intOf i).toNat)
          case atStart => exact ⟨0, Nat.zero_le _, rfl⟩
          case round =>
            obtain ⟨k, hk, rfl⟩ := hrel
            by_cases hlt : k < m
            · obtain ⟨b1, o1, rfl, g1⟩ := (R1.out.below (grown_below G8.out)).at_ hlt
              obtain ⟨b2, o2, rfl, g2⟩ := RM.out.at_ (show k < zs.length by rw [HZL.out]; exact hlt)
              have HLT := Lib.hid (show k < zs.length by rw [HZL.out]; exact hlt)
              have e2 := HZG.out k
              generalize zs.getD k 0 = z at g2 e2
              by_cases hin : b ≤ k ∧ k < b + n
              · rw [if_pos hin] at e2
                obtain ⟨b3, o3, h3, g3⟩ := (R1.out.below (grown_below G8.out)).at_ (show a + (k - b) < m by omega)
                injection h3 with h3; injection h3 with h31 h32 h33; subst h31 h32
                generalize ys.getD (a + (k - b)) 0 = y at g3 e2
                subst e2
                obtain ⟨d, hd⟩ : ∃ d, d = a + (k - b) := ⟨_, rfl⟩
                rw [← hd] at g3
                have i1 : (k : Int) ≥ b := by omega
                have i2 : (k : Int) < (b : Int) + n := by omega
                obtain ⟨W1, W2⟩ : IntKind.i64.wrap ((a : Int) + k) = (a : Int) + k ∧ (a : Int) + k - b = d := ⟨IntWalk.i64_in _ (by omega), by omega⟩
                have i3 : d < m := by omega
                clear hin HZG hd W1
                go_wp2
                go_round
                case rel => exact ⟨k + 1, by omega, by go_num⟩
                case measure => simp [intOf]; omega
              · rw [if_neg hin] at e2
                generalize ys.getD k 0 = y at g1 e2
                subst e2
                clear HZG
                by_cases i1 : (k : Int) < b
                · clear hin
                  go_wp2
                  go_round
                  case rel => exact ⟨k + 1, by omega, by go_num⟩
                  case measure => simp [intOf]; omega
                · have i2 : (b : Int) + n ≤ k := by omega
                  clear hin
                  go_wp2
                  go_round
                  case rel => exact ⟨k + 1, by omega, by go_num⟩
                  case measure => simp [intOf]; omega
            · go_wp2
              go_ret
              exact ⟨rfl, G8.out⟩
        · have h4 : decide ((a : Int) - b < n) = false := decide_eq_false (by omega)
          have h5 : decide ((b : Int) ≤ a) = true := decide_eq_true (by omega)
          clear hov
          go_wp2_with (first
            | (go_at_call 16; (with_reducible refine (there_yes _ _ _ _ _ _ hm4 HA.out).mono ?_); rintro e w' ⟨rfl, rfl⟩)
            | (go_at_call 16; (with_reducible refine (there_yes _ _ _ _ _ _ hm4 HB.out).mono ?_); rintro e w' ⟨rfl, rfl⟩)
            | (go_at_call 17; (with_reducible refine (Move_to M3.out b a n HB2.out HA2.out HZ.out).mono ?_); rintro e w4 ⟨rfl, hm, hg⟩; have M4 := Lib.hid hm; have G4 := Lib.hid (grown_new G3.out hg HR.out); clear hm hg)
            | (go_at_call 17; (with_reducible refine (Move_to M5.out a b n HA3.out HB3.out HZ2.out).mono ?_); rintro e w6 ⟨rfl, hm, hg⟩; have M6 := Lib.hid hm; have G6 := Lib.hid (grown_new G5.out hg HR.out); have L6 := Lib.hid (L5.out.grown hg); clear hm hg)
            | (go_at_call 11; (with_reducible refine (All_yes M6.out).mono ?_); rintro e w7 ⟨A7, e7, rfl, ho, hg⟩; have R7 := Lib.hid (rd_own ho); have G7 := Lib.hid (G6.out.trans hg); have L7 := Lib.hid (L6.out.made hg); clear ho hg)
            | (go_at_call 11; (with_reducible refine (All_yes M4.out).mono ?_); rintro e w5 ⟨A5, e5, rfl, ho, hg⟩; have L5 := Lib.hid (own_lst ho rfl M4.out.lt.2); have G5 := Lib.hid (G4.out.trans hg); have M5 := Lib.hid (M4.out.kept hg (by simp) (by simp)); clear ho hg)
            | (go_at_call 10; (with_reducible refine (words_true zs _ _ _ _ _ _ _ _ _ (by rw [HZL.out]; omega) rfl R7.out (L7.out.rd' rfl)).mono ?_); rintro e w8 ⟨rfl, q, rfl⟩; have G8 := Lib.hid (G7.out.trans (grown_drewN _ q none))))
          have RM := Lib.hid ((L7.out.drewN q).rd' rfl)
          go_loop [14] (fun i => ∃ k : Nat, k ≤ m ∧ i = .int .i64 k) (fun i => m - (intOf i).toNat)
          case atStart => exact ⟨0, Nat.zero_le _, rfl⟩
          case round =>
            obtain ⟨k, hk, rfl⟩ := hrel
            by_cases hlt : k < m
            · obtain ⟨b1, o1, rfl, g1⟩ := (R1.out.below (grown_below G8.out)).at_ hlt
              obtain ⟨b2, o2, rfl, g2⟩ := RM.out.at_ (show k < zs.length by rw [HZL.out]; exact hlt)
              have HLT := Lib.hid (show k < zs.length by rw [HZL.out]; exact hlt)
              have e2 := HZG.out k
              generalize zs.getD k 0 = z at g2 e2
              by_cases hin : b ≤ k ∧ k < b + n
              · rw [if_pos hin] at e2
                obtain ⟨b3, o3, h3, g3⟩ := (R1.out.below (grown_below G8.out)).at_ (show a + (k - b) < m by omega)
                injection h3 with h3; injection h3 with h31 h32 h33; subst h31 h32
                generalize ys.getD (a + (k - b)) 0 = y at g3 e2
                subst e2
                obtain ⟨d, hd⟩ : ∃ d, d = a + (k - b) := ⟨_, rfl⟩
                rw [← hd] at g3
                have i1 : (k : Int) ≥ b := by omega
                have i2 : (k : Int) < (b : Int) + n := by omega
                obtain ⟨W1, W2⟩ : IntKind.i64.wrap ((a : Int) + k) = (a : Int) + k ∧ (a : Int) + k - b = d := ⟨IntWalk.i64_in _ (by omega), by omega⟩
                have i3 : d < m := by omega
                clear hin HZG hd W1
                go_wp2
                go_round
                case rel => exact ⟨k + 1, by omega, by go_num⟩
                case measure => simp [intOf]; omega
              · rw [if_neg hin] at e2
                generalize ys.getD k 0 = y at g1 e2
                subst e2
                clear HZG
                by_cases i1 : (k : Int) < b
                · clear hin
                  go_wp2
                  go_round
                  case rel => exact ⟨k + 1, by omega, by go_num⟩
                  case measure => simp [intOf]; omega
                · have i2 : (b : Int) + n ≤ k := by omega
                  clear hin
                  go_wp2
                  go_round
                  case rel => exact ⟨k + 1, by omega, by go_num⟩
                  case measure => simp [intOf]; omega
            · go_wp2
              go_ret
              exact ⟨rfl, G8.out⟩
end Go.Proofs.Ytdlclkmaiaeleaa.mm
