/- The walk of layer 10's law on what is read. -/
import Derived.Test.YtngicaainjoljaaHdC
import Derived.Deep.DeepCutAuto
namespace Go.Proofs.Ytngicaainjoljaa.hd
open Go.ChangeShapes Go.WideShapes Go.ChangeAt Go.RowKit gen mm
set_option linter.unusedVariables false

theorem move_all (xs : List Int) : moveN (List.replicate xs.length 0) xs 0 0 xs.length = xs := by
  refine ext_getD (by rw [moveN_length]; simp) (fun i hi => ?_)
  rw [moveN_length, List.length_replicate] at hi
  rw [moveN_getD _ _ _ _ _ (by simp)]
  rw [if_pos (by omega)]
  congr 1
  omega
/-- Behind the cut of a long list: one of at most two hundred, among what came in. -/
def Cut200 (w : World) (v : Value) (wx : World) : Prop := ∃ A m c ys, v = .slice A m c ∧ m ≤ 200 ∧ Rd w w.heap.size A m c ys ∧ Fit ys ∧ w.grownBy wx none
theorem rd_head {w : World} {B n c c' k : Nat} {ad : Addr} {xs : List Int} (h : Rd w B (some ad) n c xs) (hk : k ≤ n) : Rd w B (some ad) k c' (xs.take k) := by
  refine ⟨by rw [List.length_take, h.1]; omega, fun e => (by cases e), fun a e i hi => ?_⟩
  have := h.2.2 a e i (by omega)
  rw [show (xs.take k).getD i 0 = xs.getD i 0 by simp [List.getD_eq_getElem?_getD, hi]]
  exact this
theorem Fit.take {xs : List Int} (h : Fit xs) (n : Nat) : Fit (xs.take n) := fun i => by
  rw [List.getD_eq_getElem?_getD, List.getElem?_take]
  split
  · exact h i
  · simp
theorem obj_not {xs : List Int} {a : Int} {k : Nat} (ha : a = k) (h : ¬ (Isw (xs.getD k 0) ∧ (k : Int) + xs.getD k 0 % 128 < xs.length)) : ¬ Obj xs a := by
  subst ha
  rintro ⟨q, e, h1, h2⟩
  obtain rfl : k = q := by omega
  exact h ⟨h1, h2⟩
theorem obj_in {xs : List Int} {a : Int} (h : ¬ (0 ≤ a ∧ a < xs.length)) : ¬ Obj xs a := by
  rintro ⟨q, e, h1, h2⟩
  have := h1.1
  exact h (by omega)

set_option maxRecDepth 100000 in
set_option maxHeartbeats 16000000 in
theorem HeadReads_any (xs : List Int) (A : Option Addr) (n0 c0 : Nat) (a i : Int) (w : World) (hl0 : n0 ≤ c0) (hm0 : c0 ≤ maxLen) (rd : Rd w w.heap.size A n0 c0 xs) (ft : Fit xs) :
    Calls Try.prog 5 #[.slice A n0 c0, .int .i64 a, .int .i64 i] w fun e w' => e = .returned (.bool true) ∧ w.grownBy w' none := by
  have R := Lib.hid rd
  have HF := Lib.hid ft
  unfold maxLen at hm0
  clear rd ft
  go_enter Try.func5, Try.ntmps5
  go_upto_if 18 with (go_at_call 6; (with_reducible refine (alive_any _).mono ?_); rintro e w1 ⟨rfl, hg⟩; have G1 := Lib.hid hg; clear hg)
  go_cut [0] (fun v wx => Cut200 w v wx)
  case first =>
    by_cases hlt : 200 < n0
    · cases A with
      | none => exact absurd (R.out.2.1 rfl).1 (by omega)
      | some ad =>
        have l1 : (200 : Int) ≤ c0 := by omega
        go_wp2
        all_goals
          go_meet
          exact ⟨_, _, _, _, rfl, by omega, rd_head R.out (by omega), HF.out.take _, G1.out⟩
    · go_wp2
      all_goals
        go_meet
        exact ⟨_, _, _, _, rfl, by omega, R.out, HF.out, G1.out⟩
  case rest =>
    obtain ⟨A1, m, c1, ys, rfl, hm, hr, hf, hg⟩ := hcut
    clear HF
    have R1 := Lib.hid hr
    have HF := Lib.hid hf
    have G1 := Lib.hid hg
    have HY := Lib.hid hr.1
    have HK : Hid (near (m : Int) 0 2048 = (m : Nat)) := Lib.hid (near_id m (by omega))
    clear R hm0 hl0 hr hg hf
    go_wp2_with (go_at_call 10; (with_reducible refine (New_any _ _ HK.out _).mono ?_); rintro e w2 ⟨g, r, rfl, hmm, hg, hr, hw⟩; have M2 := Lib.hid hmm; have G2 := Lib.hid (G1.out.trans hw); have HR := Lib.hid (show w.heap.size ≤ r from Nat.le_trans G1.out.size hr); clear hmm hw hr hg)
    go_loopw [8] (fun i wr => ∃ k : Nat, k ≤ m ∧ i = .int .i64 k ∧ MemAt wr g r (moveN (List.replicate m 0) ys 0 0 k) ∧ w.grownBy wr none) (fun i _ => m - (intOf i).toNat)
    case atStart => exact ⟨0, Nat.zero_le _, rfl, M2.out, G2.out⟩
    case round =>
      obtain ⟨k, hk, rfl, hmm, hg⟩ := hrel
      have M3 := Lib.hid hmm
      have G3 := Lib.hid hg
      clear hmm hg
      by_cases hlt : k < m
      · obtain ⟨b1, o1, rfl, g1⟩ := (R1.out.below (grown_below G3.out)).at_ hlt
        obtain ⟨x, hx⟩ : ∃ x, ys.getD k 0 = x := ⟨_, rfl⟩
        rw [hx] at g1
        have HX := Lib.hid hx
        have HLN := Lib.hid (show k < (moveN (List.replicate m 0) ys 0 0 k).length by rw [moveN_length]; simpa using hlt)
        clear hx
        go_wp2_with (go_at_call 16; (with_reducible refine (Store_yes M3.out k x HLN.out).mono ?_); rintro e w4 ⟨rfl, hm4, hg4⟩; have M4 := Lib.hid hm4; have G4 := Lib.hid (grown_new G3.out hg4 HR.out); clear hm4 hg4)
        go_roundw
        case rel => exact ⟨k + 1, by omega, by go_num, by have := M4.out; rw [show (moveN (List.replicate m 0) ys 0 0 k).set k x = moveN (List.replicate m 0) ys 0 0 (k + 1) by show _ = (moveN (List.replicate m 0) ys 0 0 k).set (0 + k) (ys.getD (0 + k) 0); rw [Nat.zero_add, HX.out]] at this; exact this, G4.out⟩
        case measure => simp [intOf]; omega
      · have HE : Hid (MemAt wr g r ys) := Lib.hid (by
          have h := move_all ys
          rw [HY.out, show m = k by omega] at h
          have h2 := M3.out
          rw [show m = k by omega, h] at h2
          exact h2)
        have M4 := HE
        have G4 := G3
        have HKM := Lib.hid hk
        clear HE M3 G3 M2 G2
        obtain rfl : k = m := by omega
        clear hk hlt
        by_cases ha : a < 0
        · have HO := Lib.hid (obj_in (xs := ys) (a := a) (by omega))
          go_wp2_with (first
            | (go_at_call 13; (with_reducible refine (Read_no M4.out HF.out _ HO.out).mono ?_); rintro e w' ⟨rfl, rfl⟩)
            | (go_at_call 14; (with_reducible refine (Field_no _ _ _ _ _ _ _ (by omega) (Read_no M4.out HF.out _ HO.out)).mono ?_); rintro e w' ⟨rfl, rfl⟩))
          go_ret
          exact ⟨rfl, G4.out⟩
        by_cases hb : (k : Int) ≤ a
        · have HO := Lib.hid (obj_in (xs := ys) (a := a) (by rw [HY.out]; omega))
          go_wp2_with (first
            | (go_at_call 13; (with_reducible refine (Read_no M4.out HF.out _ HO.out).mono ?_); rintro e w' ⟨rfl, rfl⟩)
            | (go_at_call 14; (with_reducible refine (Field_no _ _ _ _ _ _ _ (by omega) (Read_no M4.out HF.out _ HO.out)).mono ?_); rintro e w' ⟨rfl, rfl⟩))
          go_ret
          exact ⟨rfl, G4.out⟩
        obtain ⟨p, hp⟩ : ∃ p : Nat, a = p := ⟨a.toNat, by omega⟩
        subst hp
        obtain ⟨b1, o1, rfl, g1⟩ := (R1.out.below (grown_below G4.out)).at_ (show p < k by omega)
        have HXP := Lib.hid (show ∀ z, ys.getD p 0 = z → ¬ (Isw z ∧ (p : Int) + z % 128 < k) → ¬ Obj ys p from fun z hz h => obj_not rfl (by rw [hz, HY.out]; exact h))
        have RY := Lib.hid (show ∀ z, ys.getD p 0 = z → Isw z → (p : Int) + z % 128 < k → Calls Try.prog 13 #[.pointer (some ⟨g, 0, none⟩), .int .i64 p] wr fun e w' => e = got3 z ∧ wr = w' from fun z hz h1 h2 => by
          subst hz
          exact Read_yes M4.out p h1 (by rw [HY.out]; exact h2))
        obtain ⟨x, hx⟩ : ∃ x, ys.getD p 0 = x := ⟨_, rfl⟩
        rw [hx] at g1
        have HXX := Lib.hid hx
        clear hx
        by_cases hx1 : x < 0
        · have HO := Lib.hid (HXP.out x HXX.out (by unfold Isw; omega))
          go_wp2_with (first
            | (go_at_call 13; (with_reducible refine (Read_no M4.out HF.out _ HO.out).mono ?_); rintro e w' ⟨rfl, rfl⟩)
            | (go_at_call 14; (with_reducible refine (Field_no _ _ _ _ _ _ _ (by omega) (Read_no M4.out HF.out _ HO.out)).mono ?_); rintro e w' ⟨rfl, rfl⟩))
          go_ret
          exact ⟨rfl, G4.out⟩
        by_cases hx2 : 140737488355328 ≤ x
        · have HO := Lib.hid (HXP.out x HXX.out (by unfold Isw; omega))
          go_wp2_with (first
            | (go_at_call 13; (with_reducible refine (Read_no M4.out HF.out _ HO.out).mono ?_); rintro e w' ⟨rfl, rfl⟩)
            | (go_at_call 14; (with_reducible refine (Field_no _ _ _ _ _ _ _ (by omega) (Read_no M4.out HF.out _ HO.out)).mono ?_); rintro e w' ⟨rfl, rfl⟩))
          go_ret
          exact ⟨rfl, G4.out⟩
        by_cases hx3 : (k : Int) - p ≤ x % 128
        · have HO := Lib.hid (HXP.out x HXX.out (by unfold Isw; omega))
          have e3 : decide (x % 128 ≥ (k : Int) - p) = true := decide_eq_true hx3
          go_wp2_with (first
            | (go_at_call 13; (with_reducible refine (Read_no M4.out HF.out _ HO.out).mono ?_); rintro e w' ⟨rfl, rfl⟩)
            | (go_at_call 14; (with_reducible refine (Field_no _ _ _ _ _ _ _ (by omega) (Read_no M4.out HF.out _ HO.out)).mono ?_); rintro e w' ⟨rfl, rfl⟩))
          go_ret
          exact ⟨rfl, G4.out⟩
        have HW := Lib.hid (RY.out x HXX.out (by unfold Isw; omega) (by omega))
        have e3 : decide (x % 128 ≥ (k : Int) - p) = false := decide_eq_false hx3
        have e4 : 0 ≤ x % 128 ∧ x % 128 < 128 := by omega
        obtain ⟨e5, e6⟩ := e4
        by_cases hi1 : i < 0
        · have HI := Lib.hid (show ¬ (0 ≤ i ∧ i < x % 128) by omega)
          go_wp2_with (first
            | (go_at_call 13; (with_reducible refine (HW.out).mono ?_); rintro e w' ⟨rfl, rfl⟩)
            | (go_at_call 14; (with_reducible refine (Field_no _ _ _ _ _ _ _ HI.out HW.out).mono ?_); rintro e w' ⟨rfl, rfl⟩))
          go_ret
          exact ⟨rfl, G4.out⟩
        by_cases hi2 : x % 128 ≤ i
        · have HI := Lib.hid (show ¬ (0 ≤ i ∧ i < x % 128) by omega)
          have e7 : decide (i < x % 128) = false := decide_eq_false (by omega)
          go_wp2_with (first
            | (go_at_call 13; (with_reducible refine (HW.out).mono ?_); rintro e w' ⟨rfl, rfl⟩)
            | (go_at_call 14; (with_reducible refine (Field_no _ _ _ _ _ _ _ HI.out HW.out).mono ?_); rintro e w' ⟨rfl, rfl⟩))
          go_ret
          exact ⟨rfl, G4.out⟩
        have HI := Lib.hid (show 0 ≤ i ∧ i < x % 128 ∧ x % 128 < 128 by omega)
        have HA := Lib.hid (show 0 ≤ (p : Int) ∧ (p : Int) ≤ 4096 by omega)
        have e7 : decide (i < x % 128) = true := decide_eq_true (by omega)
        go_wp2_with (first
          | (go_at_call 13; (with_reducible refine (HW.out).mono ?_); rintro e w' ⟨rfl, rfl⟩)
          | (go_at_call 14; (with_reducible refine (Field_yes _ _ _ _ _ _ HA.out HI.out HW.out).mono ?_); rintro e w' ⟨rfl, rfl⟩))
        go_ret
        exact ⟨rfl, G4.out⟩
end Go.Proofs.Ytngicaainjoljaa.hd
