/- Layer 8's Build: what it does when it is called; and what the words are then. -/
import Derived.Test.YtkkoiglfimibjaaDoorChB
namespace Go.Proofs.YtkkoiglfimibjaaDoor.ch
open Go.ChangeShapes Go.WideShapes Go.ChangeAt Go.RowKit gen calls cls geos mm
set_option linter.unusedVariables false

theorem fillN_getD (xs : List Int) (a : Nat) (v : Int) (k : Nat) (h : a + k ≤ xs.length) (i : Nat) : (fillN xs a v k).getD i 0 = if a ≤ i ∧ i < a + k then v else xs.getD i 0 := by
  induction k with
  | zero => rw [if_neg (by omega)]; rfl
  | succ k ih =>
    have ih := ih (by omega)
    have hl := fillN_length xs a v k
    by_cases hi : i = a + k
    · subst hi
      rw [if_pos (by omega)]
      simp only [fillN, List.getD_eq_getElem?_getD]
      rw [List.getElem?_set_self (by omega)]
      simp
    · simp only [fillN, List.getD_eq_getElem?_getD] at ih ⊢
      rw [List.getElem?_set_ne (by omega), ih]
      by_cases h1 : a ≤ i ∧ i < a + k
      · rw [if_pos h1, if_pos (by omega)]
      · rw [if_neg h1, if_neg (by omega)]
theorem set_getD (xs : List Int) (a : Nat) (v : Int) (i : Nat) (h : a < xs.length) : (xs.set a v).getD i 0 = if i = a then v else xs.getD i 0 := by
  by_cases hi : i = a
  · subst hi
    rw [if_pos rfl, List.getD_eq_getElem?_getD, List.getElem?_set_self h]
    rfl
  · rw [if_neg hi, List.getD_eq_getElem?_getD, List.getElem?_set_ne (by omega), ← List.getD_eq_getElem?_getD]
/-- The words of page p with j cells of s words made free, all other words of it 0. -/
def builtN (xs : List Int) (p s : Nat) : Nat → List Int
  | 0 => fillN xs (p * 32) 0 32
  | j + 1 => (builtN xs p s j).set (p * 32 + j * s) (-1 - ((j : Int) + 1))
theorem builtN_length (xs : List Int) (p s j : Nat) : (builtN xs p s j).length = xs.length := by
  induction j with
  | zero => exact fillN_length _ _ _ _
  | succ j ih => simp [builtN, ih]
theorem builtN_getD (xs : List Int) (p s j : Nat) (hs : 2 ≤ s) (hj : j * s ≤ 32) (h : p * 32 + 32 ≤ xs.length) (i : Nat) :
    (builtN xs p s j).getD i 0 = if p * 32 ≤ i ∧ i < p * 32 + 32 then (if (i - p * 32) % s = 0 ∧ (i - p * 32) / s < j then -2 - (((i - p * 32) / s : Nat) : Int) else 0) else xs.getD i 0 := by
  induction j with
  | zero =>
    rw [builtN, fillN_getD _ _ _ _ h]
    by_cases hi : p * 32 ≤ i ∧ i < p * 32 + 32
    · rw [if_pos hi, if_pos hi, if_neg (fun h => Nat.not_lt_zero _ h.2)]
    · rw [if_neg hi, if_neg hi]
  | succ j ih =>
    have hj1 : j * s + s ≤ 32 := by rw [Nat.add_mul, Nat.one_mul] at hj; exact hj
    have ih := ih (by omega)
    rw [builtN, set_getD _ _ _ _ (by rw [builtN_length]; omega), ih]
    by_cases hi : i = p * 32 + j * s
    · subst hi
      rw [if_pos rfl, if_pos (by omega), show p * 32 + j * s - p * 32 = j * s by omega, Nat.mul_mod_left, Nat.mul_div_cancel _ (by omega), if_pos ⟨rfl, by omega⟩]
      omega
    · rw [if_neg hi]
      by_cases hp : p * 32 ≤ i ∧ i < p * 32 + 32
      · rw [if_pos hp, if_pos hp]
        have e := Nat.div_add_mod (i - p * 32) s
        by_cases hm : (i - p * 32) % s = 0
        · have hne : (i - p * 32) / s ≠ j := by
            intro hh
            rw [hh, hm, Nat.mul_comm] at e
            omega
          by_cases hlt : (i - p * 32) / s < j
          · rw [if_pos ⟨hm, hlt⟩, if_pos ⟨hm, by omega⟩]
          · rw [if_neg (by omega), if_neg (by omega)]
        · rw [if_neg (by omega), if_neg (by omega)]
      · rw [if_neg hp, if_neg hp]

theorem Fill_page {g r : Nat} {xs : List Int} {w : World} (h : MemAt w g r xs) (p : Nat) (hyes : p * 32 + 32 ≤ xs.length) :
    Calls Tryd.prog 68 #[.pointer (some ⟨g, 0, none⟩), .int .i64 ((p : Int) * 32), .int .i64 32, .int .i64 0] w fun e w' => e = .returned (.bool true) ∧ MemAt w' g r (fillN xs (p * 32) 0 32) ∧ w.grownBy w' (some r) := by
  have := Fill_yes h (p * 32) 32 0 hyes
  rw [show ((p * 32 : Nat) : Int) = (p : Int) * 32 by omega] at this
  exact this
theorem Build_yes {g r : Nat} {xs : List Int} {w : World} (h : MemAt w g r xs) (p s c : Nat) (k : Int) (hs : sz k = s) (hc : cl k = c) (hy : thk xs.length p k = true) :
    Calls Tryd.prog 47 #[.pointer (some ⟨g, 0, none⟩), .int .i64 p, .int .i64 k] w fun e w' => e = ansC 0 c true ∧ MemAt w' g r (builtN xs p s c) ∧ w.grownBy w' (some r) := by
  obtain ⟨p0, p1, k0, k1, hl⟩ := thk_iff.mp hy
  have hp : fits p = true := by simp [fits]; omega
  have hk : fits k = true := by simp [fits]; omega
  obtain ⟨s', c', s1, c1, m1, m2, m3, m4, m5⟩ := sz_cl k0 k1
  obtain rfl : s' = s := by omega
  obtain rfl : c' = c := by omega
  have F1 : Hid (fits 1 = true) := by simp [Lib.hid, fits]
  have q : enk p 1 = true := enk_iff.mpr (by omega)
  have q1 : enf p 1 = p * 32 := by unfold enf; rw [if_pos q]
  have q2 : enl p 1 = p * 32 + 1 * 32 - 1 := by unfold enl; rw [if_pos q]
  have HP := Lib.hid hp
  have HK := Lib.hid hk
  have T1 := Lib.hid hy
  have HL := Lib.hid (show p * 32 + 32 ≤ xs.length by omega)
  have G0 := Lib.hid (World.grownBy_alloc w (.cells #[.int .i64 0, .int .i64 0] 60) none)
  have HR := Lib.hid h.lt
  have H := Lib.hid (h.kept G0.out (by simp) (by simp))
  have D0 := Lib.hid (Two.new w 60 0 0 rfl)
  have AT := Lib.hid (fun (j : Nat) (hj : j < c') => at_nat (i := j) p0 p1 (by omega) (by rw [hc]; omega))
  have MU := Lib.hid (fun (j : Nat) (hj : j < c') => show j * s' + s' ≤ 32 by
    have : (j + 1) * s' ≤ c' * s' := Nat.mul_le_mul_right _ (by omega)
    rw [Nat.add_mul, Nat.one_mul, Nat.mul_comm c'] at this
    omega)
  clear hp hk hy h hl m1 k0 k1
  go_enter Tryd.func47, Tryd.ntmps47
  go_wp2_with (first
    | (go_at_call 82; (with_reducible refine (there_any H.out _ _ HP.out HK.out).mono ?_); rintro e w' ⟨rfl, rfl⟩; rw [T1.out])
    | (go_at_call 55; (with_reducible refine (ends_any _ _ _ HP.out F1.out).mono ?_); rintro e w' ⟨rfl, rfl⟩; rw [q, q1, q2])
    | (go_at_call 61; (with_reducible refine (cells_any _ _ HK.out).mono ?_); rintro e w' ⟨rfl, rfl⟩; rw [hc])
    | (go_at_call 68; (with_reducible refine (Fill_page H.out p HL.out).mono ?_); rintro e w2 ⟨rfl, hm, hg⟩; have M2 := Lib.hid hm; have G2 := Lib.hid (grown_then G0.out hg); have D2 := Lib.hid (D0.out.kept hg (by have := HR.out.2; simp; omega)); clear hm hg))
  go_loopw [33] (fun i wr => ∃ j : Nat, j ≤ c' ∧ i = .int .i64 j ∧ MemAt wr g r (builtN xs p s' j) ∧ w.grownBy wr (some r) ∧ Two wr w.heap.size 0 0) (fun i _ => c' - (intOf i).toNat)
  case atStart => exact ⟨0, Nat.zero_le _, rfl, M2.out, G2.out, D2.out⟩
  case round =>
    obtain ⟨j, hj, rfl, hm, hg, hd⟩ := hrel
    have HM := Lib.hid hm
    have HG := Lib.hid hg
    have HD := Lib.hid hd
    obtain ⟨d0, d1, d2, d3⟩ := hd
    clear hm hg
    by_cases hlt : j < c'
    · obtain ⟨e1, a, e2, e3, e4, e5, e6⟩ := AT.out j hlt
      have mu := MU.out j hlt
      have ha : a = p * 32 + j * s' := by rw [s1] at e4; omega
      have HA := Lib.hid (show a < (builtN xs p s' j).length by rw [builtN_length]; have := HL.out; omega)
      have HE := Lib.hid (show (builtN xs p s' j).set a (-1 - ((j : Int) + 1)) = builtN xs p s' (j + 1) by rw [ha]; rfl)
      clear e3 e4 e5 e6 ha mu
      go_wp2_with (first
        | (go_at_call 51; (with_reducible refine (at_any _ _ _ _ HP.out HK.out).mono ?_); rintro e w' ⟨rfl, rfl⟩; rw [e1, e2])
        | (go_at_call 83; (with_reducible refine (tell_any _ _ (by omega) (by omega)).mono ?_); rintro e w' ⟨rfl, rfl⟩)
        | (go_at_call 26; (with_reducible refine (Store_yes HM.out a _ HA.out).mono ?_); rintro e w4 ⟨rfl, hm, hg⟩; have M4 := Lib.hid hm; have G4 := Lib.hid (HG.out.trans hg); have D4 := Lib.hid (HD.out.kept hg (by have := HR.out.2; simp; omega)); clear hm hg))
      go_roundw
      case rel => exact ⟨j + 1, by omega, by go_num, HE.out ▸ M4.out, G4.out, D4.out⟩
      case measure => simp [intOf]; omega
    · obtain rfl : j = c' := by omega
      go_wp2
      refine bodyPost_ret (v := .tuple #[.agg #[.int .i64 0, .int .i64 j], .bool true]) ?_ rfl ⟨rfl, ?_, ?_⟩
      · simp [results, Tryd.results47, go_sem, *]
      · exact (HM.out.setc (by have := HR.out.1; omega) (by have := HR.out.2; omega) _ _).setc (by have := HR.out.1; omega) (by have := HR.out.2; omega) _ _
      · exact grown_setc (grown_setc HG.out (Nat.le_refl _) _ _) (Nat.le_refl _) _ _
theorem Build_no {g r : Nat} {xs : List Int} {w : World} (h : MemAt w g r xs) (p k : Int) (hp : fits p = true) (hk : fits k = true) (hy : thk xs.length p k = false) :
    Calls Tryd.prog 47 #[.pointer (some ⟨g, 0, none⟩), .int .i64 p, .int .i64 k] w fun e w' => e = ansC 0 0 false ∧ w.grownBy w' none := by
  have HP := Lib.hid hp
  have HK := Lib.hid hk
  have T1 := Lib.hid hy
  have G0 := Lib.hid (World.grownBy_alloc w (.cells #[.int .i64 0, .int .i64 0] 60) none)
  have H := Lib.hid (h.kept G0.out (by simp) (by simp))
  clear hp hk hy h
  go_enter Tryd.func47, Tryd.ntmps47
  go_wp2_with (first
    | (go_at_call 82; (with_reducible refine (there_any H.out _ _ HP.out HK.out).mono ?_); rintro e w' ⟨rfl, rfl⟩; rw [T1.out]))
  refine bodyPost_ret (v := .tuple #[.agg #[.int .i64 0, .int .i64 0], .bool false]) ?_ rfl ⟨rfl, G0.out⟩
  simp [results, Tryd.results47, go_sem, *]
end Go.Proofs.YtkkoiglfimibjaaDoor.ch
