/- The walks of the statements on values that come back from their words, and on numbers and references that are made. -/
import Derived.Test.YtblaijmnapehiaaWdC
namespace Go.Proofs.Ytblaijmnapehiaa.wd
open Go.ChangeShapes Go.WideShapes Go.ChangeAt Go.RowKit
set_option linter.unusedVariables false

theorem wf64 {n : Int} (h : -9223372036854775808 ≤ n ∧ n ≤ 9223372036854775807) : (Lit.int .i64 n).wf = true := by
  have h1 : IntKind.i64.min ≤ n := h.1
  have h2 : n ≤ IntKind.i64.max := h.2
  show (decide (IntKind.i64.min ≤ n) && decide (n ≤ IntKind.i64.max)) = true
  rw [Bool.and_eq_true]
  exact ⟨decide_eq_true h1, decide_eq_true h2⟩
theorem wd_back {k n : Int} (h : chk k n = 0) : rk (wd k n) = k ∧ rn (wd k n) = n ∧ rb (wd k n) = true ∧ (Lit.int .i64 (wd k n)).wf = true := by
  have e : wd k n = if k = 0 then 0 else 2 * n + k := by simp [wd, h]
  rw [e]
  rcases chk_zero.1 h with ⟨rfl, rfl⟩ | ⟨rfl, h1, h2⟩ | ⟨rfl, h1, h2⟩
  · decide
  · rw [if_neg (by decide)]
    obtain ⟨e1, e2, e3⟩ := read_num (x := 2 * n + 1) (by omega) (by omega) (by omega)
    exact ⟨e1, by rw [e2]; omega, e3, wf64 (by omega)⟩
  · rw [if_neg (by decide)]
    obtain ⟨e1, e2, e3⟩ := read_ref (x := 2 * n + 2) (by omega) (by omega) (by omega)
    exact ⟨e1, by rw [e2]; omega, e3, wf64 (by omega)⟩
theorem wd_inj {k n l m : Int} (h : chk k n = 0) (h2 : chk l m = 0) (e : wd k n = wd l m) : k = l ∧ n = m := by
  obtain ⟨a1, a2, -⟩ := wd_back h
  obtain ⟨b1, b2, -⟩ := wd_back h2
  exact ⟨by rw [← a1, e, b1], by rw [← a2, e, b2]⟩
theorem read_back {x : Int} (h : rb x = true) : chk (rk x) (rn x) = 0 ∧ wd (rk x) (rn x) = x := by
  by_cases h0 : x = 0
  · subst h0; decide
  by_cases he : x % 2 = 0
  · have hv : vb 2 (x / 2 - 1) = true := by simpa [rb, h0, he] using h
    have hc : chk 2 (x / 2 - 1) = 0 := of_decide_eq_true hv
    have e1 : rk x = 2 := by simp [rk, h0, he, vk, hc]
    have e2 : rn x = x / 2 - 1 := by simp [rn, h0, he, vn, hc]
    rw [e1, e2]
    refine ⟨hc, ?_⟩
    simp [wd, hc]; omega
  · have hv : vb 1 (x / 2) = true := by simpa [rb, h0, he] using h
    have hc : chk 1 (x / 2) = 0 := of_decide_eq_true hv
    have e1 : rk x = 1 := by simp [rk, h0, he, vk, hc]
    have e2 : rn x = x / 2 := by simp [rn, h0, he, vn, hc]
    rw [e1, e2]
    refine ⟨hc, ?_⟩
    simp [wd, hc]; omega

section
variable (k n l m x : Int) (hx : (Lit.int .i64 x).wf = true) (w : World)
include hx
theorem back_any : Calls Try.prog 5 #[.agg #[.int .i64 k, .int .i64 n], .agg #[.int .i64 l, .int .i64 m], .int .i64 x] w fun e w' => e = .returned (.bool true) ∧ Below w.heap.size w w' := by
  have B0 := Lib.hid (((Below.refl w.heap.size w).alloc (Nat.le_refl _) (.cells #[.int .i64 k, .int .i64 n] 23)).alloc (by simp) (.cells #[.int .i64 l, .int .i64 m] 23))
  have C0 := Lib.hid (Two.below ((Below.refl _ _).alloc (Nat.le_refl _) (.cells #[.int .i64 l, .int .i64 m] 23)) (Two.new w 23 k n rfl))
  have E0 := Lib.hid (Two.new (w.alloc (.cells #[.int .i64 k, .int .i64 n] 23)) 23 l m (B := w.heap.size + 1) (by simp))
  have HX := Lib.hid hx
  clear hx
  cases hr : rb x
  · have HR := Lib.hid hr
    clear hr
    cases hv : vb k n
    · have HV := Lib.hid hv
      generalize hu : vb l m = u
      have HU := Lib.hid hu
      clear hv hu
      go_enter Try.func5, Try.ntmps5
      go_wp2_with (first
        | (have mark := B6; (go_at_call 9; (with_reducible refine (Put_any _ _ _).mono ?_); rintro e w7 ⟨rfl, hb7⟩; have B7 := Lib.hid (D6.out.trans (hb7.mono D6.out.size)); clear hb7))
        | (have mark := B3; (go_at_call 12; (with_reducible refine (Read_as HX.out rfl rfl HR.out _).mono ?_); rintro e w6 ⟨rfl, hb6⟩; have B6 := Lib.hid (B3.out.trans (hb6.mono B3.out.size)); have D6 := Lib.hid (B6.out.alloc B6.out.size (.cells #[.int .i64 (rk x), .int .i64 (rn x)] 23)); clear hb6))
        | (have mark := B2; (go_at_call 9; (with_reducible refine (Put_as rfl HU.out _).mono ?_); rintro e w3 ⟨rfl, hb3⟩; have B3 := Lib.hid (B2.out.trans (hb3.mono B2.out.size)); have C3 := Lib.hid (Two.below hb3 C2.out); have E3 := Lib.hid (Two.below hb3 E2.out); obtain ⟨c30, c31, -, -⟩ := C3.out; obtain ⟨e30, e31, -, -⟩ := E3.out; clear hb3))
        | (go_at_call 9; (with_reducible refine (Put_as rfl HV.out _).mono ?_); rintro e w2 ⟨rfl, hb2⟩; have B2 := Lib.hid (B1.out.trans (hb2.mono B1.out.size)); have C2 := Lib.hid (Two.below hb2 C1.out); have E2 := Lib.hid (Two.below hb2 E1.out); obtain ⟨c20, c21, -, -⟩ := C2.out; obtain ⟨e20, e21, -, -⟩ := E2.out; clear hb2)
        | (go_at_call 7; (with_reducible refine (alive_any _).mono ?_); rintro e w1 ⟨rfl, hb1⟩; have B1 := Lib.hid (B0.out.trans (hb1.mono B0.out.size)); have C1 := Lib.hid (Two.below hb1 C0.out); have E1 := Lib.hid (Two.below hb1 E0.out); obtain ⟨c10, c11, -, -⟩ := C1.out; obtain ⟨e10, e11, -, -⟩ := E1.out; clear hb1))
      go_ret
      exact ⟨rfl, B7.out⟩
    · have hc : chk k n = 0 := of_decide_eq_true hv
      obtain ⟨q1, q2, q3, q4⟩ := wd_back hc
      have HV := Lib.hid hv
      have HK := Lib.hid q1
      have HN := Lib.hid q2
      have HQ := Lib.hid q3
      have HW := Lib.hid q4
      clear q1 q2 q3 q4
      cases hu : vb l m
      · have HU := Lib.hid hu
        clear hv hu hc
        go_enter Try.func5, Try.ntmps5
        go_wp2_with (first
          | (have mark := B6; (go_at_call 9; (with_reducible refine (Put_any _ _ _).mono ?_); rintro e w7 ⟨rfl, hb7⟩; have B7 := Lib.hid (D6.out.trans (hb7.mono D6.out.size)); clear hb7))
          | (have mark := B5; (go_at_call 12; (with_reducible refine (Read_as HX.out rfl rfl HR.out _).mono ?_); rintro e w6 ⟨rfl, hb6⟩; have B6 := Lib.hid (D5.out.trans (hb6.mono D5.out.size)); have D6 := Lib.hid (B6.out.alloc B6.out.size (.cells #[.int .i64 (rk x), .int .i64 (rn x)] 23)); clear hb6))
          | (have mark := B3; (go_at_call 12; (with_reducible refine (Read_as HW.out HK.out HN.out HQ.out _).mono ?_); rintro e w5 ⟨rfl, hb5⟩; have B5 := Lib.hid (B3.out.trans (hb5.mono B3.out.size)); have D5 := Lib.hid (B5.out.alloc B5.out.size (.cells #[.int .i64 k, .int .i64 n] 23)); have C5 := Lib.hid (Two.below hb5 C3.out); have E5 := Lib.hid (Two.below hb5 E3.out); have hz5 : w.heap.size < w5.heap.size := World.block_lt_of_cell? w5 _ C5.out.1; have hy5 : w.heap.size + 1 < w5.heap.size := World.block_lt_of_cell? w5 _ E5.out.1; obtain ⟨c50, c51, -, -⟩ := C5.out; obtain ⟨e50, e51, -, -⟩ := E5.out; clear hb5))
          | (have mark := B2; (go_at_call 9; (with_reducible refine (Put_as rfl HU.out _).mono ?_); rintro e w3 ⟨rfl, hb3⟩; have B3 := Lib.hid (B2.out.trans (hb3.mono B2.out.size)); have C3 := Lib.hid (Two.below hb3 C2.out); have E3 := Lib.hid (Two.below hb3 E2.out); obtain ⟨c30, c31, -, -⟩ := C3.out; obtain ⟨e30, e31, -, -⟩ := E3.out; clear hb3))
          | (go_at_call 9; (with_reducible refine (Put_as rfl HV.out _).mono ?_); rintro e w2 ⟨rfl, hb2⟩; have B2 := Lib.hid (B1.out.trans (hb2.mono B1.out.size)); have C2 := Lib.hid (Two.below hb2 C1.out); have E2 := Lib.hid (Two.below hb2 E1.out); obtain ⟨c20, c21, -, -⟩ := C2.out; obtain ⟨e20, e21, -, -⟩ := E2.out; clear hb2)
          | (go_at_call 7; (with_reducible refine (alive_any _).mono ?_); rintro e w1 ⟨rfl, hb1⟩; have B1 := Lib.hid (B0.out.trans (hb1.mono B0.out.size)); have C1 := Lib.hid (Two.below hb1 C0.out); have E1 := Lib.hid (Two.below hb1 E0.out); obtain ⟨c10, c11, -, -⟩ := C1.out; obtain ⟨e10, e11, -, -⟩ := E1.out; clear hb1))
        go_ret
        exact ⟨rfl, B7.out⟩
      · have HU := Lib.hid hu
        have hd : chk l m = 0 := of_decide_eq_true hu
        by_cases he : k = l ∧ n = m
        · obtain ⟨rfl, rfl⟩ := he
          clear hv hu hc hd
          go_enter Try.func5, Try.ntmps5
          go_wp2_with (first
            | (have mark := B6; (go_at_call 9; (with_reducible refine (Put_any _ _ _).mono ?_); rintro e w7 ⟨rfl, hb7⟩; have B7 := Lib.hid (D6.out.trans (hb7.mono D6.out.size)); clear hb7))
            | (have mark := B5; (go_at_call 12; (with_reducible refine (Read_as HX.out rfl rfl HR.out _).mono ?_); rintro e w6 ⟨rfl, hb6⟩; have B6 := Lib.hid (D5.out.trans (hb6.mono D5.out.size)); have D6 := Lib.hid (B6.out.alloc B6.out.size (.cells #[.int .i64 (rk x), .int .i64 (rn x)] 23)); clear hb6))
            | (have mark := B3; (go_at_call 12; (with_reducible refine (Read_as HW.out HK.out HN.out HQ.out _).mono ?_); rintro e w5 ⟨rfl, hb5⟩; have B5 := Lib.hid (B3.out.trans (hb5.mono B3.out.size)); have D5 := Lib.hid (B5.out.alloc B5.out.size (.cells #[.int .i64 k, .int .i64 n] 23)); have C5 := Lib.hid (Two.below hb5 C3.out); have E5 := Lib.hid (Two.below hb5 E3.out); have hz5 : w.heap.size < w5.heap.size := World.block_lt_of_cell? w5 _ C5.out.1; have hy5 : w.heap.size + 1 < w5.heap.size := World.block_lt_of_cell? w5 _ E5.out.1; obtain ⟨c50, c51, -, -⟩ := C5.out; obtain ⟨e50, e51, -, -⟩ := E5.out; clear hb5))
            | (have mark := B2; (go_at_call 9; (with_reducible refine (Put_as rfl HU.out _).mono ?_); rintro e w3 ⟨rfl, hb3⟩; have B3 := Lib.hid (B2.out.trans (hb3.mono B2.out.size)); have C3 := Lib.hid (Two.below hb3 C2.out); have E3 := Lib.hid (Two.below hb3 E2.out); obtain ⟨c30, c31, -, -⟩ := C3.out; obtain ⟨e30, e31, -, -⟩ := E3.out; clear hb3))
            | (go_at_call 9; (with_reducible refine (Put_as rfl HV.out _).mono ?_); rintro e w2 ⟨rfl, hb2⟩; have B2 := Lib.hid (B1.out.trans (hb2.mono B1.out.size)); have C2 := Lib.hid (Two.below hb2 C1.out); have E2 := Lib.hid (Two.below hb2 E1.out); obtain ⟨c20, c21, -, -⟩ := C2.out; obtain ⟨e20, e21, -, -⟩ := E2.out; clear hb2)
            | (go_at_call 7; (with_reducible refine (alive_any _).mono ?_); rintro e w1 ⟨rfl, hb1⟩; have B1 := Lib.hid (B0.out.trans (hb1.mono B0.out.size)); have C1 := Lib.hid (Two.below hb1 C0.out); have E1 := Lib.hid (Two.below hb1 E0.out); obtain ⟨c10, c11, -, -⟩ := C1.out; obtain ⟨e10, e11, -, -⟩ := E1.out; clear hb1))
          go_ret
          exact ⟨rfl, B7.out⟩
        · have h0 : (wd k n == wd l m) = false := by simp only [beq_eq_false_iff_ne, ne_eq]; exact fun e => he (wd_inj hc hd e)
          clear hv hu hc hd
          by_cases hk : k = l
          · have hm : (n == m) = false := by simp only [beq_eq_false_iff_ne, ne_eq]; exact fun e => he ⟨hk, e⟩
            subst hk
            clear he
            go_enter Try.func5, Try.ntmps5
            go_wp2_with (first
              | (have mark := B6; (go_at_call 9; (with_reducible refine (Put_any _ _ _).mono ?_); rintro e w7 ⟨rfl, hb7⟩; have B7 := Lib.hid (D6.out.trans (hb7.mono D6.out.size)); clear hb7))
              | (have mark := B5; (go_at_call 12; (with_reducible refine (Read_as HX.out rfl rfl HR.out _).mono ?_); rintro e w6 ⟨rfl, hb6⟩; have B6 := Lib.hid (D5.out.trans (hb6.mono D5.out.size)); have D6 := Lib.hid (B6.out.alloc B6.out.size (.cells #[.int .i64 (rk x), .int .i64 (rn x)] 23)); clear hb6))
              | (have mark := B3; (go_at_call 12; (with_reducible refine (Read_as HW.out HK.out HN.out HQ.out _).mono ?_); rintro e w5 ⟨rfl, hb5⟩; have B5 := Lib.hid (B3.out.trans (hb5.mono B3.out.size)); have D5 := Lib.hid (B5.out.alloc B5.out.size (.cells #[.int .i64 k, .int .i64 n] 23)); have C5 := Lib.hid (Two.below hb5 C3.out); have E5 := Lib.hid (Two.below hb5 E3.out); have hz5 : w.heap.size < w5.heap.size := World.block_lt_of_cell? w5 _ C5.out.1; have hy5 : w.heap.size + 1 < w5.heap.size := World.block_lt_of_cell? w5 _ E5.out.1; obtain ⟨c50, c51, -, -⟩ := C5.out; obtain ⟨e50, e51, -, -⟩ := E5.out; clear hb5))
              | (have mark := B2; (go_at_call 9; (with_reducible refine (Put_as rfl HU.out _).mono ?_); rintro e w3 ⟨rfl, hb3⟩; have B3 := Lib.hid (B2.out.trans (hb3.mono B2.out.size)); have C3 := Lib.hid (Two.below hb3 C2.out); have E3 := Lib.hid (Two.below hb3 E2.out); obtain ⟨c30, c31, -, -⟩ := C3.out; obtain ⟨e30, e31, -, -⟩ := E3.out; clear hb3))
              | (go_at_call 9; (with_reducible refine (Put_as rfl HV.out _).mono ?_); rintro e w2 ⟨rfl, hb2⟩; have B2 := Lib.hid (B1.out.trans (hb2.mono B1.out.size)); have C2 := Lib.hid (Two.below hb2 C1.out); have E2 := Lib.hid (Two.below hb2 E1.out); obtain ⟨c20, c21, -, -⟩ := C2.out; obtain ⟨e20, e21, -, -⟩ := E2.out; clear hb2)
              | (go_at_call 7; (with_reducible refine (alive_any _).mono ?_); rintro e w1 ⟨rfl, hb1⟩; have B1 := Lib.hid (B0.out.trans (hb1.mono B0.out.size)); have C1 := Lib.hid (Two.below hb1 C0.out); have E1 := Lib.hid (Two.below hb1 E0.out); obtain ⟨c10, c11, -, -⟩ := C1.out; obtain ⟨e10, e11, -, -⟩ := E1.out; clear hb1))
            go_ret
            exact ⟨rfl, B7.out⟩
          · have hm : (k == l) = false := by simp only [beq_eq_false_iff_ne, ne_eq]; exact hk
            clear he hk
            go_enter Try.func5, Try.ntmps5
            go_wp2_with (first
              | (have mark := B6; (go_at_call 9; (with_reducible refine (Put_any _ _ _).mono ?_); rintro e w7 ⟨rfl, hb7⟩; have B7 := Lib.hid (D6.out.trans (hb7.mono D6.out.size)); clear hb7))
              | (have mark := B5; (go_at_call 12; (with_reducible refine (Read_as HX.out rfl rfl HR.out _).mono ?_); rintro e w6 ⟨rfl, hb6⟩; have B6 := Lib.hid (D5.out.trans (hb6.mono D5.out.size)); have D6 := Lib.hid (B6.out.alloc B6.out.size (.cells #[.int .i64 (rk x), .int .i64 (rn x)] 23)); clear hb6))
              | (have mark := B3; (go_at_call 12; (with_reducible refine (Read_as HW.out HK.out HN.out HQ.out _).mono ?_); rintro e w5 ⟨rfl, hb5⟩; have B5 := Lib.hid (B3.out.trans (hb5.mono B3.out.size)); have D5 := Lib.hid (B5.out.alloc B5.out.size (.cells #[.int .i64 k, .int .i64 n] 23)); have C5 := Lib.hid (Two.below hb5 C3.out); have E5 := Lib.hid (Two.below hb5 E3.out); have hz5 : w.heap.size < w5.heap.size := World.block_lt_of_cell? w5 _ C5.out.1; have hy5 : w.heap.size + 1 < w5.heap.size := World.block_lt_of_cell? w5 _ E5.out.1; obtain ⟨c50, c51, -, -⟩ := C5.out; obtain ⟨e50, e51, -, -⟩ := E5.out; clear hb5))
              | (have mark := B2; (go_at_call 9; (with_reducible refine (Put_as rfl HU.out _).mono ?_); rintro e w3 ⟨rfl, hb3⟩; have B3 := Lib.hid (B2.out.trans (hb3.mono B2.out.size)); have C3 := Lib.hid (Two.below hb3 C2.out); have E3 := Lib.hid (Two.below hb3 E2.out); obtain ⟨c30, c31, -, -⟩ := C3.out; obtain ⟨e30, e31, -, -⟩ := E3.out; clear hb3))
              | (go_at_call 9; (with_reducible refine (Put_as rfl HV.out _).mono ?_); rintro e w2 ⟨rfl, hb2⟩; have B2 := Lib.hid (B1.out.trans (hb2.mono B1.out.size)); have C2 := Lib.hid (Two.below hb2 C1.out); have E2 := Lib.hid (Two.below hb2 E1.out); obtain ⟨c20, c21, -, -⟩ := C2.out; obtain ⟨e20, e21, -, -⟩ := E2.out; clear hb2)
              | (go_at_call 7; (with_reducible refine (alive_any _).mono ?_); rintro e w1 ⟨rfl, hb1⟩; have B1 := Lib.hid (B0.out.trans (hb1.mono B0.out.size)); have C1 := Lib.hid (Two.below hb1 C0.out); have E1 := Lib.hid (Two.below hb1 E0.out); obtain ⟨c10, c11, -, -⟩ := C1.out; obtain ⟨e10, e11, -, -⟩ := E1.out; clear hb1))
            go_ret
            exact ⟨rfl, B7.out⟩
  · obtain ⟨x3, x4⟩ := read_back hr
    have HX3 := Lib.hid x4
    have HX4 := Lib.hid (show vb (rk x) (rn x) = true from decide_eq_true x3)
    clear x3 x4
    have HR := Lib.hid hr
    clear hr
    cases hv : vb k n
    · have HV := Lib.hid hv
      generalize hu : vb l m = u
      have HU := Lib.hid hu
      clear hv hu
      go_enter Try.func5, Try.ntmps5
      go_wp2_with (first
        | (have mark := B6; (go_at_call 9; (with_reducible refine (Put_as HX3.out HX4.out _).mono ?_); rintro e w7 ⟨rfl, hb7⟩; have B7 := Lib.hid (D6.out.trans (hb7.mono D6.out.size)); clear hb7))
        | (have mark := B3; (go_at_call 12; (with_reducible refine (Read_as HX.out rfl rfl HR.out _).mono ?_); rintro e w6 ⟨rfl, hb6⟩; have B6 := Lib.hid (B3.out.trans (hb6.mono B3.out.size)); have D6 := Lib.hid (B6.out.alloc B6.out.size (.cells #[.int .i64 (rk x), .int .i64 (rn x)] 23)); clear hb6))
        | (have mark := B2; (go_at_call 9; (with_reducible refine (Put_as rfl HU.out _).mono ?_); rintro e w3 ⟨rfl, hb3⟩; have B3 := Lib.hid (B2.out.trans (hb3.mono B2.out.size)); have C3 := Lib.hid (Two.below hb3 C2.out); have E3 := Lib.hid (Two.below hb3 E2.out); obtain ⟨c30, c31, -, -⟩ := C3.out; obtain ⟨e30, e31, -, -⟩ := E3.out; clear hb3))
        | (go_at_call 9; (with_reducible refine (Put_as rfl HV.out _).mono ?_); rintro e w2 ⟨rfl, hb2⟩; have B2 := Lib.hid (B1.out.trans (hb2.mono B1.out.size)); have C2 := Lib.hid (Two.below hb2 C1.out); have E2 := Lib.hid (Two.below hb2 E1.out); obtain ⟨c20, c21, -, -⟩ := C2.out; obtain ⟨e20, e21, -, -⟩ := E2.out; clear hb2)
        | (go_at_call 7; (with_reducible refine (alive_any _).mono ?_); rintro e w1 ⟨rfl, hb1⟩; have B1 := Lib.hid (B0.out.trans (hb1.mono B0.out.size)); have C1 := Lib.hid (Two.below hb1 C0.out); have E1 := Lib.hid (Two.below hb1 E0.out); obtain ⟨c10, c11, -, -⟩ := C1.out; obtain ⟨e10, e11, -, -⟩ := E1.out; clear hb1))
      go_ret
      exact ⟨rfl, B7.out⟩
    · have hc : chk k n = 0 := of_decide_eq_true hv
      obtain ⟨q1, q2, q3, q4⟩ := wd_back hc
      have HV := Lib.hid hv
      have HK := Lib.hid q1
      have HN := Lib.hid q2
      have HQ := Lib.hid q3
      have HW := Lib.hid q4
      clear q1 q2 q3 q4
      cases hu : vb l m
      · have HU := Lib.hid hu
        clear hv hu hc
        go_enter Try.func5, Try.ntmps5
        go_wp2_with (first
          | (have mark := B6; (go_at_call 9; (with_reducible refine (Put_as HX3.out HX4.out _).mono ?_); rintro e w7 ⟨rfl, hb7⟩; have B7 := Lib.hid (D6.out.trans (hb7.mono D6.out.size)); clear hb7))
          | (have mark := B5; (go_at_call 12; (with_reducible refine (Read_as HX.out rfl rfl HR.out _).mono ?_); rintro e w6 ⟨rfl, hb6⟩; have B6 := Lib.hid (D5.out.trans (hb6.mono D5.out.size)); have D6 := Lib.hid (B6.out.alloc B6.out.size (.cells #[.int .i64 (rk x), .int .i64 (rn x)] 23)); clear hb6))
          | (have mark := B3; (go_at_call 12; (with_reducible refine (Read_as HW.out HK.out HN.out HQ.out _).mono ?_); rintro e w5 ⟨rfl, hb5⟩; have B5 := Lib.hid (B3.out.trans (hb5.mono B3.out.size)); have D5 := Lib.hid (B5.out.alloc B5.out.size (.cells #[.int .i64 k, .int .i64 n] 23)); have C5 := Lib.hid (Two.below hb5 C3.out); have E5 := Lib.hid (Two.below hb5 E3.out); have hz5 : w.heap.size < w5.heap.size := World.block_lt_of_cell? w5 _ C5.out.1; have hy5 : w.heap.size + 1 < w5.heap.size := World.block_lt_of_cell? w5 _ E5.out.1; obtain ⟨c50, c51, -, -⟩ := C5.out; obtain ⟨e50, e51, -, -⟩ := E5.out; clear hb5))
          | (have mark := B2; (go_at_call 9; (with_reducible refine (Put_as rfl HU.out _).mono ?_); rintro e w3 ⟨rfl, hb3⟩; have B3 := Lib.hid (B2.out.trans (hb3.mono B2.out.size)); have C3 := Lib.hid (Two.below hb3 C2.out); have E3 := Lib.hid (Two.below hb3 E2.out); obtain ⟨c30, c31, -, -⟩ := C3.out; obtain ⟨e30, e31, -, -⟩ := E3.out; clear hb3))
          | (go_at_call 9; (with_reducible refine (Put_as rfl HV.out _).mono ?_); rintro e w2 ⟨rfl, hb2⟩; have B2 := Lib.hid (B1.out.trans (hb2.mono B1.out.size)); have C2 := Lib.hid (Two.below hb2 C1.out); have E2 := Lib.hid (Two.below hb2 E1.out); obtain ⟨c20, c21, -, -⟩ := C2.out; obtain ⟨e20, e21, -, -⟩ := E2.out; clear hb2)
          | (go_at_call 7; (with_reducible refine (alive_any _).mono ?_); rintro e w1 ⟨rfl, hb1⟩; have B1 := Lib.hid (B0.out.trans (hb1.mono B0.out.size)); have C1 := Lib.hid (Two.below hb1 C0.out); have E1 := Lib.hid (Two.below hb1 E0.out); obtain ⟨c10, c11, -, -⟩ := C1.out; obtain ⟨e10, e11, -, -⟩ := E1.out; clear hb1))
        go_ret
        exact ⟨rfl, B7.out⟩
      · have HU := Lib.hid hu
        have hd : chk l m = 0 := of_decide_eq_true hu
        by_cases he : k = l ∧ n = m
        · obtain ⟨rfl, rfl⟩ := he
          clear hv hu hc hd
          go_enter Try.func5, Try.ntmps5
          go_wp2_with (first
            | (have mark := B6; (go_at_call 9; (with_reducible refine (Put_as HX3.out HX4.out _).mono ?_); rintro e w7 ⟨rfl, hb7⟩; have B7 := Lib.hid (D6.out.trans (hb7.mono D6.out.size)); clear hb7))
            | (have mark := B5; (go_at_call 12; (with_reducible refine (Read_as HX.out rfl rfl HR.out _).mono ?_); rintro e w6 ⟨rfl, hb6⟩; have B6 := Lib.hid (D5.out.trans (hb6.mono D5.out.size)); have D6 := Lib.hid (B6.out.alloc B6.out.size (.cells #[.int .i64 (rk x), .int .i64 (rn x)] 23)); clear hb6))
            | (have mark := B3; (go_at_call 12; (with_reducible refine (Read_as HW.out HK.out HN.out HQ.out _).mono ?_); rintro e w5 ⟨rfl, hb5⟩; have B5 := Lib.hid (B3.out.trans (hb5.mono B3.out.size)); have D5 := Lib.hid (B5.out.alloc B5.out.size (.cells #[.int .i64 k, .int .i64 n] 23)); have C5 := Lib.hid (Two.below hb5 C3.out); have E5 := Lib.hid (Two.below hb5 E3.out); have hz5 : w.heap.size < w5.heap.size := World.block_lt_of_cell? w5 _ C5.out.1; have hy5 : w.heap.size + 1 < w5.heap.size := World.block_lt_of_cell? w5 _ E5.out.1; obtain ⟨c50, c51, -, -⟩ := C5.out; obtain ⟨e50, e51, -, -⟩ := E5.out; clear hb5))
            | (have mark := B2; (go_at_call 9; (with_reducible refine (Put_as rfl HU.out _).mono ?_); rintro e w3 ⟨rfl, hb3⟩; have B3 := Lib.hid (B2.out.trans (hb3.mono B2.out.size)); have C3 := Lib.hid (Two.below hb3 C2.out); have E3 := Lib.hid (Two.below hb3 E2.out); obtain ⟨c30, c31, -, -⟩ := C3.out; obtain ⟨e30, e31, -, -⟩ := E3.out; clear hb3))
            | (go_at_call 9; (with_reducible refine (Put_as rfl HV.out _).mono ?_); rintro e w2 ⟨rfl, hb2⟩; have B2 := Lib.hid (B1.out.trans (hb2.mono B1.out.size)); have C2 := Lib.hid (Two.below hb2 C1.out); have E2 := Lib.hid (Two.below hb2 E1.out); obtain ⟨c20, c21, -, -⟩ := C2.out; obtain ⟨e20, e21, -, -⟩ := E2.out; clear hb2)
            | (go_at_call 7; (with_reducible refine (alive_any _).mono ?_); rintro e w1 ⟨rfl, hb1⟩; have B1 := Lib.hid (B0.out.trans (hb1.mono B0.out.size)); have C1 := Lib.hid (Two.below hb1 C0.out); have E1 := Lib.hid (Two.below hb1 E0.out); obtain ⟨c10, c11, -, -⟩ := C1.out; obtain ⟨e10, e11, -, -⟩ := E1.out; clear hb1))
          go_ret
          exact ⟨rfl, B7.out⟩
        · have h0 : (wd k n == wd l m) = false := by simp only [beq_eq_false_iff_ne, ne_eq]; exact fun e => he (wd_inj hc hd e)
          clear hv hu hc hd
          by_cases hk : k = l
          · have hm : (n == m) = false := by simp only [beq_eq_false_iff_ne, ne_eq]; exact fun e => he ⟨hk, e⟩
            subst hk
            clear he
            go_enter Try.func5, Try.ntmps5
            go_wp2_with (first
              | (have mark := B6; (go_at_call 9; (with_reducible refine (Put_as HX3.out HX4.out _).mono ?_); rintro e w7 ⟨rfl, hb7⟩; have B7 := Lib.hid (D6.out.trans (hb7.mono D6.out.size)); clear hb7))
              | (have mark := B5; (go_at_call 12; (with_reducible refine (Read_as HX.out rfl rfl HR.out _).mono ?_); rintro e w6 ⟨rfl, hb6⟩; have B6 := Lib.hid (D5.out.trans (hb6.mono D5.out.size)); have D6 := Lib.hid (B6.out.alloc B6.out.size (.cells #[.int .i64 (rk x), .int .i64 (rn x)] 23)); clear hb6))
              | (have mark := B3; (go_at_call 12; (with_reducible refine (Read_as HW.out HK.out HN.out HQ.out _).mono ?_); rintro e w5 ⟨rfl, hb5⟩; have B5 := Lib.hid (B3.out.trans (hb5.mono B3.out.size)); have D5 := Lib.hid (B5.out.alloc B5.out.size (.cells #[.int .i64 k, .int .i64 n] 23)); have C5 := Lib.hid (Two.below hb5 C3.out); have E5 := Lib.hid (Two.below hb5 E3.out); have hz5 : w.heap.size < w5.heap.size := World.block_lt_of_cell? w5 _ C5.out.1; have hy5 : w.heap.size + 1 < w5.heap.size := World.block_lt_of_cell? w5 _ E5.out.1; obtain ⟨c50, c51, -, -⟩ := C5.out; obtain ⟨e50, e51, -, -⟩ := E5.out; clear hb5))
              | (have mark := B2; (go_at_call 9; (with_reducible refine (Put_as rfl HU.out _).mono ?_); rintro e w3 ⟨rfl, hb3⟩; have B3 := Lib.hid (B2.out.trans (hb3.mono B2.out.size)); have C3 := Lib.hid (Two.below hb3 C2.out); have E3 := Lib.hid (Two.below hb3 E2.out); obtain ⟨c30, c31, -, -⟩ := C3.out; obtain ⟨e30, e31, -, -⟩ := E3.out; clear hb3))
              | (go_at_call 9; (with_reducible refine (Put_as rfl HV.out _).mono ?_); rintro e w2 ⟨rfl, hb2⟩; have B2 := Lib.hid (B1.out.trans (hb2.mono B1.out.size)); have C2 := Lib.hid (Two.below hb2 C1.out); have E2 := Lib.hid (Two.below hb2 E1.out); obtain ⟨c20, c21, -, -⟩ := C2.out; obtain ⟨e20, e21, -, -⟩ := E2.out; clear hb2)
              | (go_at_call 7; (with_reducible refine (alive_any _).mono ?_); rintro e w1 ⟨rfl, hb1⟩; have B1 := Lib.hid (B0.out.trans (hb1.mono B0.out.size)); have C1 := Lib.hid (Two.below hb1 C0.out); have E1 := Lib.hid (Two.below hb1 E0.out); obtain ⟨c10, c11, -, -⟩ := C1.out; obtain ⟨e10, e11, -, -⟩ := E1.out; clear hb1))
            go_ret
            exact ⟨rfl, B7.out⟩
          · have hm : (k == l) = false := by simp only [beq_eq_false_iff_ne, ne_eq]; exact hk
            clear he hk
            go_enter Try.func5, Try.ntmps5
            go_wp2_with (first
              | (have mark := B6; (go_at_call 9; (with_reducible refine (Put_as HX3.out HX4.out _).mono ?_); rintro e w7 ⟨rfl, hb7⟩; have B7 := Lib.hid (D6.out.trans (hb7.mono D6.out.size)); clear hb7))
              | (have mark := B5; (go_at_call 12; (with_reducible refine (Read_as HX.out rfl rfl HR.out _).mono ?_); rintro e w6 ⟨rfl, hb6⟩; have B6 := Lib.hid (D5.out.trans (hb6.mono D5.out.size)); have D6 := Lib.hid (B6.out.alloc B6.out.size (.cells #[.int .i64 (rk x), .int .i64 (rn x)] 23)); clear hb6))
              | (have mark := B3; (go_at_call 12; (with_reducible refine (Read_as HW.out HK.out HN.out HQ.out _).mono ?_); rintro e w5 ⟨rfl, hb5⟩; have B5 := Lib.hid (B3.out.trans (hb5.mono B3.out.size)); have D5 := Lib.hid (B5.out.alloc B5.out.size (.cells #[.int .i64 k, .int .i64 n] 23)); have C5 := Lib.hid (Two.below hb5 C3.out); have E5 := Lib.hid (Two.below hb5 E3.out); have hz5 : w.heap.size < w5.heap.size := World.block_lt_of_cell? w5 _ C5.out.1; have hy5 : w.heap.size + 1 < w5.heap.size := World.block_lt_of_cell? w5 _ E5.out.1; obtain ⟨c50, c51, -, -⟩ := C5.out; obtain ⟨e50, e51, -, -⟩ := E5.out; clear hb5))
              | (have mark := B2; (go_at_call 9; (with_reducible refine (Put_as rfl HU.out _).mono ?_); rintro e w3 ⟨rfl, hb3⟩; have B3 := Lib.hid (B2.out.trans (hb3.mono B2.out.size)); have C3 := Lib.hid (Two.below hb3 C2.out); have E3 := Lib.hid (Two.below hb3 E2.out); obtain ⟨c30, c31, -, -⟩ := C3.out; obtain ⟨e30, e31, -, -⟩ := E3.out; clear hb3))
              | (go_at_call 9; (with_reducible refine (Put_as rfl HV.out _).mono ?_); rintro e w2 ⟨rfl, hb2⟩; have B2 := Lib.hid (B1.out.trans (hb2.mono B1.out.size)); have C2 := Lib.hid (Two.below hb2 C1.out); have E2 := Lib.hid (Two.below hb2 E1.out); obtain ⟨c20, c21, -, -⟩ := C2.out; obtain ⟨e20, e21, -, -⟩ := E2.out; clear hb2)
              | (go_at_call 7; (with_reducible refine (alive_any _).mono ?_); rintro e w1 ⟨rfl, hb1⟩; have B1 := Lib.hid (B0.out.trans (hb1.mono B0.out.size)); have C1 := Lib.hid (Two.below hb1 C0.out); have E1 := Lib.hid (Two.below hb1 E0.out); obtain ⟨c10, c11, -, -⟩ := C1.out; obtain ⟨e10, e11, -, -⟩ := E1.out; clear hb1))
            go_ret
            exact ⟨rfl, B7.out⟩
end
end Go.Proofs.Ytblaijmnapehiaa.wd
