/- What layer 3's functions do when they are called. -/
import Derived.Test.YtblaijmnapehiaaWdA
namespace Go.Proofs.Ytblaijmnapehiaa.wd
open Go.ChangeShapes Go.WideShapes Go.ChangeAt Go.RowKit
set_option linter.unusedVariables false

/-- The kind, the number, and whether there is one, of what is made of kind k and the number n: nothing, if it may not be. -/
def vk (k n : Int) : Int := if chk k n = 0 then k else 0
def vn (k n : Int) : Int := if chk k n = 0 then n else 0
def vb (k n : Int) : Bool := decide (chk k n = 0)
/-- A value and a bool. -/
abbrev ans (k n : Int) (b : Bool) : Ending := .returned (.tuple #[.agg #[.int .i64 k, .int .i64 n], .bool b])

theorem known_any (k n : Int) (w : World) : Calls Try.prog 18 #[.agg #[.int .i64 k, .int .i64 n]] w fun e w' => e = ans (vk k n) (vn k n) (vb k n) ∧ Below w.heap.size w w' := by
  have B0 := Lib.hid (((Below.refl w.heap.size w).alloc (Nat.le_refl _) (.cells #[.int .i64 k, .int .i64 n] 23)).alloc (by simp) (.cells #[.int .i64 0, .int .i64 0] 23))
  have C0 := Lib.hid (Two.below ((Below.refl _ _).alloc (Nat.le_refl _) (.cells #[.int .i64 0, .int .i64 0] 23)) (Two.new w 23 k n rfl))
  have D0 := Lib.hid (Two.new (w.alloc (.cells #[.int .i64 k, .int .i64 n] 23)) 23 0 0 (B := w.heap.size + 1) (by simp))
  go_enter Try.func18, Try.ntmps18
  go_wp2_with (go_at_call 10; (with_reducible refine (Check_any _ _ _).mono ?_); rintro e w1 ⟨rfl, hb1⟩; have B1 := Lib.hid (B0.out.trans (hb1.mono B0.out.size)); have C1 := Two.below hb1 C0.out; have D1 := Two.below hb1 D0.out; obtain ⟨c0, c1, c2, c3⟩ := C1; obtain ⟨d0, d1, d2, d3⟩ := D1; clear hb1)
  all_goals
    refine bodyPost_ret (v := .tuple #[.agg #[.int .i64 (vk k n), .int .i64 (vn k n)], .bool (vb k n)]) ?_ rfl ⟨rfl, (B1.out.setCell (by simp) _).setCell (by simp) _⟩
    simp only [bne_iff_ne, bne_eq_false_iff_eq] at *
    simp [results, Try.results18, go_sem, vk, vn, vb, *]
theorem Number_any (n : Int) (w : World) : Calls Try.prog 15 #[.int .i64 n] w fun e w' => e = .returned (.agg #[.int .i64 (vk 1 n), .int .i64 (vn 1 n)]) ∧ Below w.heap.size w w' := by
  have B0 := Lib.hid (((Below.refl w.heap.size w).alloc (Nat.le_refl _) (.cells #[.int .i64 0, .int .i64 0] 23)))
  have C0 := Lib.hid (Two.new w 23 0 0 rfl)
  go_enter Try.func15, Try.ntmps15
  go_wp2_with (go_at_call 18; (with_reducible refine (known_any _ _ _).mono ?_); rintro e w1 ⟨rfl, hb1⟩; have B1 := Lib.hid (B0.out.trans (hb1.mono B0.out.size)); have C1 := Two.below hb1 C0.out; have hz : w.heap.size < w1.heap.size := (World.block_lt_of_cell? w1 _ C1.1); obtain ⟨c0, c1, c2, c3⟩ := C1; clear hb1)
  all_goals
    refine bodyPost_ret (v := .agg #[.int .i64 (vk 1 n), .int .i64 (vn 1 n)]) ?_ rfl ⟨rfl, ((B1.out.setCell (by simp) _).setCell (by simp) _).alloc (by simpa using Nat.le_of_lt hz) _⟩
    simp [results, Try.results15, go_sem, *]
theorem Reference_any (n : Int) (w : World) : Calls Try.prog 16 #[.int .i64 n] w fun e w' => e = .returned (.agg #[.int .i64 (vk 2 n), .int .i64 (vn 2 n)]) ∧ Below w.heap.size w w' := by
  have B0 := Lib.hid (((Below.refl w.heap.size w).alloc (Nat.le_refl _) (.cells #[.int .i64 0, .int .i64 0] 23)))
  have C0 := Lib.hid (Two.new w 23 0 0 rfl)
  go_enter Try.func16, Try.ntmps16
  go_wp2_with (go_at_call 18; (with_reducible refine (known_any _ _ _).mono ?_); rintro e w1 ⟨rfl, hb1⟩; have B1 := Lib.hid (B0.out.trans (hb1.mono B0.out.size)); have C1 := Two.below hb1 C0.out; have hz : w.heap.size < w1.heap.size := (World.block_lt_of_cell? w1 _ C1.1); obtain ⟨c0, c1, c2, c3⟩ := C1; clear hb1)
  all_goals
    refine bodyPost_ret (v := .agg #[.int .i64 (vk 2 n), .int .i64 (vn 2 n)]) ?_ rfl ⟨rfl, ((B1.out.setCell (by simp) _).setCell (by simp) _).alloc (by simpa using Nat.le_of_lt hz) _⟩
    simp [results, Try.results16, go_sem, *]
theorem and_one (x : Int) : bits .and .i64 x 1 = x % 2 := by
  have h : ((BitVec.ofInt 64 x &&& BitVec.ofInt 64 1).toNat : Int) = x % 2 := by
    rw [BitVec.toNat_and, BitVec.toNat_ofInt, BitVec.toNat_ofInt, show ((1 : Int) % (2 ^ 64 : Nat)).toNat = 1 by decide, Nat.and_one_is_mod]
    omega
  show IntKind.i64.wrap _ = _
  rw [show IntKind.bits .i64 = 64 from rfl, h]
  exact IntWalk.i64_in _ (by omega)
/-- What a number reads as: kind, number, and whether it is a word. -/
def rk (x : Int) : Int := if x = 0 then 0 else if x % 2 = 0 then vk 2 (x / 2 - 1) else vk 1 (x / 2)
def rn (x : Int) : Int := if x = 0 then 0 else if x % 2 = 0 then vn 2 (x / 2 - 1) else vn 1 (x / 2)
def rb (x : Int) : Bool := if x = 0 then true else if x % 2 = 0 then vb 2 (x / 2 - 1) else vb 1 (x / 2)
theorem Read_any (x : Int) (hx : (Lit.int .i64 x).wf = true) (w : World) : Calls Try.prog 12 #[.int .i64 x] w fun e w' => e = ans (rk x) (rn x) (rb x) ∧ Below w.heap.size w w' := by
  have hx2 := bounds_i64 hx
  have W := IntWalk.i64_in (x / 2 - 1) (by omega)
  have A := and_one x
  clear hx hx2
  have C0 := Lib.hid (Two.new w 23 0 0 rfl)
  have B0 := Lib.hid ((Below.refl w.heap.size w).alloc (Nat.le_refl _) (.cells #[.int .i64 0, .int .i64 0] 23))
  go_enter Try.func12, Try.ntmps12
  go_wp2_with (go_at_call 18; (with_reducible refine (known_any _ _ _).mono ?_); rintro e w1 ⟨rfl, hb1⟩; have B1 := Lib.hid ((B0.out.alloc (by simp) _).trans (hb1.mono (by simp; omega))); have C1 := Two.below hb1 (Two.below ((Below.refl _ _).alloc (Nat.le_refl _) _) C0.out); have hz : w.heap.size < w1.heap.size := (World.block_lt_of_cell? w1 _ C1.1); obtain ⟨c0, c1, c2, c3⟩ := C1; clear hb1)
  all_goals
    refine bodyPost_ret (v := .tuple #[.agg #[.int .i64 (rk x), .int .i64 (rn x)], .bool (rb x)]) ?_ rfl ⟨rfl, by first | exact B0.out | exact (B1.out.setCell (Nat.le_refl _) _).setCell (Nat.le_refl _) _⟩
    simp only [beq_iff_eq, beq_eq_false_iff_ne] at *
    simp [results, Try.results12, go_sem, rk, rn, rb, *]
theorem tmod_two (x : Int) : (x.tmod 2 == 0) = (x % 2 == 0) := by
  have : x.tmod 2 = 0 ↔ x % 2 = 0 := ⟨fun h => Int.emod_eq_zero_of_dvd (Int.dvd_of_tmod_eq_zero h), fun h => Int.tmod_eq_zero_of_dvd (Int.dvd_of_emod_eq_zero h)⟩
  rw [Bool.eq_iff_iff]; simp [this]
theorem tdiv_odd (x : Int) (h : x % 2 ≠ 0) : (x - 1).tdiv 2 = x / 2 := by
  rw [Int.tdiv_eq_ediv_of_dvd (Int.dvd_of_emod_eq_zero (by omega))]
  omega
theorem read_no {x : Int} (h0 : x ≠ 0) (h : (x % 2 = 0 ∧ (x < 2 ∨ 4096 < x)) ∨ (x % 2 ≠ 0 ∧ (x < -2199023255551 ∨ 2199023255551 < x))) : rk x = 0 ∧ rn x = 0 ∧ rb x = false := by
  rcases h with ⟨h, k⟩ | ⟨h, k⟩
  · have : chk 2 (x / 2 - 1) ≠ 0 := by unfold chk; repeat' split
                                       all_goals omega
    simp [rk, rn, rb, vk, vn, vb, *]
  · have : chk 1 (x / 2) ≠ 0 := by unfold chk; repeat' split
                                   all_goals omega
    simp [rk, rn, rb, vk, vn, vb, *]
theorem read_ref {x : Int} (h : x % 2 = 0) (h1 : 2 ≤ x) (h2 : x ≤ 4096) : rk x = 2 ∧ rn x = x / 2 - 1 ∧ rb x = true := by
  have : chk 2 (x / 2 - 1) = 0 := by unfold chk; repeat' split
                                     all_goals omega
  simp [rk, rn, rb, vk, vn, vb, *]; omega
theorem read_num {x : Int} (h : x % 2 ≠ 0) (h1 : -2199023255551 ≤ x) (h2 : x ≤ 2199023255551) : rk x = 1 ∧ rn x = x / 2 ∧ rb x = true := by
  have : chk 1 (x / 2) = 0 := by unfold chk; repeat' split
                                 all_goals omega
  have : x ≠ 0 := by omega
  simp [rk, rn, rb, vk, vn, vb, *]
theorem rRead_any (x : Int) (hx : (Lit.int .i64 x).wf = true) (w : World) : Calls Try.prog 13 #[.int .i64 x] w fun e w' => e = ans (rk x) (rn x) (rb x) ∧ Below w.heap.size w w' := by
  have hx2 := bounds_i64 hx
  have B0 := Lib.hid ((Below.refl w.heap.size w).alloc (Nat.le_refl _) (.cells #[.int .i64 0, .int .i64 0] 23))
  by_cases h0 : x = 0
  · subst h0
    go_enter Try.func13, Try.ntmps13
    go_wp2
    exact bodyPost_ret (v := .tuple #[.agg #[.int .i64 0, .int .i64 0], .bool true]) (by simp [results, Try.results13, go_sem]) rfl ⟨rfl, B0.out⟩
  by_cases h : x % 2 = 0
  · have A : (x.tmod 2 == 0) = true := by rw [tmod_two]; simp [h]
    by_cases h1 : x < 2
    · obtain ⟨e1, e2, e3⟩ := read_no h0 (Or.inl ⟨h, Or.inl h1⟩)
      rw [e1, e2, e3]
      go_enter Try.func13, Try.ntmps13
      go_wp2
      exact bodyPost_ret (v := .tuple #[.agg #[.int .i64 0, .int .i64 0], .bool false]) (by simp [results, Try.results13, go_sem]) rfl ⟨rfl, B0.out⟩
    by_cases h2 : 4096 < x
    · obtain ⟨e1, e2, e3⟩ := read_no h0 (Or.inl ⟨h, Or.inr h2⟩)
      rw [e1, e2, e3]
      go_enter Try.func13, Try.ntmps13
      go_wp2
      exact bodyPost_ret (v := .tuple #[.agg #[.int .i64 0, .int .i64 0], .bool false]) (by simp [results, Try.results13, go_sem]) rfl ⟨rfl, B0.out⟩
    · obtain ⟨e1, e2, e3⟩ := read_ref h (by omega) (by omega)
      rw [e1, e2, e3]
      have e : (x - 2) / 2 = x / 2 - 1 := by omega
      clear hx hx2 B0
      go_enter Try.func13, Try.ntmps13
      go_wp2
      exact bodyPost_ret (v := .tuple #[.agg #[.int .i64 2, .int .i64 (x / 2 - 1)], .bool true]) (by simp [results, Try.results13, go_sem]) rfl ⟨rfl, (Below.refl w.heap.size w).alloc (Nat.le_refl _) _⟩
  · have A : (x.tmod 2 == 0) = false := by rw [tmod_two]; simp [h]
    by_cases h1 : x < -2199023255551
    · obtain ⟨e1, e2, e3⟩ := read_no h0 (Or.inr ⟨h, Or.inl h1⟩)
      rw [e1, e2, e3]
      go_enter Try.func13, Try.ntmps13
      go_wp2
      exact bodyPost_ret (v := .tuple #[.agg #[.int .i64 0, .int .i64 0], .bool false]) (by simp [results, Try.results13, go_sem]) rfl ⟨rfl, B0.out⟩
    by_cases h2 : 2199023255551 < x
    · obtain ⟨e1, e2, e3⟩ := read_no h0 (Or.inr ⟨h, Or.inr h2⟩)
      rw [e1, e2, e3]
      go_enter Try.func13, Try.ntmps13
      go_wp2
      exact bodyPost_ret (v := .tuple #[.agg #[.int .i64 0, .int .i64 0], .bool false]) (by simp [results, Try.results13, go_sem]) rfl ⟨rfl, B0.out⟩
    · obtain ⟨e1, e2, e3⟩ := read_num h (by omega) (by omega)
      rw [e1, e2, e3]
      have D := tdiv_odd x h
      go_enter Try.func13, Try.ntmps13
      go_wp2
      exact bodyPost_ret (v := .tuple #[.agg #[.int .i64 1, .int .i64 (x / 2)], .bool true]) (by simp [results, Try.results13, go_sem]) rfl ⟨rfl, (Below.refl w.heap.size w).alloc (Nat.le_refl _) _⟩
/-- The word of what may be. -/
def wd (k n : Int) : Int := if chk k n = 0 then (if k = 0 then 0 else 2 * n + k) else 0
theorem chk_zero {k n : Int} : chk k n = 0 ↔ (k = 0 ∧ n = 0) ∨ (k = 1 ∧ -1099511627776 ≤ n ∧ n < 1099511627776) ∨ (k = 2 ∧ 0 ≤ n ∧ n < 2048) := by
  unfold chk; repeat' split
  all_goals omega
theorem ret_pair {a b : Int} {x y : Bool} (h : a = b) (h2 : x = y) : Ending.returned (.tuple #[.int .i64 a, .bool x]) = .returned (.tuple #[.int .i64 b, .bool y]) := by rw [h, h2]
theorem Put_any (k n : Int) (w : World) : Calls Try.prog 9 #[.agg #[.int .i64 k, .int .i64 n]] w fun e w' => e = .returned (.tuple #[.int .i64 (wd k n), .bool (vb k n)]) ∧ Below w.heap.size w w' := by
  have C0 := Lib.hid (Two.new w 23 k n rfl)
  have B0 := Lib.hid ((Below.refl w.heap.size w).alloc (Nat.le_refl _) (.cells #[.int .i64 k, .int .i64 n] 23))
  go_enter Try.func9, Try.ntmps9
  go_wp2_with (go_at_call 10; (with_reducible refine (Check_any _ _ _).mono ?_); rintro e w1 ⟨rfl, hb1⟩; have B1 := Lib.hid (B0.out.trans (hb1.mono B0.out.size)); have C1 := Two.below hb1 C0.out; obtain ⟨c0, c1, c2, c3⟩ := C1; clear hb1)
  all_goals
    go_ret2
    try simp only [bne_iff_ne, bne_eq_false_iff_eq, beq_iff_eq, beq_eq_false_iff_ne] at *
    refine ⟨ret_pair ?_ (by unfold vb; symm; first | exact decide_eq_true (by assumption) | exact decide_eq_false (by assumption)), B1.out⟩
    simp only [wd, chk_zero, ne_eq] at *
    try unfold wrap64
    repeat' split
    all_goals omega
theorem rPut_any (k n : Int) (h : chk k n = 0) (w : World) : Calls Try.prog 11 #[.agg #[.int .i64 k, .int .i64 n]] w fun e w' => e = .returned (.int .i64 (wd k n)) ∧ Below w.heap.size w w' := by
  have B0 := Lib.hid ((Below.refl w.heap.size w).alloc (Nat.le_refl _) (.cells #[.int .i64 k, .int .i64 n] 23))
  have H := Lib.hid h
  clear h
  go_enter Try.func11, Try.ntmps11
  go_wp2
  all_goals
    go_ret
    try simp only [beq_iff_eq, beq_eq_false_iff_ne] at *
    refine ⟨ret_int ?_, B0.out⟩
    have h := H.out
    simp only [wd, chk_zero, ne_eq] at *
    try unfold wrap64
    repeat' split
    all_goals omega
/-- Where a number leads. -/
def ra (x : Int) : Int := if rb x = true ∧ rk x = 2 then rn x else 0
def rr (x : Int) : Bool := decide (rb x = true ∧ rk x = 2)
theorem Address_any (x : Int) (hx : (Lit.int .i64 x).wf = true) (w : World) : Calls Try.prog 14 #[.int .i64 x] w fun e w' => e = .returned (.tuple #[.int .i64 (ra x), .bool (rr x)]) ∧ Below w.heap.size w w' := by
  have B0 := Lib.hid (Below.refl w.heap.size w)
  have HX := Lib.hid hx
  clear hx
  go_enter Try.func14, Try.ntmps14
  go_wp2_with (go_at_call 12; (with_reducible refine (Read_any _ HX.out _).mono ?_); rintro e w1 ⟨rfl, hb1⟩; have B1 := Lib.hid hb1; clear hb1)
  all_goals
    go_ret2
    try simp only [bne_iff_ne, bne_eq_false_iff_eq] at *
    refine ⟨ret_pair ?_ (by simp [rr, *]), B1.out.alloc B1.out.size _⟩
    simp [ra, *]
end Go.Proofs.Ytblaijmnapehiaa.wd
