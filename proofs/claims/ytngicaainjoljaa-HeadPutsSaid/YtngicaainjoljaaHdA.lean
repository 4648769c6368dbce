/- An object's first word: made, split, put, read; where a field lies. -/
import Derived.Test.YtngicaainjoljaaMmD
import Derived.OwnWalk
namespace Go.Proofs.Ytngicaainjoljaa.hd
open Go.ChangeShapes Go.WideShapes Go.ChangeAt Go.RowKit gen mm
set_option linter.unusedVariables false

/-- A serial and a number of fields that may be. -/
def May (s n : Int) : Prop := 0 ≤ s ∧ s < 1099511627776 ∧ 0 ≤ n ∧ n < 128
theorem Make_yes (s n : Int) (w : World) (h : May s n) :
    Calls Try.prog 7 #[.int .i64 s, .int .i64 n] w fun e w' => e = .returned (.tuple #[.int .i64 (s * 128 + n), .bool true]) ∧ w = w' := by
  obtain ⟨h1, h2, h3, h4⟩ := h
  have h5 : n ≤ 127 := by omega
  go_enter Try.func7, Try.ntmps7
  go_wp2
  go_ret2
  exact ⟨rfl, rfl⟩
theorem Make_no (s n : Int) (w : World) (h : ¬ May s n) :
    Calls Try.prog 7 #[.int .i64 s, .int .i64 n] w fun e w' => e = .returned (.tuple #[.int .i64 0, .bool false]) ∧ w = w' := by
  unfold May at h
  by_cases h1 : s < 0
  · clear h
    go_enter Try.func7, Try.ntmps7
    go_wp2
    go_ret2
    exact ⟨rfl, rfl⟩
  by_cases h2 : 1099511627776 ≤ s
  · clear h
    go_enter Try.func7, Try.ntmps7
    go_wp2
    go_ret2
    exact ⟨rfl, rfl⟩
  by_cases h3 : n < 0
  · clear h
    go_enter Try.func7, Try.ntmps7
    go_wp2
    go_ret2
    exact ⟨rfl, rfl⟩
  have h4 : 127 < n := by omega
  clear h
  go_enter Try.func7, Try.ntmps7
  go_wp2
  go_ret2
  exact ⟨rfl, rfl⟩

/-- A word that is some object's first one. -/
def Isw (x : Int) : Prop := 0 ≤ x ∧ x < 140737488355328
theorem isw_may {x : Int} (h : Isw x) : May (x / 128) (x % 128) := by
  obtain ⟨h1, h2⟩ := h
  refine ⟨?_, ?_, ?_, ?_⟩ <;> omega
theorem isw_not {x : Int} (h : ¬ Isw x) : ¬ May (x.tdiv 128) (x.tmod 128) := by
  rintro ⟨h1, h2, h3, h4⟩
  apply h
  have e := Int.mul_tdiv_add_tmod x 128
  constructor <;> omega
theorem Split_yes (x : Int) (w : World) (h : Isw x) :
    Calls Try.prog 8 #[.int .i64 x] w fun e w' => e = .returned (.tuple #[.int .i64 (x / 128), .int .i64 (x % 128), .bool true]) ∧ w = w' := by
  have H := Lib.hid (isw_may h)
  obtain ⟨h1, h2⟩ := h
  go_enter Try.func8, Try.ntmps8
  go_wp2_with (go_at_call 7; (with_reducible refine (Make_yes _ _ _ H.out).mono ?_); rintro e w' ⟨rfl, rfl⟩)
  go_ret3
  exact ⟨rfl, rfl⟩
theorem Split_no (x : Int) (w : World) (h : ¬ Isw x) (hx : -9223372036854775808 ≤ x ∧ x ≤ 9223372036854775807) :
    Calls Try.prog 8 #[.int .i64 x] w fun e w' => e = .returned (.tuple #[.int .i64 0, .int .i64 0, .bool false]) ∧ w = w' := by
  have H := Lib.hid (isw_not h)
  clear h
  obtain ⟨h1, h2⟩ := hx
  go_enter Try.func8, Try.ntmps8
  go_wp2_with (go_at_call 7; (with_reducible refine (Make_no _ _ _ H.out).mono ?_); rintro e w' ⟨rfl, rfl⟩)
  go_ret3
  exact ⟨rfl, rfl⟩

/-! ### In memory -/
theorem whole_yes {g r : Nat} {xs : List Int} {w : World} (h : MemAt w g r xs) (a n : Int) (ha : 0 ≤ a) (hn : 0 ≤ n ∧ n < 128) (hyes : a + n < xs.length) :
    Calls Try.prog 19 #[.pointer (some ⟨g, 0, none⟩), .int .i64 a, .int .i64 n] w fun e w' => e = .returned (.bool true) ∧ w = w' := by
  have H := Lib.hid (Len_yes h)
  have hl := h.2.2
  generalize xs.length = m at H hl hyes
  clear h
  obtain ⟨hn1, hn2⟩ := hn
  have h1 : a < (m : Int) - n := by omega
  go_enter Try.func19, Try.ntmps19
  go_wp2_with (go_at_call 21; (with_reducible refine H.out.mono ?_); rintro e w' ⟨rfl, rfl⟩)
  go_ret
  exact ⟨rfl, rfl⟩
theorem whole_no {g r : Nat} {xs : List Int} {w : World} (h : MemAt w g r xs) (a n : Int) (hn : 0 ≤ n ∧ n < 128) (hno : ¬ (0 ≤ a ∧ a + n < xs.length)) :
    Calls Try.prog 19 #[.pointer (some ⟨g, 0, none⟩), .int .i64 a, .int .i64 n] w fun e w' => e = .returned (.bool false) ∧ w = w' := by
  have H := Lib.hid (Len_yes h)
  have hl := h.2.2
  generalize xs.length = m at H hl hno
  clear h
  obtain ⟨hn1, hn2⟩ := hn
  by_cases h0 : 0 ≤ a
  · have h1 : decide (a < (m : Int) - n) = false := decide_eq_false (by omega)
    clear hno
    go_enter Try.func19, Try.ntmps19
    go_wp2_with (go_at_call 21; (with_reducible refine H.out.mono ?_); rintro e w' ⟨rfl, rfl⟩)
    go_ret
    exact ⟨rfl, rfl⟩
  · clear hno
    go_enter Try.func19, Try.ntmps19
    go_wp2
    go_ret
    exact ⟨rfl, rfl⟩
theorem whole_nobody {p : Option Addr} {w : World} (h : Nobody w p) (a n : Int) (hn : 0 ≤ n ∧ n < 128) :
    Calls Try.prog 19 #[.pointer p, .int .i64 a, .int .i64 n] w fun e w' => e = .returned (.bool false) ∧ w = w' := by
  have H := Lib.hid (Len_nobody h)
  clear h
  obtain ⟨hn1, hn2⟩ := hn
  by_cases h0 : 0 ≤ a
  · have h1 : decide (a < -n) = false := decide_eq_false (by omega)
    go_enter Try.func19, Try.ntmps19
    go_wp2_with (go_at_call 21; (with_reducible refine H.out.mono ?_); rintro e w' ⟨rfl, rfl⟩)
    go_ret
    exact ⟨rfl, rfl⟩
  · go_enter Try.func19, Try.ntmps19
    go_wp2
    go_ret
    exact ⟨rfl, rfl⟩

theorem Put_yes {g r : Nat} {xs : List Int} {w : World} (h : MemAt w g r xs) (a : Nat) (s n : Int) (hm : May s n) (hyes : (a : Int) + n < xs.length) :
    Calls Try.prog 12 #[.pointer (some ⟨g, 0, none⟩), .int .i64 a, .int .i64 s, .int .i64 n] w fun e w' => e = .returned (.bool true) ∧ MemAt w' g r (xs.set a (s * 128 + n)) ∧ w.grownBy w' (some r) := by
  have h0 := hm.2.2.1
  have H1 := Lib.hid (Store_yes h a (s * 128 + n) (by omega))
  have H2 := Lib.hid (whole_yes h a n (by omega) hm.2.2 hyes)
  have HM := Lib.hid hm
  clear h hm hyes h0
  go_enter Try.func12, Try.ntmps12
  go_wp2_with (first
    | (go_at_call 7; (with_reducible refine (Make_yes _ _ _ HM.out).mono ?_); rintro e w' ⟨rfl, rfl⟩)
    | (go_at_call 19; (with_reducible refine H2.out.mono ?_); rintro e w' ⟨rfl, rfl⟩)
    | (go_at_call 16; (with_reducible refine H1.out.mono ?_); rintro e w' ⟨rfl, k1, k2⟩; have K1 := Lib.hid k1; have K2 := Lib.hid k2; clear k1 k2))
  go_ret
  exact ⟨rfl, K1.out, K2.out⟩
theorem Put_may (p : Value) (a s n : Int) (w : World) (hm : ¬ May s n) :
    Calls Try.prog 12 #[p, .int .i64 a, .int .i64 s, .int .i64 n] w fun e w' => e = .returned (.bool false) ∧ w = w' := by
  have HM := Lib.hid hm
  clear hm
  go_enter Try.func12, Try.ntmps12
  go_wp2_with (go_at_call 7; (with_reducible refine (Make_no _ _ _ HM.out).mono ?_); rintro e w' ⟨rfl, rfl⟩)
  go_ret
  exact ⟨rfl, rfl⟩
theorem Put_not (p : Value) (a s n : Int) (w : World) (hm : May s n) (hw : Calls Try.prog 19 #[p, .int .i64 a, .int .i64 n] w fun e w' => e = .returned (.bool false) ∧ w = w') :
    Calls Try.prog 12 #[p, .int .i64 a, .int .i64 s, .int .i64 n] w fun e w' => e = .returned (.bool false) ∧ w = w' := by
  have HM := Lib.hid hm
  have HW := Lib.hid hw
  clear hm hw
  go_enter Try.func12, Try.ntmps12
  go_wp2_with (first
    | (go_at_call 7; (with_reducible refine (Make_yes _ _ _ HM.out).mono ?_); rintro e w' ⟨rfl, rfl⟩)
    | (go_at_call 19; (with_reducible refine HW.out.mono ?_); rintro e w' ⟨rfl, rfl⟩))
  go_ret
  exact ⟨rfl, rfl⟩
theorem Put_no {g r : Nat} {xs : List Int} {w : World} (h : MemAt w g r xs) (a s n : Int) (hno : ¬ (May s n ∧ 0 ≤ a ∧ a + n < xs.length)) :
    Calls Try.prog 12 #[.pointer (some ⟨g, 0, none⟩), .int .i64 a, .int .i64 s, .int .i64 n] w fun e w' => e = .returned (.bool false) ∧ w = w' := by
  by_cases hm : May s n
  · exact Put_not _ a s n w hm (whole_no h a n hm.2.2 (fun hh => hno ⟨hm, hh⟩))
  · exact Put_may _ a s n w hm

abbrev none3 : Ending := .returned (.tuple #[.int .i64 0, .int .i64 0, .bool false])
abbrev got3 (x : Int) : Ending := .returned (.tuple #[.int .i64 (x / 128), .int .i64 (x % 128), .bool true])
theorem Read_walk_yes (p : Value) (a x : Int) (w : World) (hx : Isw x) (l : Calls Try.prog 20 #[p, .int .i64 a] w fun e w' => e = .returned (.tuple #[.int .i64 x, .bool true]) ∧ w = w')
    (hw : Calls Try.prog 19 #[p, .int .i64 a, .int .i64 (x % 128)] w fun e w' => e = .returned (.bool true) ∧ w = w') :
    Calls Try.prog 13 #[p, .int .i64 a] w fun e w' => e = got3 x ∧ w = w' := by
  have L := Lib.hid l
  have H := Lib.hid hx
  have HW := Lib.hid hw
  clear l hx hw
  go_enter Try.func13, Try.ntmps13
  go_wp2_with (first
    | (go_at_call 20; (with_reducible refine L.out.mono ?_); rintro e w' ⟨rfl, rfl⟩)
    | (go_at_call 8; (with_reducible refine (Split_yes _ _ H.out).mono ?_); rintro e w' ⟨rfl, rfl⟩)
    | (go_at_call 19; (with_reducible refine HW.out.mono ?_); rintro e w' ⟨rfl, rfl⟩))
  go_ret3
  exact ⟨rfl, rfl⟩
theorem Read_walk_no (p : Value) (a x : Int) (b : Bool) (w : World) (hx : ¬ Isw x) (hb : -9223372036854775808 ≤ x ∧ x ≤ 9223372036854775807) (l : Calls Try.prog 20 #[p, .int .i64 a] w fun e w' => e = .returned (.tuple #[.int .i64 x, .bool b]) ∧ w = w') :
    Calls Try.prog 13 #[p, .int .i64 a] w fun e w' => e = none3 ∧ w = w' := by
  have L := Lib.hid l
  have H := Lib.hid hx
  have HB := Lib.hid hb
  clear l hx hb
  go_enter Try.func13, Try.ntmps13
  go_wp2_with (first
    | (go_at_call 20; (with_reducible refine L.out.mono ?_); rintro e w' ⟨rfl, rfl⟩)
    | (go_at_call 8; (with_reducible refine (Split_no _ _ H.out HB.out).mono ?_); rintro e w' ⟨rfl, rfl⟩))
  go_ret3
  exact ⟨rfl, rfl⟩
theorem Read_walk_cut (p : Value) (a x : Int) (b : Bool) (w : World) (hx : Isw x) (l : Calls Try.prog 20 #[p, .int .i64 a] w fun e w' => e = .returned (.tuple #[.int .i64 x, .bool b]) ∧ w = w')
    (hw : Calls Try.prog 19 #[p, .int .i64 a, .int .i64 (x % 128)] w fun e w' => e = .returned (.bool false) ∧ w = w') :
    Calls Try.prog 13 #[p, .int .i64 a] w fun e w' => e = none3 ∧ w = w' := by
  have L := Lib.hid l
  have H := Lib.hid hx
  have HW := Lib.hid hw
  clear l hx hw
  go_enter Try.func13, Try.ntmps13
  go_wp2_with (first
    | (go_at_call 20; (with_reducible refine L.out.mono ?_); rintro e w' ⟨rfl, rfl⟩)
    | (go_at_call 8; (with_reducible refine (Split_yes _ _ H.out).mono ?_); rintro e w' ⟨rfl, rfl⟩)
    | (go_at_call 19; (with_reducible refine HW.out.mono ?_); rintro e w' ⟨rfl, rfl⟩))
  go_ret3
  exact ⟨rfl, rfl⟩
/-- An object stands whole at a. -/
def Obj (xs : List Int) (a : Int) : Prop := ∃ k : Nat, a = k ∧ Isw (xs.getD k 0) ∧ (k : Int) + xs.getD k 0 % 128 < xs.length
theorem Read_yes {g r : Nat} {xs : List Int} {w : World} (h : MemAt w g r xs) (k : Nat) (hw : Isw (xs.getD k 0)) (hl : (k : Int) + xs.getD k 0 % 128 < xs.length) :
    Calls Try.prog 13 #[.pointer (some ⟨g, 0, none⟩), .int .i64 k] w fun e w' => e = got3 (xs.getD k 0) ∧ w = w' :=
  Read_walk_yes _ _ _ _ hw (Load_yes h k (by have := hw.1; omega)) (whole_yes h k _ (by omega) (by have := hw.1; omega) hl)
/-- Words that fit. -/
def Fit (xs : List Int) : Prop := ∀ k : Nat, -9223372036854775808 ≤ xs.getD k 0 ∧ xs.getD k 0 ≤ 9223372036854775807
theorem Read_no {g r : Nat} {xs : List Int} {w : World} (h : MemAt w g r xs) (hf : Fit xs) (a : Int) (hno : ¬ Obj xs a) :
    Calls Try.prog 13 #[.pointer (some ⟨g, 0, none⟩), .int .i64 a] w fun e w' => e = none3 ∧ w = w' := by
  by_cases ha : 0 ≤ a ∧ a < xs.length
  · obtain ⟨k, rfl⟩ : ∃ k : Nat, a = k := ⟨a.toNat, by omega⟩
    by_cases hw : Isw (xs.getD k 0)
    · exact Read_walk_cut _ _ _ _ _ hw (Load_yes h k (by omega)) (whole_no h k _ (by have := hw.1; omega) (fun hh => hno ⟨k, rfl, hw, hh.2⟩))
    · exact Read_walk_no _ _ _ _ _ hw (hf k) (Load_yes h k (by omega))
  · exact Read_walk_cut _ _ 0 _ _ ⟨by omega, by omega⟩ (Load_no h a ha) (whole_no h a _ (by omega) (by omega))
theorem Read_nobody {p : Option Addr} {w : World} (h : Nobody w p) (a : Int) :
    Calls Try.prog 13 #[.pointer p, .int .i64 a] w fun e w' => e = none3 ∧ w = w' :=
  Read_walk_cut _ _ 0 _ _ ⟨by omega, by omega⟩ (Load_nobody h a) (whole_nobody h a _ (by omega))

theorem Field_yes (p : Value) (a i s n : Int) (w : World) (ha : 0 ≤ a ∧ a ≤ 4096) (hi : 0 ≤ i ∧ i < n ∧ n < 128) (l : Calls Try.prog 13 #[p, .int .i64 a] w fun e w' => e = .returned (.tuple #[.int .i64 s, .int .i64 n, .bool true]) ∧ w = w') :
    Calls Try.prog 14 #[p, .int .i64 a, .int .i64 i] w fun e w' => e = .returned (.tuple #[.int .i64 (a + 1 + i), .bool true]) ∧ w = w' := by
  have L := Lib.hid l
  clear l
  obtain ⟨h1, h2⟩ := ha
  obtain ⟨h3, h4, h5⟩ := hi
  go_enter Try.func14, Try.ntmps14
  go_wp2_with (go_at_call 13; (with_reducible refine L.out.mono ?_); rintro e w' ⟨rfl, rfl⟩)
  go_ret2
  exact ⟨rfl, rfl⟩
theorem Field_no (p : Value) (a i s n : Int) (b : Bool) (w : World) (hi : ¬ (0 ≤ i ∧ i < n)) (l : Calls Try.prog 13 #[p, .int .i64 a] w fun e w' => e = .returned (.tuple #[.int .i64 s, .int .i64 n, .bool b]) ∧ w = w') :
    Calls Try.prog 14 #[p, .int .i64 a, .int .i64 i] w fun e w' => e = .returned (.tuple #[.int .i64 0, .bool false]) ∧ w = w' := by
  have L := Lib.hid l
  clear l
  by_cases h1 : i < 0
  · clear hi
    go_enter Try.func14, Try.ntmps14
    go_wp2_with (go_at_call 13; (with_reducible refine L.out.mono ?_); rintro e w' ⟨rfl, rfl⟩)
    go_ret2
    exact ⟨rfl, rfl⟩
  · have h2 : decide (i ≥ n) = true := decide_eq_true (by omega)
    clear hi
    go_enter Try.func14, Try.ntmps14
    go_wp2_with (go_at_call 13; (with_reducible refine L.out.mono ?_); rintro e w' ⟨rfl, rfl⟩)
    go_ret2
    exact ⟨rfl, rfl⟩
theorem Field_at {g r : Nat} {xs : List Int} {w : World} (h : MemAt w g r xs) (k i : Nat) (hw : Isw (xs.getD k 0)) (hl : (k : Int) + xs.getD k 0 % 128 < xs.length) (hi : (i : Int) < xs.getD k 0 % 128) :
    Calls Try.prog 14 #[.pointer (some ⟨g, 0, none⟩), .int .i64 k, .int .i64 i] w fun e w' => e = .returned (.tuple #[.int .i64 (k + 1 + i), .bool true]) ∧ w = w' :=
  Field_yes _ _ _ _ _ _ (by have := h.2.2; have := hw.1; omega) (by omega) (Read_yes h k hw hl)
end Go.Proofs.Ytngicaainjoljaa.hd
