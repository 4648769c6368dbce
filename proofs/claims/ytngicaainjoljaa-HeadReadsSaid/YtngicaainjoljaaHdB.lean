/- alive; the walks of layer 10's three statements. -/
import Derived.Test.YtngicaainjoljaaHdA
import Derived.Test.YtngicaainjoljaaGenC
namespace Go.Proofs.Ytngicaainjoljaa.hd
open Go.ChangeShapes Go.WideShapes Go.ChangeAt Go.RowKit gen mm
set_option linter.unusedVariables false

theorem al_mk (w : World) : Calls Try.prog 7 #[.int .i64 1, .int .i64 2] w fun e w' => e = .returned (.tuple #[.int .i64 130, .bool true]) ∧ w = w' := Make_yes 1 2 w (by unfold May; omega)
theorem al_pt {g r : Nat} {w : World} (h : MemAt w g r (List.replicate 9 0)) : Calls Try.prog 12 #[.pointer (some ⟨g, 0, none⟩), .int .i64 4, .int .i64 1, .int .i64 2] w fun e w' => e = .returned (.bool true) ∧ MemAt w' g r [0, 0, 0, 0, 130, 0, 0, 0, 0] ∧ w.grownBy w' (some r) := Put_yes h 4 1 2 (by unfold May; omega) (by decide)
theorem al_rd {g r : Nat} {w : World} (h : MemAt w g r [0, 0, 0, 0, 130, 0, 0, 0, 0]) : Calls Try.prog 13 #[.pointer (some ⟨g, 0, none⟩), .int .i64 4] w fun e w' => e = .returned (.tuple #[.int .i64 1, .int .i64 2, .bool true]) ∧ w = w' := Read_yes h 4 ⟨by decide, by decide⟩ (by decide)
theorem al_fd {g r : Nat} {w : World} (h : MemAt w g r [0, 0, 0, 0, 130, 0, 0, 0, 0]) : Calls Try.prog 14 #[.pointer (some ⟨g, 0, none⟩), .int .i64 4, .int .i64 1] w fun e w' => e = .returned (.tuple #[.int .i64 6, .bool true]) ∧ w = w' := Field_yes _ 4 1 1 2 w (by omega) (by omega) (al_rd h)
theorem alive_any (w : World) : Calls Try.prog 6 #[] w fun e w' => e = .returned (.bool true) ∧ w.grownBy w' none := by
  have NW := Lib.hid (New_any 9 9 (by decide) w)
  go_enter Try.func6, Try.ntmps6
  go_wp2_with (first
    | (go_at_call 7; (with_reducible refine (al_mk _).mono ?_); rintro e w' ⟨rfl, rfl⟩)
    | (go_at_call 10; (with_reducible refine NW.out.mono ?_); rintro e w1 ⟨g, r, rfl, hm, hg, hr, hw⟩; have M1 := Lib.hid hm; have G1 := Lib.hid hw; clear hm hw)
    | (go_at_call 12; (with_reducible refine (al_pt M1.out).mono ?_); rintro e w2 ⟨rfl, hm, hw⟩; have M2 := Lib.hid hm; have G2 := Lib.hid (grown_new G1.out hw hr); clear hm hw)
    | (go_at_call 13; (with_reducible refine (al_rd M2.out).mono ?_); rintro e w' ⟨rfl, rfl⟩)
    | (go_at_call 14; (with_reducible refine (al_fd M2.out).mono ?_); rintro e w' ⟨rfl, rfl⟩))
  go_ret
  exact ⟨rfl, G2.out⟩

/-! ### HeadTells -/
theorem tells_yes_yes (s n x : Int) (w : World) (hx : -9223372036854775808 ≤ x ∧ x ≤ 9223372036854775807) (hm : May s n) (hw : Isw x) :
    Calls Try.prog 3 #[.int .i64 s, .int .i64 n, .int .i64 x] w fun e w' => e = .returned (.bool true) ∧ w.grownBy w' none := by
  have HM := Lib.hid hm
  have HW := Lib.hid hw
  have HX := Lib.hid hx
  clear hx
  obtain ⟨h1, h2, h3, h4⟩ := hm
  obtain ⟨h5, h6⟩ := hw
  go_enter Try.func3, Try.ntmps3
  go_wp2_with (first
    | (go_at_call 6; (with_reducible refine (alive_any _).mono ?_); rintro e w1 ⟨rfl, hg⟩; have G1 := Lib.hid hg; clear hg)
    | (go_at_call 7; (with_reducible refine (Make_yes _ _ _ HM.out).mono ?_); rintro e w' ⟨rfl, rfl⟩)
    | (go_at_call 8; (with_reducible refine (Split_yes _ _ HW.out).mono ?_); rintro e w' ⟨rfl, rfl⟩))
  go_ret
  exact ⟨rfl, G1.out⟩
theorem tells_yes_lo (s n x : Int) (w : World) (hx : -9223372036854775808 ≤ x ∧ x ≤ 9223372036854775807) (hm : May s n) (hw : ¬ Isw x) (hj : x < 0) :
    Calls Try.prog 3 #[.int .i64 s, .int .i64 n, .int .i64 x] w fun e w' => e = .returned (.bool true) ∧ w.grownBy w' none := by
  have HM := Lib.hid hm
  have HW := Lib.hid hw
  have HX := Lib.hid hx
  clear hx
  obtain ⟨h1, h2, h3, h4⟩ := hm
  clear hw
  go_enter Try.func3, Try.ntmps3
  go_wp2_with (first
    | (go_at_call 6; (with_reducible refine (alive_any _).mono ?_); rintro e w1 ⟨rfl, hg⟩; have G1 := Lib.hid hg; clear hg)
    | (go_at_call 7; (with_reducible refine (Make_yes _ _ _ HM.out).mono ?_); rintro e w' ⟨rfl, rfl⟩)
    | (go_at_call 8; (with_reducible refine (Split_no _ _ HW.out HX.out).mono ?_); rintro e w' ⟨rfl, rfl⟩))
  go_ret
  exact ⟨rfl, G1.out⟩
theorem tells_yes_hi (s n x : Int) (w : World) (hx : -9223372036854775808 ≤ x ∧ x ≤ 9223372036854775807) (hm : May s n) (hw : ¬ Isw x) (hj : 140737488355328 ≤ x) :
    Calls Try.prog 3 #[.int .i64 s, .int .i64 n, .int .i64 x] w fun e w' => e = .returned (.bool true) ∧ w.grownBy w' none := by
  have HM := Lib.hid hm
  have HW := Lib.hid hw
  have HX := Lib.hid hx
  clear hx
  obtain ⟨h1, h2, h3, h4⟩ := hm
  clear hw
  go_enter Try.func3, Try.ntmps3
  go_wp2_with (first
    | (go_at_call 6; (with_reducible refine (alive_any _).mono ?_); rintro e w1 ⟨rfl, hg⟩; have G1 := Lib.hid hg; clear hg)
    | (go_at_call 7; (with_reducible refine (Make_yes _ _ _ HM.out).mono ?_); rintro e w' ⟨rfl, rfl⟩)
    | (go_at_call 8; (with_reducible refine (Split_no _ _ HW.out HX.out).mono ?_); rintro e w' ⟨rfl, rfl⟩))
  go_ret
  exact ⟨rfl, G1.out⟩
theorem tells_a_yes (s n x : Int) (w : World) (hx : -9223372036854775808 ≤ x ∧ x ≤ 9223372036854775807) (hm : ¬ May s n) (hk : s < 0) (hw : Isw x) :
    Calls Try.prog 3 #[.int .i64 s, .int .i64 n, .int .i64 x] w fun e w' => e = .returned (.bool true) ∧ w.grownBy w' none := by
  have HM := Lib.hid hm
  have HW := Lib.hid hw
  have HX := Lib.hid hx
  clear hx
  clear hm
  obtain ⟨h5, h6⟩ := hw
  go_enter Try.func3, Try.ntmps3
  go_wp2_with (first
    | (go_at_call 6; (with_reducible refine (alive_any _).mono ?_); rintro e w1 ⟨rfl, hg⟩; have G1 := Lib.hid hg; clear hg)
    | (go_at_call 7; (with_reducible refine (Make_no _ _ _ HM.out).mono ?_); rintro e w' ⟨rfl, rfl⟩)
    | (go_at_call 8; (with_reducible refine (Split_yes _ _ HW.out).mono ?_); rintro e w' ⟨rfl, rfl⟩))
  go_ret
  exact ⟨rfl, G1.out⟩
theorem tells_a_lo (s n x : Int) (w : World) (hx : -9223372036854775808 ≤ x ∧ x ≤ 9223372036854775807) (hm : ¬ May s n) (hk : s < 0) (hw : ¬ Isw x) (hj : x < 0) :
    Calls Try.prog 3 #[.int .i64 s, .int .i64 n, .int .i64 x] w fun e w' => e = .returned (.bool true) ∧ w.grownBy w' none := by
  have HM := Lib.hid hm
  have HW := Lib.hid hw
  have HX := Lib.hid hx
  clear hx
  clear hm
  clear hw
  go_enter Try.func3, Try.ntmps3
  go_wp2_with (first
    | (go_at_call 6; (with_reducible refine (alive_any _).mono ?_); rintro e w1 ⟨rfl, hg⟩; have G1 := Lib.hid hg; clear hg)
    | (go_at_call 7; (with_reducible refine (Make_no _ _ _ HM.out).mono ?_); rintro e w' ⟨rfl, rfl⟩)
    | (go_at_call 8; (with_reducible refine (Split_no _ _ HW.out HX.out).mono ?_); rintro e w' ⟨rfl, rfl⟩))
  go_ret
  exact ⟨rfl, G1.out⟩
theorem tells_a_hi (s n x : Int) (w : World) (hx : -9223372036854775808 ≤ x ∧ x ≤ 9223372036854775807) (hm : ¬ May s n) (hk : s < 0) (hw : ¬ Isw x) (hj : 140737488355328 ≤ x) :
    Calls Try.prog 3 #[.int .i64 s, .int .i64 n, .int .i64 x] w fun e w' => e = .returned (.bool true) ∧ w.grownBy w' none := by
  have HM := Lib.hid hm
  have HW := Lib.hid hw
  have HX := Lib.hid hx
  clear hx
  clear hm
  clear hw
  go_enter Try.func3, Try.ntmps3
  go_wp2_with (first
    | (go_at_call 6; (with_reducible refine (alive_any _).mono ?_); rintro e w1 ⟨rfl, hg⟩; have G1 := Lib.hid hg; clear hg)
    | (go_at_call 7; (with_reducible refine (Make_no _ _ _ HM.out).mono ?_); rintro e w' ⟨rfl, rfl⟩)
    | (go_at_call 8; (with_reducible refine (Split_no _ _ HW.out HX.out).mono ?_); rintro e w' ⟨rfl, rfl⟩))
  go_ret
  exact ⟨rfl, G1.out⟩
theorem tells_b_yes (s n x : Int) (w : World) (hx : -9223372036854775808 ≤ x ∧ x ≤ 9223372036854775807) (hm : ¬ May s n) (hk : 1099511627776 ≤ s) (hw : Isw x) :
    Calls Try.prog 3 #[.int .i64 s, .int .i64 n, .int .i64 x] w fun e w' => e = .returned (.bool true) ∧ w.grownBy w' none := by
  have HM := Lib.hid hm
  have HW := Lib.hid hw
  have HX := Lib.hid hx
  clear hx
  clear hm
  obtain ⟨h5, h6⟩ := hw
  go_enter Try.func3, Try.ntmps3
  go_wp2_with (first
    | (go_at_call 6; (with_reducible refine (alive_any _).mono ?_); rintro e w1 ⟨rfl, hg⟩; have G1 := Lib.hid hg; clear hg)
    | (go_at_call 7; (with_reducible refine (Make_no _ _ _ HM.out).mono ?_); rintro e w' ⟨rfl, rfl⟩)
    | (go_at_call 8; (with_reducible refine (Split_yes _ _ HW.out).mono ?_); rintro e w' ⟨rfl, rfl⟩))
  go_ret
  exact ⟨rfl, G1.out⟩
theorem tells_b_lo (s n x : Int) (w : World) (hx : -9223372036854775808 ≤ x ∧ x ≤ 9223372036854775807) (hm : ¬ May s n) (hk : 1099511627776 ≤ s) (hw : ¬ Isw x) (hj : x < 0) :
    Calls Try.prog 3 #[.int .i64 s, .int .i64 n, .int .i64 x] w fun e w' => e = .returned (.bool true) ∧ w.grownBy w' none := by
  have HM := Lib.hid hm
  have HW := Lib.hid hw
  have HX := Lib.hid hx
  clear hx
  clear hm
  clear hw
  go_enter Try.func3, Try.ntmps3
  go_wp2_with (first
    | (go_at_call 6; (with_reducible refine (alive_any _).mono ?_); rintro e w1 ⟨rfl, hg⟩; have G1 := Lib.hid hg; clear hg)
    | (go_at_call 7; (with_reducible refine (Make_no _ _ _ HM.out).mono ?_); rintro e w' ⟨rfl, rfl⟩)
    | (go_at_call 8; (with_reducible refine (Split_no _ _ HW.out HX.out).mono ?_); rintro e w' ⟨rfl, rfl⟩))
  go_ret
  exact ⟨rfl, G1.out⟩
theorem tells_b_hi (s n x : Int) (w : World) (hx : -9223372036854775808 ≤ x ∧ x ≤ 9223372036854775807) (hm : ¬ May s n) (hk : 1099511627776 ≤ s) (hw : ¬ Isw x) (hj : 140737488355328 ≤ x) :
    Calls Try.prog 3 #[.int .i64 s, .int .i64 n, .int .i64 x] w fun e w' => e = .returned (.bool true) ∧ w.grownBy w' none := by
  have HM := Lib.hid hm
  have HW := Lib.hid hw
  have HX := Lib.hid hx
  clear hx
  clear hm
  clear hw
  go_enter Try.func3, Try.ntmps3
  go_wp2_with (first
    | (go_at_call 6; (with_reducible refine (alive_any _).mono ?_); rintro e w1 ⟨rfl, hg⟩; have G1 := Lib.hid hg; clear hg)
    | (go_at_call 7; (with_reducible refine (Make_no _ _ _ HM.out).mono ?_); rintro e w' ⟨rfl, rfl⟩)
    | (go_at_call 8; (with_reducible refine (Split_no _ _ HW.out HX.out).mono ?_); rintro e w' ⟨rfl, rfl⟩))
  go_ret
  exact ⟨rfl, G1.out⟩
theorem tells_c_yes (s n x : Int) (w : World) (hx : -9223372036854775808 ≤ x ∧ x ≤ 9223372036854775807) (hm : ¬ May s n) (hk : 0 ≤ s ∧ s < 1099511627776 ∧ n < 0) (hw : Isw x) :
    Calls Try.prog 3 #[.int .i64 s, .int .i64 n, .int .i64 x] w fun e w' => e = .returned (.bool true) ∧ w.grownBy w' none := by
  have HM := Lib.hid hm
  have HW := Lib.hid hw
  have HX := Lib.hid hx
  clear hx
  clear hm
  obtain ⟨h5, h6⟩ := hw
  obtain ⟨h1, h2, h3⟩ := hk
  go_enter Try.func3, Try.ntmps3
  go_wp2_with (first
    | (go_at_call 6; (with_reducible refine (alive_any _).mono ?_); rintro e w1 ⟨rfl, hg⟩; have G1 := Lib.hid hg; clear hg)
    | (go_at_call 7; (with_reducible refine (Make_no _ _ _ HM.out).mono ?_); rintro e w' ⟨rfl, rfl⟩)
    | (go_at_call 8; (with_reducible refine (Split_yes _ _ HW.out).mono ?_); rintro e w' ⟨rfl, rfl⟩))
  go_ret
  exact ⟨rfl, G1.out⟩
theorem tells_c_lo (s n x : Int) (w : World) (hx : -9223372036854775808 ≤ x ∧ x ≤ 9223372036854775807) (hm : ¬ May s n) (hk : 0 ≤ s ∧ s < 1099511627776 ∧ n < 0) (hw : ¬ Isw x) (hj : x < 0) :
    Calls Try.prog 3 #[.int .i64 s, .int .i64 n, .int .i64 x] w fun e w' => e = .returned (.bool true) ∧ w.grownBy w' none := by
  have HM := Lib.hid hm
  have HW := Lib.hid hw
  have HX := Lib.hid hx
  clear hx
  clear hm
  clear hw
  obtain ⟨h1, h2, h3⟩ := hk
  go_enter Try.func3, Try.ntmps3
  go_wp2_with (first
    | (go_at_call 6; (with_reducible refine (alive_any _).mono ?_); rintro e w1 ⟨rfl, hg⟩; have G1 := Lib.hid hg; clear hg)
    | (go_at_call 7; (with_reducible refine (Make_no _ _ _ HM.out).mono ?_); rintro e w' ⟨rfl, rfl⟩)
    | (go_at_call 8; (with_reducible refine (Split_no _ _ HW.out HX.out).mono ?_); rintro e w' ⟨rfl, rfl⟩))
  go_ret
  exact ⟨rfl, G1.out⟩
theorem tells_c_hi (s n x : Int) (w : World) (hx : -9223372036854775808 ≤ x ∧ x ≤ 9223372036854775807) (hm : ¬ May s n) (hk : 0 ≤ s ∧ s < 1099511627776 ∧ n < 0) (hw : ¬ Isw x) (hj : 140737488355328 ≤ x) :
    Calls Try.prog 3 #[.int .i64 s, .int .i64 n, .int .i64 x] w fun e w' => e = .returned (.bool true) ∧ w.grownBy w' none := by
  have HM := Lib.hid hm
  have HW := Lib.hid hw
  have HX := Lib.hid hx
  clear hx
  clear hm
  clear hw
  obtain ⟨h1, h2, h3⟩ := hk
  go_enter Try.func3, Try.ntmps3
  go_wp2_with (first
    | (go_at_call 6; (with_reducible refine (alive_any _).mono ?_); rintro e w1 ⟨rfl, hg⟩; have G1 := Lib.hid hg; clear hg)
    | (go_at_call 7; (with_reducible refine (Make_no _ _ _ HM.out).mono ?_); rintro e w' ⟨rfl, rfl⟩)
    | (go_at_call 8; (with_reducible refine (Split_no _ _ HW.out HX.out).mono ?_); rintro e w' ⟨rfl, rfl⟩))
  go_ret
  exact ⟨rfl, G1.out⟩
theorem tells_d_yes (s n x : Int) (w : World) (hx : -9223372036854775808 ≤ x ∧ x ≤ 9223372036854775807) (hm : ¬ May s n) (hk : 0 ≤ s ∧ s < 1099511627776 ∧ 0 ≤ n ∧ 128 ≤ n) (hw : Isw x) :
    Calls Try.prog 3 #[.int .i64 s, .int .i64 n, .int .i64 x] w fun e w' => e = .returned (.bool true) ∧ w.grownBy w' none := by
  have HM := Lib.hid hm
  have HW := Lib.hid hw
  have HX := Lib.hid hx
  clear hx
  clear hm
  obtain ⟨h5, h6⟩ := hw
  obtain ⟨h1, h2, h3, h4⟩ := hk
  go_enter Try.func3, Try.ntmps3
  go_wp2_with (first
    | (go_at_call 6; (with_reducible refine (alive_any _).mono ?_); rintro e w1 ⟨rfl, hg⟩; have G1 := Lib.hid hg; clear hg)
    | (go_at_call 7; (with_reducible refine (Make_no _ _ _ HM.out).mono ?_); rintro e w' ⟨rfl, rfl⟩)
    | (go_at_call 8; (with_reducible refine (Split_yes _ _ HW.out).mono ?_); rintro e w' ⟨rfl, rfl⟩))
  go_ret
  exact ⟨rfl, G1.out⟩
theorem tells_d_lo (s n x : Int) (w : World) (hx : -9223372036854775808 ≤ x ∧ x ≤ 9223372036854775807) (hm : ¬ May s n) (hk : 0 ≤ s ∧ s < 1099511627776 ∧ 0 ≤ n ∧ 128 ≤ n) (hw : ¬ Isw x) (hj : x < 0) :
    Calls Try.prog 3 #[.int .i64 s, .int .i64 n, .int .i64 x] w fun e w' => e = .returned (.bool true) ∧ w.grownBy w' none := by
  have HM := Lib.hid hm
  have HW := Lib.hid hw
  have HX := Lib.hid hx
  clear hx
  clear hm
  clear hw
  obtain ⟨h1, h2, h3, h4⟩ := hk
  go_enter Try.func3, Try.ntmps3
  go_wp2_with (first
    | (go_at_call 6; (with_reducible refine (alive_any _).mono ?_); rintro e w1 ⟨rfl, hg⟩; have G1 := Lib.hid hg; clear hg)
    | (go_at_call 7; (with_reducible refine (Make_no _ _ _ HM.out).mono ?_); rintro e w' ⟨rfl, rfl⟩)
    | (go_at_call 8; (with_reducible refine (Split_no _ _ HW.out HX.out).mono ?_); rintro e w' ⟨rfl, rfl⟩))
  go_ret
  exact ⟨rfl, G1.out⟩
theorem tells_d_hi (s n x : Int) (w : World) (hx : -9223372036854775808 ≤ x ∧ x ≤ 9223372036854775807) (hm : ¬ May s n) (hk : 0 ≤ s ∧ s < 1099511627776 ∧ 0 ≤ n ∧ 128 ≤ n) (hw : ¬ Isw x) (hj : 140737488355328 ≤ x) :
    Calls Try.prog 3 #[.int .i64 s, .int .i64 n, .int .i64 x] w fun e w' => e = .returned (.bool true) ∧ w.grownBy w' none := by
  have HM := Lib.hid hm
  have HW := Lib.hid hw
  have HX := Lib.hid hx
  clear hx
  clear hm
  clear hw
  obtain ⟨h1, h2, h3, h4⟩ := hk
  go_enter Try.func3, Try.ntmps3
  go_wp2_with (first
    | (go_at_call 6; (with_reducible refine (alive_any _).mono ?_); rintro e w1 ⟨rfl, hg⟩; have G1 := Lib.hid hg; clear hg)
    | (go_at_call 7; (with_reducible refine (Make_no _ _ _ HM.out).mono ?_); rintro e w' ⟨rfl, rfl⟩)
    | (go_at_call 8; (with_reducible refine (Split_no _ _ HW.out HX.out).mono ?_); rintro e w' ⟨rfl, rfl⟩))
  go_ret
  exact ⟨rfl, G1.out⟩
theorem HeadTells_any (s n x : Int) (w : World) (hx : -9223372036854775808 ≤ x ∧ x ≤ 9223372036854775807) :
    Calls Try.prog 3 #[.int .i64 s, .int .i64 n, .int .i64 x] w fun e w' => e = .returned (.bool true) ∧ w.grownBy w' none := by
  have W : Isw x ∨ (¬ Isw x ∧ x < 0) ∨ (¬ Isw x ∧ 140737488355328 ≤ x) := by unfold Isw; omega
  have M : May s n ∨ (¬ May s n ∧ s < 0) ∨ (¬ May s n ∧ 1099511627776 ≤ s) ∨ (¬ May s n ∧ 0 ≤ s ∧ s < 1099511627776 ∧ n < 0) ∨ (¬ May s n ∧ 0 ≤ s ∧ s < 1099511627776 ∧ 0 ≤ n ∧ 128 ≤ n) := by unfold May; omega
  rcases W with W | ⟨W, v⟩ | ⟨W, v⟩ <;> rcases M with M | ⟨M, m⟩ | ⟨M, m⟩ | ⟨M, m⟩ | ⟨M, m⟩
  · exact tells_yes_yes s n x w hx M W
  · exact tells_a_yes s n x w hx M m W
  · exact tells_b_yes s n x w hx M m W
  · exact tells_c_yes s n x w hx M m W
  · exact tells_d_yes s n x w hx M m W
  · exact tells_yes_lo s n x w hx M W v
  · exact tells_a_lo s n x w hx M m W v
  · exact tells_b_lo s n x w hx M m W v
  · exact tells_c_lo s n x w hx M m W v
  · exact tells_d_lo s n x w hx M m W v
  · exact tells_yes_hi s n x w hx M W v
  · exact tells_a_hi s n x w hx M m W v
  · exact tells_b_hi s n x w hx M m W v
  · exact tells_c_hi s n x w hx M m W v
  · exact tells_d_hi s n x w hx M m W v
end Go.Proofs.Ytngicaainjoljaa.hd
