/- The walks of the statements on the checks and on the ticks of a window. -/
import Derived.Test.YtdplkodaccjgaaaDoorCfH
namespace Go.Proofs.YtdplkodaccjgaaaDoor.cf
open Go.ChangeShapes Go.WideShapes Go.ChangeAt Go.RowKit
set_option linter.unusedVariables false

section
variable (a0 a1 a2 a3 a4 a5 a6 a7 a8 a9 : Int) (w : World)
set_option maxHeartbeats 4000000
theorem Most_as {p m : Int} (hp : a2 * (1000 - a4) = p) (hT : Table w) (hn : wrongN [a0, a1, a2, a3, a4, a5, a6, a7, a8, a9] = 0) (hm : m = p / 1000) : Calls Tryd.prog 11 #[.agg #[.int .i64 a0, .int .i64 a1, .int .i64 a2, .int .i64 a3, .int .i64 a4, .int .i64 a5, .int .i64 a6, .int .i64 a7, .int .i64 a8, .int .i64 a9]] w
    fun e w' => e = .returned (.int .i64 m) ∧ Below w.heap.size w w' := hm ▸ Most_yes a0 a1 a2 a3 a4 a5 a6 a7 a8 a9 w hp hT hn
theorem checks_yes (hT : Table w) (hn : wrongN [a0, a1, a2, a3, a4, a5, a6, a7, a8, a9] = 0) : Calls Tryd.prog 3 #[.agg #[.int .i64 a0, .int .i64 a1, .int .i64 a2, .int .i64 a3, .int .i64 a4, .int .i64 a5, .int .i64 a6, .int .i64 a7, .int .i64 a8, .int .i64 a9]] w fun e w' => e = .returned (.bool true) ∧ Below w.heap.size w w' := by
  have HT := Lib.hid hT
  have HN := Lib.hid hn
  have HB0 := Lib.hid (((Below.refl w.heap.size w)).alloc (Nat.le_refl _) (.cells #[.int .i64 a0, .int .i64 a1, .int .i64 a2, .int .i64 a3, .int .i64 a4, .int .i64 a5, .int .i64 a6, .int .i64 a7, .int .i64 a8, .int .i64 a9] 23))
  have T0 := Lib.hid (HT.out.below HB0.out)
  have C0 := Lib.hid (Ten.new w 23 a0 a1 a2 a3 a4 a5 a6 a7 a8 a9)
  clear hT hn
  go_enter Tryd.func3, Tryd.ntmps3
  go_wp2_with (first
    | (go_at_call 7; (with_reducible refine (alive_any _ T0.out).mono ?_); rintro e w1 ⟨rfl, hb1⟩; have HB1 := Lib.hid (HB0.out.trans (hb1.mono HB0.out.size)); have T1 := Lib.hid (HT.out.below HB1.out); have C1 := Lib.hid (C0.out.below hb1); obtain ⟨c0, c1, c2, c3, c4, c5, c6, c7, c8, c9⟩ := C1.out; clear hb1)
    | (go_at_call 8; (with_reducible refine (lwrong_as _ _ _ _ _ _ _ _ _ _ _ HN.out).mono ?_); rintro e w2 ⟨rfl, hb2⟩; have HB2 := Lib.hid (HB1.out.trans (hb2.mono HB1.out.size)); have T2 := Lib.hid (HT.out.below HB2.out); have C2 := Lib.hid (C1.out.below hb2); obtain ⟨d0, d1, d2, d3, d4, d5, d6, d7, d8, d9⟩ := C2.out; clear hb2)
    | (go_at_call 9; (with_reducible refine (Wrong_as _ _ _ _ _ _ _ _ _ _ _ T2.out HN.out).mono ?_); rintro e w3 ⟨rfl, hb3⟩; have HB3 := Lib.hid (HB2.out.trans (hb3.mono HB2.out.size)); have T3 := Lib.hid (HT.out.below HB3.out); have C3 := Lib.hid (C2.out.below hb3); obtain ⟨f0, f1, f2, f3, f4, f5, f6, f7, f8, f9⟩ := C3.out; clear hb3)
    | (go_at_call 10; (with_reducible refine (Check_yes _ _ _ _ _ _ _ _ _ _ _ T3.out HN.out).mono ?_); rintro e w4 ⟨rfl, hb4⟩; have HB4 := Lib.hid (HB3.out.trans (hb4.mono HB3.out.size)); have T4 := Lib.hid (HT.out.below HB4.out); have C4 := Lib.hid (C3.out.below hb4); obtain ⟨g0, g1, g2, g3, g4, g5, g6, g7, g8, g9⟩ := C4.out; clear hb4))
  go_ret
  exact ⟨rfl, HB4.out⟩
theorem checks_no {n : Int} (h0 : (n == 0) = false) (hT : Table w) (hn : wrongN [a0, a1, a2, a3, a4, a5, a6, a7, a8, a9] = n) : Calls Tryd.prog 3 #[.agg #[.int .i64 a0, .int .i64 a1, .int .i64 a2, .int .i64 a3, .int .i64 a4, .int .i64 a5, .int .i64 a6, .int .i64 a7, .int .i64 a8, .int .i64 a9]] w fun e w' => e = .returned (.bool true) ∧ Below w.heap.size w w' := by
  have HT := Lib.hid hT
  have HN := Lib.hid hn
  have HB0 := Lib.hid (((Below.refl w.heap.size w)).alloc (Nat.le_refl _) (.cells #[.int .i64 a0, .int .i64 a1, .int .i64 a2, .int .i64 a3, .int .i64 a4, .int .i64 a5, .int .i64 a6, .int .i64 a7, .int .i64 a8, .int .i64 a9] 23))
  have T0 := Lib.hid (HT.out.below HB0.out)
  have C0 := Lib.hid (Ten.new w 23 a0 a1 a2 a3 a4 a5 a6 a7 a8 a9)
  clear hT hn
  go_enter Tryd.func3, Tryd.ntmps3
  go_wp2_with (first
    | (go_at_call 7; (with_reducible refine (alive_any _ T0.out).mono ?_); rintro e w1 ⟨rfl, hb1⟩; have HB1 := Lib.hid (HB0.out.trans (hb1.mono HB0.out.size)); have T1 := Lib.hid (HT.out.below HB1.out); have C1 := Lib.hid (C0.out.below hb1); obtain ⟨c0, c1, c2, c3, c4, c5, c6, c7, c8, c9⟩ := C1.out; clear hb1)
    | (go_at_call 8; (with_reducible refine (lwrong_as _ _ _ _ _ _ _ _ _ _ _ HN.out).mono ?_); rintro e w2 ⟨rfl, hb2⟩; have HB2 := Lib.hid (HB1.out.trans (hb2.mono HB1.out.size)); have T2 := Lib.hid (HT.out.below HB2.out); have C2 := Lib.hid (C1.out.below hb2); obtain ⟨d0, d1, d2, d3, d4, d5, d6, d7, d8, d9⟩ := C2.out; clear hb2)
    | (go_at_call 9; (with_reducible refine (Wrong_as _ _ _ _ _ _ _ _ _ _ _ T2.out HN.out).mono ?_); rintro e w3 ⟨rfl, hb3⟩; have HB3 := Lib.hid (HB2.out.trans (hb3.mono HB2.out.size)); have T3 := Lib.hid (HT.out.below HB3.out); have C3 := Lib.hid (C2.out.below hb3); obtain ⟨f0, f1, f2, f3, f4, f5, f6, f7, f8, f9⟩ := C3.out; clear hb3)
    | (have mark := HB4; (go_at_call 10; (with_reducible refine (Check_no _ _ _ _ _ _ _ _ _ _ _ h0 T4.out HN.out).mono ?_); rintro e w5 ⟨rfl, hb5⟩; have HB5 := Lib.hid (HB4.out.trans (hb5.mono HB4.out.size)); have T5 := Lib.hid (HT.out.below HB5.out); have C5 := Lib.hid (C4.out.below hb5); obtain ⟨h0, h1, h2, h3, h4, h5, h6, h7, h8, h9⟩ := C5.out; clear hb5))
    | (go_at_call 10; (with_reducible refine (Check_no _ _ _ _ _ _ _ _ _ _ _ h0 T3.out HN.out).mono ?_); rintro e w4 ⟨rfl, hb4⟩; have HB4 := Lib.hid (HB3.out.trans (hb4.mono HB3.out.size)); have T4 := Lib.hid (HT.out.below HB4.out); have C4 := Lib.hid (C3.out.below hb4); obtain ⟨g0, g1, g2, g3, g4, g5, g6, g7, g8, g9⟩ := C4.out; clear hb4))
  go_ret
  exact ⟨rfl, HB5.out⟩
theorem most_no {n : Int} (h0 : (n == 0) = false) (hT : Table w) (hn : wrongN [a0, a1, a2, a3, a4, a5, a6, a7, a8, a9] = n) : Calls Tryd.prog 4 #[.agg #[.int .i64 a0, .int .i64 a1, .int .i64 a2, .int .i64 a3, .int .i64 a4, .int .i64 a5, .int .i64 a6, .int .i64 a7, .int .i64 a8, .int .i64 a9]] w fun e w' => e = .returned (.bool true) ∧ Below w.heap.size w w' := by
  have HT := Lib.hid hT
  have HN := Lib.hid hn
  have HB0 := Lib.hid (((Below.refl w.heap.size w)).alloc (Nat.le_refl _) (.cells #[.int .i64 a0, .int .i64 a1, .int .i64 a2, .int .i64 a3, .int .i64 a4, .int .i64 a5, .int .i64 a6, .int .i64 a7, .int .i64 a8, .int .i64 a9] 23))
  have T0 := Lib.hid (HT.out.below HB0.out)
  have C0 := Lib.hid (Ten.new w 23 a0 a1 a2 a3 a4 a5 a6 a7 a8 a9)
  clear hT hn
  go_enter Tryd.func4, Tryd.ntmps4
  go_wp2_with (first
    | (go_at_call 7; (with_reducible refine (alive_any _ T0.out).mono ?_); rintro e w1 ⟨rfl, hb1⟩; have HB1 := Lib.hid (HB0.out.trans (hb1.mono HB0.out.size)); have T1 := Lib.hid (HT.out.below HB1.out); have C1 := Lib.hid (C0.out.below hb1); obtain ⟨c0, c1, c2, c3, c4, c5, c6, c7, c8, c9⟩ := C1.out; clear hb1)
    | (go_at_call 11; (with_reducible refine (Most_no _ _ _ _ _ _ _ _ _ _ _ h0 T1.out HN.out).mono ?_); rintro e w2 ⟨rfl, hb2⟩; have HB2 := Lib.hid (HB1.out.trans (hb2.mono HB1.out.size)); have T2 := Lib.hid (HT.out.below HB2.out); have C2 := Lib.hid (C1.out.below hb2); obtain ⟨d0, d1, d2, d3, d4, d5, d6, d7, d8, d9⟩ := C2.out; clear hb2)
    | (go_at_call 8; (with_reducible refine (lwrong_as _ _ _ _ _ _ _ _ _ _ _ HN.out).mono ?_); rintro e w3 ⟨rfl, hb3⟩; have HB3 := Lib.hid (HB2.out.trans (hb3.mono HB2.out.size)); have T3 := Lib.hid (HT.out.below HB3.out); have C3 := Lib.hid (C2.out.below hb3); obtain ⟨f0, f1, f2, f3, f4, f5, f6, f7, f8, f9⟩ := C3.out; clear hb3)
    | (go_at_call 12; (with_reducible refine (Words_no _ _ _ _ _ _ _ _ _ _ _ h0 T3.out HN.out).mono ?_); rintro e w4 ⟨rfl, hb4⟩; have HB4 := Lib.hid (HB3.out.trans (hb4.mono HB3.out.size)); have T4 := Lib.hid (HT.out.below HB4.out); have C4 := Lib.hid (C3.out.below hb4); obtain ⟨g0, g1, g2, g3, g4, g5, g6, g7, g8, g9⟩ := C4.out; clear hb4))
  go_ret
  exact ⟨rfl, HB4.out⟩
theorem most_yes {p : Int} (hp : a2 * (1000 - a4) = p) (hT : Table w) (hn : wrongN [a0, a1, a2, a3, a4, a5, a6, a7, a8, a9] = 0) : Calls Tryd.prog 4 #[.agg #[.int .i64 a0, .int .i64 a1, .int .i64 a2, .int .i64 a3, .int .i64 a4, .int .i64 a5, .int .i64 a6, .int .i64 a7, .int .i64 a8, .int .i64 a9]] w fun e w' => e = .returned (.bool true) ∧ Below w.heap.size w w' := by
  have HT := Lib.hid hT
  have HN := Lib.hid hn
  have HB0 := Lib.hid (((Below.refl w.heap.size w)).alloc (Nat.le_refl _) (.cells #[.int .i64 a0, .int .i64 a1, .int .i64 a2, .int .i64 a3, .int .i64 a4, .int .i64 a5, .int .i64 a6, .int .i64 a7, .int .i64 a8, .int .i64 a9] 23))
  have T0 := Lib.hid (HT.out.below HB0.out)
  have C0 := Lib.hid (Ten.new w 23 a0 a1 a2 a3 a4 a5 a6 a7 a8 a9)
  obtain ⟨⟨b00, b01⟩, -, b2, b3, b4, -⟩ := fine (wrong_zero hn).1
  have hs := (wrong_zero hn).2
  obtain ⟨p0, p1⟩ := prod_bd b2 b4
  have l1 : 1000 * a3 ≤ p := by
    have h := hs
    simp only [short, decide_eq_false_iff_not] at h
    rw [← hp]
    have := Int.not_lt.1 h
    exact this
  have l2 : p ≤ a2 * 1000 := by rw [← hp]; exact Int.mul_le_mul_of_nonneg_left (by omega) (by omega)
  rw [hp] at p0 p1
  have HP := Lib.hid hp
  have f0 : IntKind.i64.wrap (a2 * (1000 - a4)) = p := by rw [hp]; exact IntWalk.i64_in _ (by omega)
  have f1 : IntKind.i64.wrap (32 * a0) = 32 * a0 := IntWalk.i64_in _ (by omega)
  obtain ⟨m, hm⟩ : ∃ m, m = p / 1000 := ⟨_, rfl⟩
  have m1 : m * 1000 ≤ p := by omega
  have m2 : p < (m + 1) * 1000 := by omega
  have m3 : a3 ≤ m := by omega
  have m4 : m ≤ a2 := by omega
  have m0 : 0 ≤ m ∧ m ≤ 64 := by omega
  have g1 : IntKind.i64.wrap (m * 1000) = m * 1000 := IntWalk.i64_in _ (by omega)
  have g2 : IntKind.i64.wrap (m + 1) = m + 1 := IntWalk.i64_in _ (by omega)
  have g3 : IntKind.i64.wrap ((m + 1) * 1000) = (m + 1) * 1000 := IntWalk.i64_in _ (by omega)
  have HM := Lib.hid hm
  obtain ⟨b40, b41⟩ := b4
  clear hT hn hs hp hm
  go_enter Tryd.func4, Tryd.ntmps4
  go_wp2_with (first
    | (go_at_call 7; (with_reducible refine (alive_any _ T0.out).mono ?_); rintro e w1 ⟨rfl, hb1⟩; have HB1 := Lib.hid (HB0.out.trans (hb1.mono HB0.out.size)); have T1 := Lib.hid (HT.out.below HB1.out); have C1 := Lib.hid (C0.out.below hb1); obtain ⟨c0, c1, c2, c3, c4, c5, c6, c7, c8, c9⟩ := C1.out; clear hb1)
    | (go_at_call 11; (with_reducible refine (Most_as _ _ _ _ _ _ _ _ _ _ _ HP.out T1.out HN.out HM.out).mono ?_); rintro e w2 ⟨rfl, hb2⟩; have HB2 := Lib.hid (HB1.out.trans (hb2.mono HB1.out.size)); have T2 := Lib.hid (HT.out.below HB2.out); have C2 := Lib.hid (C1.out.below hb2); obtain ⟨d0, d1, d2, d3, d4, d5, d6, d7, d8, d9⟩ := C2.out; clear hb2)
    | (go_at_call 8; (with_reducible refine (lwrong_as _ _ _ _ _ _ _ _ _ _ _ HN.out).mono ?_); rintro e w3 ⟨rfl, hb3⟩; have HB3 := Lib.hid (HB2.out.trans (hb3.mono HB2.out.size)); have T3 := Lib.hid (HT.out.below HB3.out); have C3 := Lib.hid (C2.out.below hb3); obtain ⟨f0, f1, f2, f3, f4, f5, f6, f7, f8, f9⟩ := C3.out; clear hb3))
  go_region_held3 (fun w' => w'.cell? ⟨w.heap.size, 0, none⟩ = some (.int .i64 a0) ∧ w'.cell? ⟨w.heap.size, 1, none⟩ = some (.int .i64 a1) ∧ w'.cell? ⟨w.heap.size, 2, none⟩ = some (.int .i64 a2) ∧ w'.cell? ⟨w.heap.size, 3, none⟩ = some (.int .i64 a3) ∧ w'.cell? ⟨w.heap.size, 4, none⟩ = some (.int .i64 a4) ∧ w'.cell? ⟨w.heap.size, 5, none⟩ = some (.int .i64 a5) ∧ w'.cell? ⟨w.heap.size, 6, none⟩ = some (.int .i64 a6) ∧ w'.cell? ⟨w.heap.size, 7, none⟩ = some (.int .i64 a7) ∧ w'.cell? ⟨w.heap.size, 8, none⟩ = some (.int .i64 a8) ∧ w'.cell? ⟨w.heap.size, 9, none⟩ = some (.int .i64 a9)) (first | exact C3.out | exact C4.out)
        (first | (go_at_call 12; (with_reducible refine (Words_yes _ _ _ _ _ _ _ _ _ _ _ (T3.out.below ((Below.refl _ w3).drew)) HN.out).mono ?_); rintro e w4 ⟨rfl, hb4⟩; have HB4 := Lib.hid (HB3.out.drew.trans (hb4.mono HB3.out.size)); have C4 := Lib.hid (Ten.below (W := w3.drew) hb4 C3.out); clear hb4))
  go_wp2
  go_ret
  exact ⟨rfl, HB4.out⟩
end
end Go.Proofs.YtdplkodaccjgaaaDoor.cf
