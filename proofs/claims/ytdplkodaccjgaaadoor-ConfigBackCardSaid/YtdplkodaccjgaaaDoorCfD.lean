/- Whether a config may be, its ticks and its words. -/
import Derived.Test.YtdplkodaccjgaaaDoorCfC
namespace Go.Proofs.YtdplkodaccjgaaaDoor.cf
open Go.ChangeShapes Go.WideShapes Go.ChangeAt Go.RowKit
set_option linter.unusedVariables false

theorem Down_1000 (a : Int) (w : World) (h : 0 ≤ a) (h1 : a ≤ 64000) : Calls Tryd.prog 20 #[.int .i64 a, .int .i64 1000] w
    fun e w' => e = .returned (.tuple #[.int .i64 (a / 1000), .bool true]) ∧ w = w' := by
  have hm : ¬ a % 1000 < 0 := by omega
  go_enter Tryd.func20, Tryd.ntmps20
  go_wp2
  go_ret2
  exact ⟨rfl, rfl⟩

section
variable (a0 a1 a2 a3 a4 a5 a6 a7 a8 a9 : Int) (w : World)
set_option maxHeartbeats 4000000
theorem Wrong_as {n : Int} (hT : Table w) (hn : wrongN [a0, a1, a2, a3, a4, a5, a6, a7, a8, a9] = n) : Calls Tryd.prog 9 #[.agg #[.int .i64 a0, .int .i64 a1, .int .i64 a2, .int .i64 a3, .int .i64 a4, .int .i64 a5, .int .i64 a6, .int .i64 a7, .int .i64 a8, .int .i64 a9]] w
    fun e w' => e = .returned (.int .i64 n) ∧ Below w.heap.size w w' := hn ▸ Wrong_any a0 a1 a2 a3 a4 a5 a6 a7 a8 a9 w hT
theorem lwrong_as {n : Int} (hn : wrongN [a0, a1, a2, a3, a4, a5, a6, a7, a8, a9] = n) : Calls Tryd.prog 8 #[.agg #[.int .i64 a0, .int .i64 a1, .int .i64 a2, .int .i64 a3, .int .i64 a4, .int .i64 a5, .int .i64 a6, .int .i64 a7, .int .i64 a8, .int .i64 a9]] w
    fun e w' => e = .returned (.int .i64 n) ∧ Below w.heap.size w w' := hn ▸ lwrong_any a0 a1 a2 a3 a4 a5 a6 a7 a8 a9 w
theorem Check_yes (hT : Table w) (hn : wrongN [a0, a1, a2, a3, a4, a5, a6, a7, a8, a9] = 0) : Calls Tryd.prog 10 #[.agg #[.int .i64 a0, .int .i64 a1, .int .i64 a2, .int .i64 a3, .int .i64 a4, .int .i64 a5, .int .i64 a6, .int .i64 a7, .int .i64 a8, .int .i64 a9]] w
    fun e w' => e = .returned (.int .i64 0) ∧ Below w.heap.size w w' := by
  have hz := hT.1
  have HT := Lib.hid (hT.below (((Below.refl w.heap.size w)).alloc (Nat.le_refl _) (.cells #[.int .i64 a0, .int .i64 a1, .int .i64 a2, .int .i64 a3, .int .i64 a4, .int .i64 a5, .int .i64 a6, .int .i64 a7, .int .i64 a8, .int .i64 a9] 23)))
  have B0 := Lib.hid (((Below.refl w.heap.size w)).alloc (Nat.le_refl _) (.cells #[.int .i64 a0, .int .i64 a1, .int .i64 a2, .int .i64 a3, .int .i64 a4, .int .i64 a5, .int .i64 a6, .int .i64 a7, .int .i64 a8, .int .i64 a9] 23))
  have HN := Lib.hid hn
  clear hT hn
  go_enter Tryd.func10, Tryd.ntmps10
  go_wp2_with (go_at_call 9; (with_reducible refine (Wrong_as _ _ _ _ _ _ _ _ _ _ _ HT.out HN.out).mono ?_); rintro e w2 ⟨rfl, hb2⟩; have HB2 := Lib.hid hb2; have HS2 := Lib.hid ((Ten.new w 23 a0 a1 a2 a3 a4 a5 a6 a7 a8 a9).below hb2); obtain ⟨c0, c1, c2, c3, c4, c5, c6, c7, c8, c9⟩ := HS2.out; clear hb2)
  go_ret
  exact ⟨rfl, B0.out.trans (HB2.out.mono (by simp))⟩
theorem Check_no {n : Int} (h0 : (n == 0) = false) (hT : Table w) (hn : wrongN [a0, a1, a2, a3, a4, a5, a6, a7, a8, a9] = n) : Calls Tryd.prog 10 #[.agg #[.int .i64 a0, .int .i64 a1, .int .i64 a2, .int .i64 a3, .int .i64 a4, .int .i64 a5, .int .i64 a6, .int .i64 a7, .int .i64 a8, .int .i64 a9]] w
    fun e w' => e = .returned (.int .i64 6) ∧ Below w.heap.size w w' := by
  have hz := hT.1
  have HT := Lib.hid (hT.below (((Below.refl w.heap.size w)).alloc (Nat.le_refl _) (.cells #[.int .i64 a0, .int .i64 a1, .int .i64 a2, .int .i64 a3, .int .i64 a4, .int .i64 a5, .int .i64 a6, .int .i64 a7, .int .i64 a8, .int .i64 a9] 23)))
  have B0 := Lib.hid (((Below.refl w.heap.size w)).alloc (Nat.le_refl _) (.cells #[.int .i64 a0, .int .i64 a1, .int .i64 a2, .int .i64 a3, .int .i64 a4, .int .i64 a5, .int .i64 a6, .int .i64 a7, .int .i64 a8, .int .i64 a9] 23))
  have HN := Lib.hid hn
  clear hT hn
  go_enter Tryd.func10, Tryd.ntmps10
  go_wp2_with (go_at_call 9; (with_reducible refine (Wrong_as _ _ _ _ _ _ _ _ _ _ _ HT.out HN.out).mono ?_); rintro e w2 ⟨rfl, hb2⟩; have HB2 := Lib.hid hb2; have HS2 := Lib.hid ((Ten.new w 23 a0 a1 a2 a3 a4 a5 a6 a7 a8 a9).below hb2); obtain ⟨c0, c1, c2, c3, c4, c5, c6, c7, c8, c9⟩ := HS2.out; clear hb2)
  go_ret
  exact ⟨rfl, B0.out.trans (HB2.out.mono (by simp))⟩
theorem Words_yes (hT : Table w) (hn : wrongN [a0, a1, a2, a3, a4, a5, a6, a7, a8, a9] = 0) : Calls Tryd.prog 12 #[.agg #[.int .i64 a0, .int .i64 a1, .int .i64 a2, .int .i64 a3, .int .i64 a4, .int .i64 a5, .int .i64 a6, .int .i64 a7, .int .i64 a8, .int .i64 a9]] w
    fun e w' => e = .returned (.int .i64 (32 * a0)) ∧ Below w.heap.size w w' := by
  obtain ⟨⟨q0, q1⟩, -⟩ := fine (wrong_zero hn).1
  have hz := hT.1
  have HT := Lib.hid (hT.below (((Below.refl w.heap.size w)).alloc (Nat.le_refl _) (.cells #[.int .i64 a0, .int .i64 a1, .int .i64 a2, .int .i64 a3, .int .i64 a4, .int .i64 a5, .int .i64 a6, .int .i64 a7, .int .i64 a8, .int .i64 a9] 23)))
  have B0 := Lib.hid (((Below.refl w.heap.size w)).alloc (Nat.le_refl _) (.cells #[.int .i64 a0, .int .i64 a1, .int .i64 a2, .int .i64 a3, .int .i64 a4, .int .i64 a5, .int .i64 a6, .int .i64 a7, .int .i64 a8, .int .i64 a9] 23))
  have HN := Lib.hid hn
  clear hT hn
  go_enter Tryd.func12, Tryd.ntmps12
  go_wp2_with (go_at_call 9; (with_reducible refine (Wrong_as _ _ _ _ _ _ _ _ _ _ _ HT.out HN.out).mono ?_); rintro e w2 ⟨rfl, hb2⟩; have HB2 := Lib.hid hb2; have HS2 := Lib.hid ((Ten.new w 23 a0 a1 a2 a3 a4 a5 a6 a7 a8 a9).below hb2); obtain ⟨c0, c1, c2, c3, c4, c5, c6, c7, c8, c9⟩ := HS2.out; clear hb2)
  go_ret
  exact ⟨rfl, B0.out.trans (HB2.out.mono (by simp))⟩
theorem Words_no {n : Int} (h0 : (n == 0) = false) (hT : Table w) (hn : wrongN [a0, a1, a2, a3, a4, a5, a6, a7, a8, a9] = n) : Calls Tryd.prog 12 #[.agg #[.int .i64 a0, .int .i64 a1, .int .i64 a2, .int .i64 a3, .int .i64 a4, .int .i64 a5, .int .i64 a6, .int .i64 a7, .int .i64 a8, .int .i64 a9]] w
    fun e w' => e = .returned (.int .i64 0) ∧ Below w.heap.size w w' := by
  have hz := hT.1
  have HT := Lib.hid (hT.below (((Below.refl w.heap.size w)).alloc (Nat.le_refl _) (.cells #[.int .i64 a0, .int .i64 a1, .int .i64 a2, .int .i64 a3, .int .i64 a4, .int .i64 a5, .int .i64 a6, .int .i64 a7, .int .i64 a8, .int .i64 a9] 23)))
  have B0 := Lib.hid (((Below.refl w.heap.size w)).alloc (Nat.le_refl _) (.cells #[.int .i64 a0, .int .i64 a1, .int .i64 a2, .int .i64 a3, .int .i64 a4, .int .i64 a5, .int .i64 a6, .int .i64 a7, .int .i64 a8, .int .i64 a9] 23))
  have HN := Lib.hid hn
  clear hT hn
  go_enter Tryd.func12, Tryd.ntmps12
  go_wp2_with (go_at_call 9; (with_reducible refine (Wrong_as _ _ _ _ _ _ _ _ _ _ _ HT.out HN.out).mono ?_); rintro e w2 ⟨rfl, hb2⟩; have HB2 := Lib.hid hb2; have HS2 := Lib.hid ((Ten.new w 23 a0 a1 a2 a3 a4 a5 a6 a7 a8 a9).below hb2); obtain ⟨c0, c1, c2, c3, c4, c5, c6, c7, c8, c9⟩ := HS2.out; clear hb2)
  go_ret
  exact ⟨rfl, B0.out.trans (HB2.out.mono (by simp))⟩
theorem Most_no {n : Int} (h0 : (n == 0) = false) (hT : Table w) (hn : wrongN [a0, a1, a2, a3, a4, a5, a6, a7, a8, a9] = n) : Calls Tryd.prog 11 #[.agg #[.int .i64 a0, .int .i64 a1, .int .i64 a2, .int .i64 a3, .int .i64 a4, .int .i64 a5, .int .i64 a6, .int .i64 a7, .int .i64 a8, .int .i64 a9]] w
    fun e w' => e = .returned (.int .i64 0) ∧ Below w.heap.size w w' := by
  have hz := hT.1
  have HT := Lib.hid (hT.below (((Below.refl w.heap.size w)).alloc (Nat.le_refl _) (.cells #[.int .i64 a0, .int .i64 a1, .int .i64 a2, .int .i64 a3, .int .i64 a4, .int .i64 a5, .int .i64 a6, .int .i64 a7, .int .i64 a8, .int .i64 a9] 23)))
  have B0 := Lib.hid (((Below.refl w.heap.size w)).alloc (Nat.le_refl _) (.cells #[.int .i64 a0, .int .i64 a1, .int .i64 a2, .int .i64 a3, .int .i64 a4, .int .i64 a5, .int .i64 a6, .int .i64 a7, .int .i64 a8, .int .i64 a9] 23))
  have HN := Lib.hid hn
  clear hT hn
  go_enter Tryd.func11, Tryd.ntmps11
  go_wp2_with (go_at_call 9; (with_reducible refine (Wrong_as _ _ _ _ _ _ _ _ _ _ _ HT.out HN.out).mono ?_); rintro e w2 ⟨rfl, hb2⟩; have HB2 := Lib.hid hb2; have HS2 := Lib.hid ((Ten.new w 23 a0 a1 a2 a3 a4 a5 a6 a7 a8 a9).below hb2); obtain ⟨c0, c1, c2, c3, c4, c5, c6, c7, c8, c9⟩ := HS2.out; clear hb2)
  go_ret
  exact ⟨rfl, B0.out.trans (HB2.out.mono (by simp))⟩
theorem Most_yes {p : Int} (hp : a2 * (1000 - a4) = p) (hT : Table w) (hn : wrongN [a0, a1, a2, a3, a4, a5, a6, a7, a8, a9] = 0) : Calls Tryd.prog 11 #[.agg #[.int .i64 a0, .int .i64 a1, .int .i64 a2, .int .i64 a3, .int .i64 a4, .int .i64 a5, .int .i64 a6, .int .i64 a7, .int .i64 a8, .int .i64 a9]] w
    fun e w' => e = .returned (.int .i64 (p / 1000)) ∧ Below w.heap.size w w' := by
  obtain ⟨-, -, b2, b3, b4, -⟩ := fine (wrong_zero hn).1
  obtain ⟨p0, p1⟩ := prod_bd b2 b4
  rw [hp] at p0 p1
  have HP := Lib.hid hp
  have b2' := Lib.hid b2
  have b4' := Lib.hid b4
  clear hp b2 b3 b4
  have hz := hT.1
  have HT := Lib.hid (hT.below (((Below.refl w.heap.size w)).alloc (Nat.le_refl _) (.cells #[.int .i64 a0, .int .i64 a1, .int .i64 a2, .int .i64 a3, .int .i64 a4, .int .i64 a5, .int .i64 a6, .int .i64 a7, .int .i64 a8, .int .i64 a9] 23)))
  have B0 := Lib.hid (((Below.refl w.heap.size w)).alloc (Nat.le_refl _) (.cells #[.int .i64 a0, .int .i64 a1, .int .i64 a2, .int .i64 a3, .int .i64 a4, .int .i64 a5, .int .i64 a6, .int .i64 a7, .int .i64 a8, .int .i64 a9] 23))
  have HN := Lib.hid hn
  clear hT hn
  go_enter Tryd.func11, Tryd.ntmps11
  go_wp2_with (first
    | (go_at_call 9; (with_reducible refine (Wrong_as _ _ _ _ _ _ _ _ _ _ _ HT.out HN.out).mono ?_); rintro e w2 ⟨rfl, hb2⟩; have HB2 := Lib.hid hb2; have HS2 := Lib.hid ((Ten.new w 23 a0 a1 a2 a3 a4 a5 a6 a7 a8 a9).below hb2); obtain ⟨c0, c1, c2, c3, c4, c5, c6, c7, c8, c9⟩ := HS2.out; clear hb2)
    | (go_at_call 19; (with_reducible refine (left_as _ _ _ _ _ _ _ _ _ _ _ b2'.out b4'.out HP.out).mono ?_); rintro e w3 ⟨rfl, hb3⟩; have HB3 := Lib.hid hb3; clear hb3)
    | (go_at_call 20; (with_reducible refine (Down_1000 _ _ p0 p1).mono ?_); rintro e w' ⟨rfl, rfl⟩))
  go_ret
  exact ⟨rfl, (B0.out.trans (HB2.out.mono (by simp))).trans (HB3.out.mono ((B0.out.trans (HB2.out.mono (by simp))).size))⟩
end
end Go.Proofs.YtdplkodaccjgaaaDoor.cf
