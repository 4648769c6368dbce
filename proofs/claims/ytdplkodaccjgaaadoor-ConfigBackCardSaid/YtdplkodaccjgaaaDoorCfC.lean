/- Which field of a config is the first wrong one, by the statements' own function; whether a config may be, its ticks and its words. -/
import Derived.Test.YtdplkodaccjgaaaDoorCfB
namespace Go.Proofs.YtdplkodaccjgaaaDoor.cf
open Go.ChangeShapes Go.WideShapes Go.ChangeAt Go.RowKit
set_option linter.unusedVariables false

section
variable (a0 a1 a2 a3 a4 a5 a6 a7 a8 a9 : Int) (w : World)
set_option maxHeartbeats 4000000
theorem field_as {k : Nat} (hk : k < 10) {x l h : Int} (hx : [a0, a1, a2, a3, a4, a5, a6, a7, a8, a9].getD k 0 = x) (hl : lo k = l) (hh : hi k = h) : Calls Tryd.prog 14 #[.agg #[.int .i64 a0, .int .i64 a1, .int .i64 a2, .int .i64 a3, .int .i64 a4, .int .i64 a5, .int .i64 a6, .int .i64 a7, .int .i64 a8, .int .i64 a9], .int .i64 ((k : Int) + 1)] w
    fun e w' => e = .returned (.tuple #[.int .i64 x, .int .i64 l, .int .i64 h]) ∧ Below w.heap.size w w' := by
  subst hx hl hh
  exact field_any a0 a1 a2 a3 a4 a5 a6 a7 a8 a9 w k hk
theorem lwrong_any : Calls Tryd.prog 8 #[.agg #[.int .i64 a0, .int .i64 a1, .int .i64 a2, .int .i64 a3, .int .i64 a4, .int .i64 a5, .int .i64 a6, .int .i64 a7, .int .i64 a8, .int .i64 a9]] w
    fun e w' => e = .returned (.int .i64 (wrongN [a0, a1, a2, a3, a4, a5, a6, a7, a8, a9])) ∧ Below w.heap.size w w' := by
  have t0 := Ten.new w 23 a0 a1 a2 a3 a4 a5 a6 a7 a8 a9
  have T0 := Lib.hid t0
  have B0 := Lib.hid (((Below.refl w.heap.size w)).alloc (Nat.le_refl _) (.cells #[.int .i64 a0, .int .i64 a1, .int .i64 a2, .int .i64 a3, .int .i64 a4, .int .i64 a5, .int .i64 a6, .int .i64 a7, .int .i64 a8, .int .i64 a9] 23))
  clear t0
  go_enter Tryd.func8, Tryd.ntmps8
  go_wp2
  go_loopw [3] (fun i wr => ∃ k : Nat, k ≤ 10 ∧ i = .int .i64 ((k : Int) + 1) ∧ (∀ j, j < k → bad [a0, a1, a2, a3, a4, a5, a6, a7, a8, a9] j = false) ∧ Below w.heap.size w wr ∧ Ten wr w.heap.size a0 a1 a2 a3 a4 a5 a6 a7 a8 a9) (fun i _ => (11 - intOf i).toNat)
  case atStart => exact ⟨0, by omega, rfl, fun j hj => by omega, B0.out, T0.out⟩
  case round =>
    obtain ⟨k, hk, rfl, hg, hb, hT⟩ := hrel
    have HG := Lib.hid hg
    have HB := Lib.hid hb
    have HT := Lib.hid hT
    clear hg hb
    obtain ⟨h0, h1, h2, h3, h4, h5, h6, h7, h8, h9⟩ := hT
    by_cases hlt : k < 10
    · generalize hx : List.getD [a0, a1, a2, a3, a4, a5, a6, a7, a8, a9] k 0 = x
      generalize hl : lo k = l
      generalize hh : hi k = h
      have X := Lib.hid hx
      have Ll := Lib.hid hl
      have Hh := Lib.hid hh
      clear hx hl hh
      by_cases q1 : x < l
      · go_wp2_with (go_at_call 14; (with_reducible refine (field_as _ _ _ _ _ _ _ _ _ _ _ hlt X.out Ll.out Hh.out).mono ?_); rintro e w2 ⟨rfl, hb2⟩; have HB2 := Lib.hid hb2; clear hb2)
        go_ret
        exact ⟨ret_int (wrong_first hlt HG.out (bad_lt (by rw [X.out, Ll.out]; exact q1))).symm, HB.out.trans (HB2.out.mono HB.out.size)⟩
      · by_cases q2 : h < x
        · go_wp2_with (go_at_call 14; (with_reducible refine (field_as _ _ _ _ _ _ _ _ _ _ _ hlt X.out Ll.out Hh.out).mono ?_); rintro e w2 ⟨rfl, hb2⟩; have HB2 := Lib.hid hb2; clear hb2)
          go_ret
          exact ⟨ret_int (wrong_first hlt HG.out (bad_gt (by rw [X.out, Hh.out]; exact q2))).symm, HB.out.trans (HB2.out.mono HB.out.size)⟩
        · have N := Lib.hid (more HG.out (bad_no (i := k) (by rw [X.out, Ll.out]; exact q1) (by rw [X.out, Hh.out]; exact q2)))
          go_wp2_with (go_at_call 14; (with_reducible refine (field_as _ _ _ _ _ _ _ _ _ _ _ hlt X.out Ll.out Hh.out).mono ?_); rintro e w2 ⟨rfl, hb2⟩; have HB2 := Lib.hid hb2; clear hb2)
          go_roundw
          case rel => exact ⟨k + 1, by omega, by go_num, N.out, HB.out.trans (HB2.out.mono HB.out.size), HT.out.below HB2.out⟩
          case measure => simp [intOf]; omega
    · have hk' : k = 10 := by omega
      subst hk'
      obtain ⟨-, -, b2, b3, b4, -⟩ := fine HG.out
      obtain ⟨p0, p1⟩ := prod_bd b2 b4
      have WO := Lib.hid (wrong_of HG.out)
      have f3 : IntKind.i64.wrap (1000 * a3) = 1000 * a3 := IntWalk.i64_in _ (by omega)
      have fp : IntKind.i64.wrap (a2 * (1000 - a4)) = a2 * (1000 - a4) := IntWalk.i64_in _ (by omega)
      obtain ⟨b30, b31⟩ := b3
      obtain ⟨b40, b41⟩ := b4
      have hlt' : ¬ ((10 : Nat) : Int) + 1 ≤ 10 := by omega
      by_cases q : a2 * (1000 - a4) < 1000 * a3
      · have W11 := Lib.hid (wrong_short WO.out rfl q)
        go_wp2
        go_ret
        exact ⟨ret_int W11.out.symm, HB.out⟩
      · have W11 := Lib.hid (wrong_wide WO.out rfl q)
        go_wp2
        go_ret
        exact ⟨ret_int W11.out.symm, HB.out⟩
end
end Go.Proofs.YtdplkodaccjgaaaDoor.cf
