/- What the first lines of each statement of layer 3 come to, and the statements' walks. -/
import Derived.Test.YtblaijmnapehiaaWdB
import Derived.Deep.QuietTactic
import Derived.BigQuiet
import Derived.Deep.RegionHeld3
import Derived.RegionTactic
namespace Go.Proofs.Ytblaijmnapehiaa.wd
open Go.ChangeShapes Go.WideShapes Go.ChangeAt Go.RowKit
set_option linter.unusedVariables false

theorem Check_as {k n c : Int} (h : chk k n = c) (w : World) : Calls Try.prog 10 #[.agg #[.int .i64 k, .int .i64 n]] w fun e w' => e = .returned (.int .i64 c) ∧ Below w.heap.size w w' := h ▸ Check_any k n w
theorem rCheck_as {k n c : Int} (h : chk k n = c) (w : World) : Calls Try.prog 8 #[.agg #[.int .i64 k, .int .i64 n]] w fun e w' => e = .returned (.int .i64 c) ∧ Below w.heap.size w w' := h ▸ rCheck_any k n w
theorem Put_as {k n a : Int} {b : Bool} (h : wd k n = a) (h2 : vb k n = b) (w : World) : Calls Try.prog 9 #[.agg #[.int .i64 k, .int .i64 n]] w fun e w' => e = .returned (.tuple #[.int .i64 a, .bool b]) ∧ Below w.heap.size w w' := h ▸ h2 ▸ Put_any k n w
theorem rPut_as {k n a : Int} (h0 : chk k n = 0) (h : wd k n = a) (w : World) : Calls Try.prog 11 #[.agg #[.int .i64 k, .int .i64 n]] w fun e w' => e = .returned (.int .i64 a) ∧ Below w.heap.size w w' := h ▸ rPut_any k n h0 w
theorem Read_as {x k n : Int} {b : Bool} (hx : (Lit.int .i64 x).wf = true) (h : rk x = k) (h1 : rn x = n) (h2 : rb x = b) (w : World) : Calls Try.prog 12 #[.int .i64 x] w fun e w' => e = ans k n b ∧ Below w.heap.size w w' := h ▸ h1 ▸ h2 ▸ Read_any x hx w
theorem rRead_as {x k n : Int} {b : Bool} (hx : (Lit.int .i64 x).wf = true) (h : rk x = k) (h1 : rn x = n) (h2 : rb x = b) (w : World) : Calls Try.prog 13 #[.int .i64 x] w fun e w' => e = ans k n b ∧ Below w.heap.size w w' := h ▸ h1 ▸ h2 ▸ rRead_any x hx w
theorem Address_as {x n : Int} {b : Bool} (hx : (Lit.int .i64 x).wf = true) (h : ra x = n) (h2 : rr x = b) (w : World) : Calls Try.prog 14 #[.int .i64 x] w fun e w' => e = .returned (.tuple #[.int .i64 n, .bool b]) ∧ Below w.heap.size w w' := h ▸ h2 ▸ Address_any x hx w

theorem alive_any (w : World) : Calls Try.prog 7 #[] w fun e w' => e = .returned (.bool true) ∧ Below w.heap.size w w' := by
  go_enter Try.func7, Try.ntmps7
  go_wp2_with (first
    | (go_at_call 9; (with_reducible refine (Put_as (a := -1) (b := true) (by decide) (by decide) _).mono ?_); rintro e w1 ⟨rfl, hb1⟩; have B1 := Lib.hid hb1; clear hb1)
    | (go_at_call 12; (with_reducible refine (Read_as (k := 2) (n := 0) (b := true) (by decide) (by decide) (by decide) (by decide) _).mono ?_); rintro e w2 ⟨rfl, hb2⟩; have B2 := Lib.hid (B1.out.trans (hb2.mono B1.out.size)); have B3 := Lib.hid (B2.out.alloc B2.out.size (.cells #[.int .i64 2, .int .i64 0] 23)); have C2 := Lib.hid (Two.new w2 23 2 0 rfl); clear hb2)
    | (go_at_call 14; (with_reducible refine (Address_as (n := 3) (b := true) (by decide) (by decide) (by decide) _).mono ?_); rintro e w4 ⟨rfl, hb4⟩; have B4 := Lib.hid (B3.out.trans (hb4.mono B3.out.size)); have C4 := Lib.hid (Two.below hb4 C2.out); obtain ⟨c0, c1, -, -⟩ := C4.out; clear hb4)
    | (go_at_call 10; (with_reducible refine (Check_as (c := 12) (by decide) _).mono ?_); rintro e w5 ⟨rfl, hb5⟩; have B5 := Lib.hid (B4.out.trans (hb5.mono B4.out.size)); clear hb5))
  go_ret
  exact ⟨rfl, B5.out⟩
theorem puts_any (k n : Int) (w : World) : Calls Try.prog 3 #[.agg #[.int .i64 k, .int .i64 n]] w fun e w' => e = .returned (.bool true) ∧ Below w.heap.size w w' := by
  have B0 := Lib.hid ((Below.refl w.heap.size w).alloc (Nat.le_refl _) (.cells #[.int .i64 k, .int .i64 n] 23))
  have C0 := Lib.hid (Two.new w 23 k n rfl)
  by_cases h : chk k n = 0
  · have H := Lib.hid h
    have V := Lib.hid (show vb k n = true by simp [vb, h])
    clear h
    go_enter Try.func3, Try.ntmps3
    go_wp2_with (first
      | (go_at_call 7; (with_reducible refine (alive_any _).mono ?_); rintro e w1 ⟨rfl, hb1⟩; have B1 := Lib.hid (B0.out.trans (hb1.mono B0.out.size)); have C1 := Lib.hid (Two.below hb1 C0.out); obtain ⟨c0, c1, -, -⟩ := C1.out; clear hb1)
      | (go_at_call 8; (with_reducible refine (rCheck_as H.out _).mono ?_); rintro e w2 ⟨rfl, hb2⟩; have B2 := Lib.hid (B1.out.trans (hb2.mono B1.out.size)); have C2 := Lib.hid (Two.below hb2 C1.out); obtain ⟨d0, d1, -, -⟩ := C2.out; clear hb2)
      | (go_at_call 9; (with_reducible refine (Put_as rfl V.out _).mono ?_); rintro e w3 ⟨rfl, hb3⟩; have B3 := Lib.hid (B2.out.trans (hb3.mono B2.out.size)); have C3 := Lib.hid (Two.below hb3 C2.out); obtain ⟨e0, e1, -, -⟩ := C3.out; clear hb3)
      | (go_at_call 10; (with_reducible refine (Check_as H.out _).mono ?_); rintro e w4 ⟨rfl, hb4⟩; have B4 := Lib.hid (B3.out.trans (hb4.mono B3.out.size)); have C4 := Lib.hid (Two.below hb4 C3.out); obtain ⟨f0, f1, -, -⟩ := C4.out; clear hb4)
      | (go_at_call 11; (with_reducible refine (rPut_as H.out rfl _).mono ?_); rintro e w5 ⟨rfl, hb5⟩; have B5 := Lib.hid (B4.out.trans (hb5.mono B4.out.size)); clear hb5))
    go_ret
    exact ⟨rfl, B5.out⟩
  · have H := Lib.hid (rfl : chk k n = chk k n)
    have N : (chk k n != 0) = true := by simp [h]
    have V := Lib.hid (show vb k n = false by simp [vb, h])
    have D := Lib.hid (show wd k n = 0 by simp [wd, h])
    generalize hc : chk k n = c at N
    have HC := Lib.hid hc
    clear h hc
    go_enter Try.func3, Try.ntmps3
    go_wp2_with (first
      | (go_at_call 7; (with_reducible refine (alive_any _).mono ?_); rintro e w1 ⟨rfl, hb1⟩; have B1 := Lib.hid (B0.out.trans (hb1.mono B0.out.size)); have C1 := Lib.hid (Two.below hb1 C0.out); obtain ⟨c0, c1, -, -⟩ := C1.out; clear hb1)
      | (go_at_call 8; (with_reducible refine (rCheck_as HC.out _).mono ?_); rintro e w2 ⟨rfl, hb2⟩; have B2 := Lib.hid (B1.out.trans (hb2.mono B1.out.size)); have C2 := Lib.hid (Two.below hb2 C1.out); obtain ⟨d0, d1, -, -⟩ := C2.out; clear hb2)
      | (go_at_call 9; (with_reducible refine (Put_as D.out V.out _).mono ?_); rintro e w3 ⟨rfl, hb3⟩; have B3 := Lib.hid (B2.out.trans (hb3.mono B2.out.size)); have C3 := Lib.hid (Two.below hb3 C2.out); obtain ⟨e0, e1, -, -⟩ := C3.out; clear hb3)
      | (go_at_call 10; (with_reducible refine (Check_as HC.out _).mono ?_); rintro e w4 ⟨rfl, hb4⟩; have B4 := Lib.hid (B3.out.trans (hb4.mono B3.out.size)); have C4 := Lib.hid (Two.below hb4 C3.out); obtain ⟨f0, f1, -, -⟩ := C4.out; clear hb4))
    go_ret
    exact ⟨rfl, B4.out⟩

/-- What is added up over a number that is read: where it leads. -/
theorem rr_yes {x : Int} (h : rr x = true) : rb x = true ∧ rk x = 2 ∧ ra x = rn x := by
  have := of_decide_eq_true h
  simp [ra, this]
theorem rr_no {x : Int} (h : rr x = false) : (rb x = false ∨ (rk x == 2) = false) ∧ ra x = 0 := by
  have := of_decide_eq_false h
  refine ⟨?_, by simp [ra, this]⟩
  cases hb : rb x
  · exact Or.inl rfl
  · right
    simpa [hb] using this
section
variable (x : Int) (hx : (Lit.int .i64 x).wf = true) (w : World)
include hx
theorem reads_any : Calls Try.prog 4 #[.int .i64 x] w fun e w' => e = .returned (.bool true) ∧ Below w.heap.size w w' := by
  have B0 := Lib.hid (Below.refl w.heap.size w)
  have HX := Lib.hid hx
  clear hx
  cases hr : rr x
  · obtain ⟨hor, ha⟩ := rr_no hr
    have HR := Lib.hid hr
    have HA := Lib.hid ha
    clear hr ha
    rcases hor with hb | hk
    · have HB := Lib.hid hb
      clear hb
      go_enter Try.func4, Try.ntmps4
      go_wp2_with (first
        | (go_at_call 7; (with_reducible refine (alive_any _).mono ?_); rintro e w1 ⟨rfl, hb1⟩; have B1 := Lib.hid (B0.out.trans (hb1.mono B0.out.size)); clear hb1)
        | (go_at_call 12; (with_reducible refine (Read_as HX.out rfl rfl HB.out _).mono ?_); rintro e w2 ⟨rfl, hb2⟩; have B2 := Lib.hid (B1.out.trans (hb2.mono B1.out.size)); have D2 := Lib.hid (B2.out.alloc B2.out.size (.cells #[.int .i64 (rk x), .int .i64 (rn x)] 23)); have C2 := Lib.hid (Two.new w2 23 (rk x) (rn x) rfl); clear hb2)
        | (go_at_call 13; (with_reducible refine (rRead_as HX.out rfl rfl HB.out _).mono ?_); rintro e w3 ⟨rfl, hb3⟩; have B3 := Lib.hid (D2.out.trans (hb3.mono D2.out.size)); have D3 := Lib.hid (B3.out.alloc B3.out.size (.cells #[.int .i64 (rk x), .int .i64 (rn x)] 23)); have C3 := Lib.hid (Two.below ((Below.refl _ w3).alloc (Nat.le_refl _) (.cells #[.int .i64 (rk x), .int .i64 (rn x)] 23)) (Two.below hb3 C2.out)); have E3 := Lib.hid (Two.new w3 23 (rk x) (rn x) rfl); clear hb3)
        | (go_at_call 14; (with_reducible refine (Address_as HX.out HA.out HR.out _).mono ?_); rintro e w4 ⟨rfl, hb4⟩; have B4 := Lib.hid (D3.out.trans (hb4.mono D3.out.size)); have C4 := Lib.hid (Two.below hb4 C3.out); have E4 := Lib.hid (Two.below hb4 E3.out); obtain ⟨c0, c1, -, -⟩ := C4.out; obtain ⟨d0, d1, -, -⟩ := E4.out; clear hb4))
      go_ret
      exact ⟨rfl, B4.out⟩
    · generalize hb : rb x = b
      have HB := Lib.hid hb
      clear hb
      go_enter Try.func4, Try.ntmps4
      go_wp2_with (first
        | (go_at_call 7; (with_reducible refine (alive_any _).mono ?_); rintro e w1 ⟨rfl, hb1⟩; have B1 := Lib.hid (B0.out.trans (hb1.mono B0.out.size)); clear hb1)
        | (go_at_call 12; (with_reducible refine (Read_as HX.out rfl rfl HB.out _).mono ?_); rintro e w2 ⟨rfl, hb2⟩; have B2 := Lib.hid (B1.out.trans (hb2.mono B1.out.size)); have D2 := Lib.hid (B2.out.alloc B2.out.size (.cells #[.int .i64 (rk x), .int .i64 (rn x)] 23)); have C2 := Lib.hid (Two.new w2 23 (rk x) (rn x) rfl); clear hb2)
        | (go_at_call 13; (with_reducible refine (rRead_as HX.out rfl rfl HB.out _).mono ?_); rintro e w3 ⟨rfl, hb3⟩; have B3 := Lib.hid (D2.out.trans (hb3.mono D2.out.size)); have D3 := Lib.hid (B3.out.alloc B3.out.size (.cells #[.int .i64 (rk x), .int .i64 (rn x)] 23)); have C3 := Lib.hid (Two.below ((Below.refl _ w3).alloc (Nat.le_refl _) (.cells #[.int .i64 (rk x), .int .i64 (rn x)] 23)) (Two.below hb3 C2.out)); have E3 := Lib.hid (Two.new w3 23 (rk x) (rn x) rfl); clear hb3)
        | (go_at_call 14; (with_reducible refine (Address_as HX.out HA.out HR.out _).mono ?_); rintro e w4 ⟨rfl, hb4⟩; have B4 := Lib.hid (D3.out.trans (hb4.mono D3.out.size)); have C4 := Lib.hid (Two.below hb4 C3.out); have E4 := Lib.hid (Two.below hb4 E3.out); obtain ⟨c0, c1, -, -⟩ := C4.out; obtain ⟨d0, d1, -, -⟩ := E4.out; clear hb4))
      all_goals
        go_ret
        exact ⟨rfl, B4.out⟩
  · obtain ⟨hb, hk, ha⟩ := rr_yes hr
    have HR := Lib.hid hr
    have HA := Lib.hid ha
    have HB := Lib.hid hb
    have HK := Lib.hid hk
    clear hr ha hb hk
    go_enter Try.func4, Try.ntmps4
    go_wp2_with (first
      | (go_at_call 7; (with_reducible refine (alive_any _).mono ?_); rintro e w1 ⟨rfl, hb1⟩; have B1 := Lib.hid (B0.out.trans (hb1.mono B0.out.size)); clear hb1)
      | (go_at_call 12; (with_reducible refine (Read_as HX.out HK.out rfl HB.out _).mono ?_); rintro e w2 ⟨rfl, hb2⟩; have B2 := Lib.hid (B1.out.trans (hb2.mono B1.out.size)); have D2 := Lib.hid (B2.out.alloc B2.out.size (.cells #[.int .i64 2, .int .i64 (rn x)] 23)); have C2 := Lib.hid (Two.new w2 23 2 (rn x) rfl); clear hb2)
      | (go_at_call 13; (with_reducible refine (rRead_as HX.out HK.out rfl HB.out _).mono ?_); rintro e w3 ⟨rfl, hb3⟩; have B3 := Lib.hid (D2.out.trans (hb3.mono D2.out.size)); have D3 := Lib.hid (B3.out.alloc B3.out.size (.cells #[.int .i64 2, .int .i64 (rn x)] 23)); have C3 := Lib.hid (Two.below ((Below.refl _ w3).alloc (Nat.le_refl _) (.cells #[.int .i64 2, .int .i64 (rn x)] 23)) (Two.below hb3 C2.out)); have E3 := Lib.hid (Two.new w3 23 2 (rn x) rfl); clear hb3)
      | (go_at_call 14; (with_reducible refine (Address_as HX.out HA.out HR.out _).mono ?_); rintro e w4 ⟨rfl, hb4⟩; have B4 := Lib.hid (D3.out.trans (hb4.mono D3.out.size)); have C4 := Lib.hid (Two.below hb4 C3.out); have E4 := Lib.hid (Two.below hb4 E3.out); obtain ⟨c0, c1, -, -⟩ := C4.out; obtain ⟨d0, d1, -, -⟩ := E4.out; clear hb4))
    go_ret
    exact ⟨rfl, B4.out⟩
end
end Go.Proofs.Ytblaijmnapehiaa.wd
