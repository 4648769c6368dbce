/- alive. -/
import Derived.Test.YtgfgchmpdocihaaLgE
namespace Go.Proofs.Ytgfgchmpdocihaa.lg
open Go.ChangeShapes Go.WideShapes Go.ChangeAt Go.RowKit gen lb
set_option linter.unusedVariables false
set_option maxHeartbeats 4000000
set_option maxRecDepth 100000
/-- A ledger of one thread that the call made. -/
structure Av (w : World) (g R : Nat) (l : List Bool) (W : World) : Prop where
  lg : Lg W g R 1 4 2 [l]
  le : w.heap.size ≤ R
  grown : w.grownBy W none
section
variable {w W W' : World} {g R : Nat} {l : List Bool}
theorem Av.new (h : Av w g R l W) (hg : W.grownBy W' none) : Av w g R l W' := ⟨h.lg.new hg, h.le, h.grown.trans hg⟩
theorem av_new (w : World) : Calls Try.prog 6 #[.int .i64 1, .int .i64 4, .int .i64 2] w fun r w' => ∃ g R, r = .returned (.pointer (some ⟨g, 0, none⟩)) ∧ Av w g R [] w' :=
  (New_any 1 4 2 (by omega) (by omega) (by omega) (by omega) w).mono (fun r w' ⟨g, R, e, h1, _, h3, h4⟩ => ⟨g, R, e, h1, h3, h4⟩)
theorem Av.run (h : Av w g R l W) (n : Nat) (hn : n ≤ 64) : Calls Try.prog 8 #[.pointer (some ⟨g, 0, none⟩), .int .i64 0, .int .i64 (n : Int)] W fun r w' => r = .returned (.bool true) ∧ Av w g R (beh 4 n l false) w' :=
  (Run_yes h.lg 0 (by omega) n hn).mono (fun r w' ⟨e, h1, h2⟩ => ⟨e, h1, h.le, li.grown_new h.grown h2 h.le⟩)
theorem Av.work (h : Av w g R l W) (n : Nat) (hn : n ≤ 2) (hc : cnt (beh 4 n l true) ≤ 2) : Calls Try.prog 10 #[.pointer (some ⟨g, 0, none⟩), .int .i64 0, .int .i64 (n : Int)] W fun r w' => r = .returned (.bool true) ∧ Av w g R (beh 4 n l true) w' :=
  (Work_yes h.lg 0 (by omega) n hn hc).mono (fun r w' ⟨e, h1, h2⟩ => ⟨e, h1, h.le, li.grown_new h.grown h2 h.le⟩)
theorem Av.nowork (h : Av w g R l W) (n : Nat) (hn : n ≤ 2) (hc : ¬ cnt (beh 4 n l true) ≤ 2) : Calls Try.prog 10 #[.pointer (some ⟨g, 0, none⟩), .int .i64 0, .int .i64 (n : Int)] W fun r w' => r = .returned (.bool false) ∧ Av w g R l w' := by
  have A := Admit_in h.lg 0 (by omega) n hn
  have e : decide (cnt (beh 4 n ([l].getD 0 []) true) ≤ 2) = false := decide_eq_false hc
  rw [e] at A
  exact (Work_no A).mono (fun r w' ⟨e, h1⟩ => ⟨e, h.new h1⟩)
theorem Av.count (h : Av w g R l W) : Calls Try.prog 12 #[.pointer (some ⟨g, 0, none⟩), .int .i64 0] W fun r w' => r = .returned (.int .i64 (cnt l : Int)) ∧ Av w g R l w' :=
  (Count_any h.lg 0 (by omega)).mono (fun r w' ⟨e, h1⟩ => ⟨e, h.new h1⟩)
theorem Av.last (h : Av w g R l W) : Calls Try.prog 13 #[.pointer (some ⟨g, 0, none⟩), .int .i64 0] W fun r w' => (∃ A N c, r = .returned (.slice A N c) ∧ N = l.length) ∧ Av w g R l w' :=
  (Last_any h.lg 0 (by omega)).mono (fun r w' ⟨A, N, c, e, h1, _, h3⟩ => ⟨⟨A, N, c, e, h1⟩, h.new h3⟩)
theorem Av.noadmit (h : Av w g R l W) : Calls Try.prog 14 #[.pointer (some ⟨g, 0, none⟩), .int .i64 0, .int .i64 3] W fun r w' => r = .returned (.bool false) ∧ Av w g R l w' :=
  (Admit_no h.lg 0 (by omega) 3 (.inr (by decide))).mono (fun r w' ⟨e, h1⟩ => ⟨e, h.new h1⟩)
end
theorem alive_any (w : World) : Calls Try.prog 4 #[] w fun r w' => r = .returned (.bool true) ∧ w.grownBy w' none := by
  have N0 := Lib.hid (av_new w)
  have C1 := Lib.hid (fun W g R (h : Av w g R [] W) => (show Calls Try.prog 10 #[.pointer (some ⟨g, 0, none⟩), .int .i64 0, .int .i64 2] W (fun r w' => r = .returned (.bool true) ∧ Av w g R [true, true] w') from h.work 2 (by omega) (by decide)))
  have C2 := Lib.hid (fun W g R (h : Av w g R [true, true] W) => (show Calls Try.prog 8 #[.pointer (some ⟨g, 0, none⟩), .int .i64 0, .int .i64 1] W (fun r w' => r = .returned (.bool true) ∧ Av w g R [true, true, false] w') from h.run 1 (by omega)))
  have C3 := Lib.hid (fun W g R (h : Av w g R [true, true, false] W) => (show Calls Try.prog 10 #[.pointer (some ⟨g, 0, none⟩), .int .i64 0, .int .i64 1] W (fun r w' => r = .returned (.bool false) ∧ Av w g R [true, true, false] w') from h.nowork 1 (by omega) (by decide)))
  have C4 := Lib.hid (fun W g R (h : Av w g R [true, true, false] W) => (show Calls Try.prog 8 #[.pointer (some ⟨g, 0, none⟩), .int .i64 0, .int .i64 1] W (fun r w' => r = .returned (.bool true) ∧ Av w g R [true, true, false, false] w') from h.run 1 (by omega)))
  have C5 := Lib.hid (fun W g R (h : Av w g R [true, true, false, false] W) => (show Calls Try.prog 10 #[.pointer (some ⟨g, 0, none⟩), .int .i64 0, .int .i64 1] W (fun r w' => r = .returned (.bool true) ∧ Av w g R [true, false, false, true] w') from h.work 1 (by omega) (by decide)))
  have C6 := Lib.hid (fun W g R (h : Av w g R [true, false, false, true] W) => (show Calls Try.prog 12 #[.pointer (some ⟨g, 0, none⟩), .int .i64 0] W (fun r w' => r = .returned (.int .i64 2) ∧ Av w g R [true, false, false, true] w') from h.count))
  have C7 := Lib.hid (fun W g R (h : Av w g R [true, false, false, true] W) => (show Calls Try.prog 13 #[.pointer (some ⟨g, 0, none⟩), .int .i64 0] W (fun r w' => (∃ A N c, r = .returned (.slice A N c) ∧ N = 4) ∧ Av w g R [true, false, false, true] w') from h.last))
  have C8 := Lib.hid (fun W g R (h : Av w g R [true, false, false, true] W) => h.noadmit)
  go_enter Try.func4, Try.ntmps4
  go_wp2_with (first
    | (have mark := S7; go_at_call 14; (with_reducible refine (C8.out _ _ _ S7.out).mono ?_); rintro r w8 ⟨rfl, hs⟩; have S8 := Lib.hid hs; clear hs)
    | (have mark := S6; go_at_call 13; (with_reducible refine (C7.out _ _ _ S6.out).mono ?_); rintro r w7 ⟨⟨A7, N7, c7, rfl, rfl⟩, hs⟩; have S7 := Lib.hid hs; clear hs)
    | (have mark := S5; go_at_call 12; (with_reducible refine (C6.out _ _ _ S5.out).mono ?_); rintro r w6 ⟨rfl, hs⟩; have S6 := Lib.hid hs; clear hs)
    | (have mark := S4; go_at_call 10; (with_reducible refine (C5.out _ _ _ S4.out).mono ?_); rintro r w5 ⟨rfl, hs⟩; have S5 := Lib.hid hs; clear hs)
    | (have mark := S3; go_at_call 8; (with_reducible refine (C4.out _ _ _ S3.out).mono ?_); rintro r w4 ⟨rfl, hs⟩; have S4 := Lib.hid hs; clear hs)
    | (have mark := S2; go_at_call 10; (with_reducible refine (C3.out _ _ _ S2.out).mono ?_); rintro r w3 ⟨rfl, hs⟩; have S3 := Lib.hid hs; clear hs)
    | (have mark := S1; go_at_call 8; (with_reducible refine (C2.out _ _ _ S1.out).mono ?_); rintro r w2 ⟨rfl, hs⟩; have S2 := Lib.hid hs; clear hs)
    | (have mark := S0; go_at_call 10; (with_reducible refine (C1.out _ _ _ S0.out).mono ?_); rintro r w1 ⟨rfl, hs⟩; have S1 := Lib.hid hs; clear hs)
    | (go_at_call 6; (with_reducible refine N0.out.mono ?_); rintro r w0 ⟨g, R, rfl, hs⟩; have S0 := Lib.hid hs; clear hs))
  go_ret
  exact ⟨rfl, S8.out.grown⟩
end Go.Proofs.Ytgfgchmpdocihaa.lg
