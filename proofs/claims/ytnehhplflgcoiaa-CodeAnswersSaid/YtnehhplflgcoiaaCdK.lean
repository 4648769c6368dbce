/- Layer 24: what the statements ask ahead (alive). -/
import Derived.Test.YtnehhplflgcoiaaCdJ
namespace Go.Proofs.Ytnehhplflgcoiaa.cd
open Go.ChangeShapes Go.WideShapes Go.ChangeAt Go.RowKit gen yb
set_option linter.unusedVariables false
set_option maxHeartbeats 1000000
set_option maxRecDepth 100000

def lit14 : List UInt8 := [4, 2, 0, 0, 0, 0, 255, 255, 255, 255, 255, 255, 255, 254]
theorem Put17 (w : World) : Calls Try.prog 8 #[.agg #[.int .i64 17, .int .i64 0, .int .i64 0, .int .i64 0, .int .i64 0, .int .i64 0, .int .i64 0]] w
    fun e w' => ∃ g, e = .returned (.tuple #[.slice (some ⟨g, 0, none⟩) 14 14, .int .i64 0]) ∧ w.heap.size ≤ g ∧ w'.cell? ⟨g, 0, none⟩ = some (.int .u8 17) ∧ w.grownBy w' none := by
  refine (Put_yes (k := 17) (t := 0) (i := 0) (f := 0) (j := 0) (c := 0) (n := 0) w (by decide) (by omega)).mono ?_
  rintro e w' ⟨g, rfl, h1, h2, h3⟩
  exact ⟨g, rfl, h1, h2.at_ (i := 0) (by rw [octs_length _ rfl]; omega), h3⟩
theorem Read14 {w : World} {g : Nat} (h : Hw w g lit14) : Calls Try.prog 11 #[.slice (some ⟨g, 0, none⟩) 14 14] w
    fun e w' => e = .returned (.tuple #[.agg #[.int .i64 4, .int .i64 2, .int .i64 0, .int .i64 0, .int .i64 0, .int .i64 0, .int .i64 (-2)], .int .i64 0]) ∧ w.grownBy w' none := by
  refine (Read_yes (h.ry rfl (by unfold maxLen; omega)) (by decide)).mono ?_
  rintro e w' ⟨rfl, h1⟩
  exact ⟨rfl, h1⟩
theorem TellT (w : World) : Calls Try.prog 13 #[.agg #[.int .i64 10, .int .i64 0, .int .i64 0, .int .i64 258, .int .i64 0]] w (TellAns 10 0 0 258 0 w) :=
  Tell_yes w (by decide) (by decide) (by decide) (by decide) (by omega)
theorem ToldT {w : World} {g : Nat} (h : Hw w g (anss 10 0 0 258 0)) : Calls Try.prog 14 #[.slice (some ⟨g, 0, none⟩) 14 14] w
    fun e w' => e = .returned (.tuple #[.agg #[.int .i64 10, .int .i64 0, .int .i64 0, .int .i64 258, .int .i64 0], .int .i64 0]) ∧ w.grownBy w' none := by
  refine (Told_yes (h.ry (anss_length _ _ _ _ _) (by unfold maxLen; omega))).mono ?_
  rintro e w' ⟨rfl, h1⟩
  obtain ⟨e0, e1, e2, e3, e4⟩ := nv_anss (c := 10) (k := 0) (n := 0) (d := 258) (r := 0) (by decide) (by decide) (by decide) (by decide) (by omega)
  rw [e0, e1, e2, e3, e4]
  exact ⟨rfl, h1⟩
theorem alive_any (w : World) : Calls Try.prog 6 #[] w fun e w' => e = .returned (.bool true) ∧ w.grownBy w' none := by
  have CK := Lib.hid (fun w => Check_as (k := 0) (t := 0) (i := 0) (f := 0) (j := 0) (c := 0) (n := 0) (z := 12) w (by decide))
  have E14 := Lib.hid (fun w : World => (show Hw (w.alloc (.cells #[.int .u8 4, .int .u8 2, .int .u8 0, .int .u8 0, .int .u8 0, .int .u8 0, .int .u8 255, .int .u8 255, .int .u8 255, .int .u8 255, .int .u8 255, .int .u8 255, .int .u8 255, .int .u8 254] 5)) w.heap.size lit14 from Hw.made w lit14))
  have S3 := Lib.hid (fun w : World => Sv.new w 23 4 2 0 0 0 0 (-2))
  have S7 := Lib.hid (fun w : World => Av.new w 38 10 0 0 258 0)
  go_enter Try.func6, Try.ntmps6
  go_wp2_with (first
    | (go_at_call 8; (with_reducible refine (Put17 _).mono ?_); rintro e w1 ⟨g1, rfl, hs1, hc1, hg1⟩; have C1 := Lib.hid hc1; have G1 := Lib.hid hg1; clear hc1 hg1 hs1)
    | (go_at_call 11; (with_reducible refine (Read14 (E14.out _)).mono ?_); rintro e w2 ⟨rfl, hg2⟩; have GA2 := Lib.hid (((grown_alloc _ _).trans hg2).trans (grown_alloc w2 (.cells #[.int .i64 4, .int .i64 2, .int .i64 0, .int .i64 0, .int .i64 0, .int .i64 0, .int .i64 (-2)] 23))); have V2 := Lib.hid (S3.out w2); have G2 := Lib.hid (G1.out.trans GA2.out); clear hg2)
    | (go_at_call 13; (with_reducible refine (TellT _).mono ?_); rintro e w3 ⟨g3, rfl, hs3, hh3, hg3⟩; have H3 := Lib.hid hh3; have V3 := Lib.hid (V2.out.made hg3); have GA3 := Lib.hid (GA2.out.trans hg3); have G3 := Lib.hid (G2.out.trans hg3); clear hh3 hg3 hs3)
    | (go_at_call 14; (with_reducible refine (ToldT H3.out).mono ?_); rintro e w4 ⟨rfl, hg4⟩; have hga := hg4.trans (grown_alloc w4 (.cells #[.int .i64 10, .int .i64 0, .int .i64 0, .int .i64 258, .int .i64 0] 38)); have V4 := Lib.hid (V3.out.made hga); have C4 := Lib.hid ((GA3.out.trans hga).cell C1.out (by simp)); have H4 := Lib.hid (H3.out.new hga); have A4 := Lib.hid (S7.out w4); have G4 := Lib.hid (G3.out.trans hga); clear hg4 hga; have x1 := C4.out; obtain ⟨s0, s1, s2, s3, s4, s5, s6⟩ := V4.out; obtain ⟨a0, a1, a2, a3, a4⟩ := A4.out; have y10 := H4.out.at_ (i := 10) (by rw [anss_length]; omega); have y11 := H4.out.at_ (i := 11) (by rw [anss_length]; omega); rw [show u8 ((anss 10 0 0 258 0).getD 10 0) = .int .u8 1 from rfl] at y10; rw [show u8 ((anss 10 0 0 258 0).getD 11 0) = .int .u8 2 from rfl] at y11)
    | (go_at_call 9; (with_reducible refine (CK.out _).mono ?_); rintro e w5 ⟨rfl, hg5⟩; have G5 := Lib.hid (G4.out.trans hg5); clear hg5))
  go_ret
  exact ⟨rfl, G5.out⟩
end Go.Proofs.Ytnehhplflgcoiaa.cd
