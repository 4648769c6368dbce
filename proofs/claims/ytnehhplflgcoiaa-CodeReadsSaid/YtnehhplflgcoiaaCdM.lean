/- Layer 24: the walk of the statement on any octets as a step's. -/
import Derived.Test.YtnehhplflgcoiaaCdK
namespace Go.Proofs.Ytnehhplflgcoiaa.cd
open Go.ChangeShapes Go.WideShapes Go.ChangeAt Go.RowKit gen yb
set_option linter.unusedVariables false
set_option maxHeartbeats 1000000
set_option maxRecDepth 100000

theorem hw_str2 {w : World} {g : Nat} {m : List UInt8} (h : Hw w g m) (hm : m.length = 14) : (convert 26 9 (.slice (some ⟨g, 0, none⟩) 14 14)).run Try.prog w = .ok (.string ⟨m.toArray⟩) w :=
  (h.ry hm (by unfold maxLen; omega)).str (by omega)
theorem reads_len {w : World} {A : Option Addr} {n c : Nat} (hn : ¬ n = 14) : Calls Try.prog 4 #[.slice A n c] w fun e w' => e = .returned (.bool true) ∧ w.grownBy w' none := by
  have h1 : ((n : Int) == 14) = false := by simp; omega
  have h2 : ((n : Int) != 14) = true := by simp; omega
  have S0 := Lib.hid (fun w : World => Sv.new w 23 0 0 0 0 0 0 0)
  go_enter Try.func4, Try.ntmps4
  go_wp2_with (first
    | (go_at_call 6; (with_reducible refine (alive_any _).mono ?_); rintro e w1 ⟨rfl, hg⟩; have G1 := Lib.hid hg; clear hg)
    | (go_at_call 11; (with_reducible refine (Read_len hn).mono ?_); rintro e w2 ⟨rfl, hg⟩; have G2 := Lib.hid ((G1.out.trans hg).trans (grown_alloc w2 (.cells #[.int .i64 0, .int .i64 0, .int .i64 0, .int .i64 0, .int .i64 0, .int .i64 0, .int .i64 0] 23))); obtain ⟨c0, c1, c2, c3, c4, c5, c6⟩ := S0.out w2; clear hg))
  go_ret
  exact ⟨rfl, G2.out⟩
section
variable {w : World} {b off c : Nat} {m : List UInt8} (h : Ry w (some ⟨b, off, none⟩) 14 c m)
include h
theorem reads_no {z : Int} (hz : chk (oc m 0) [oc m 0, oc m 1, oc m 2, oc m 3, oc m 4, oc m 5] (IntKind.i64.wrap (val (m.drop 6) : Int)) = z) (h0 : (z != 0) = true) : Calls Try.prog 4 #[.slice (some ⟨b, off, none⟩) 14 c] w fun e w' => e = .returned (.bool true) ∧ w.grownBy w' none := by
  have S0 := Lib.hid (fun w : World => Sv.new w 23 0 0 0 0 0 0 0)
  have RD := Lib.hid (fun W (hg : w.grownBy W none) => Read_no (h.made hg) hz h0)
  have ST := Lib.hid (fun W (hg : w.grownBy W none) => step_any (h.made hg))
  generalize IntKind.i64.wrap (val (m.drop 6) : Int) = nn at hz RD ST
  have RK := Lib.hid (fun w => rCheck_as w hz)
  have SW := Lib.hid (fun w : World => Sv.new w 23 (oc m 0) (oc m 1) (oc m 2) (oc m 3) (oc m 4) (oc m 5) nn)
  clear h hz
  go_enter Try.func4, Try.ntmps4
  go_wp2_with (first
    | (go_at_call 6; (with_reducible refine (alive_any _).mono ?_); rintro e w1 ⟨rfl, hg⟩; have G1 := Lib.hid hg; clear hg)
    | (go_at_call 11; (with_reducible refine (RD.out _ G1.out).mono ?_); rintro e w2 ⟨rfl, hg⟩; have G2 := Lib.hid ((G1.out.trans hg).trans (grown_alloc w2 (.cells #[.int .i64 0, .int .i64 0, .int .i64 0, .int .i64 0, .int .i64 0, .int .i64 0, .int .i64 0] 23))); have V2 := Lib.hid (S0.out w2); clear hg)
    | (go_at_call 12; (with_reducible refine (ST.out _ G2.out).mono ?_); rintro e w3 ⟨rfl, hg⟩; have hga := hg.trans (grown_alloc w3 (.cells #[.int .i64 (oc m 0), .int .i64 (oc m 1), .int .i64 (oc m 2), .int .i64 (oc m 3), .int .i64 (oc m 4), .int .i64 (oc m 5), .int .i64 nn] 23)); have G3 := Lib.hid (G2.out.trans hga); have V3 := Lib.hid (V2.out.made hga); have X3 := Lib.hid (SW.out w3); obtain ⟨x0, x1, x2, x3, x4, x5, x6⟩ := X3.out; clear hg hga)
    | (go_at_call 7; (with_reducible refine (RK.out _).mono ?_); rintro e w4 ⟨rfl, hg⟩; have G4 := Lib.hid (G3.out.trans hg); have V4 := Lib.hid (V3.out.made hg); obtain ⟨c0, c1, c2, c3, c4, c5, c6⟩ := V4.out; clear hg))
  go_ret
  exact ⟨rfl, G4.out⟩
theorem reads_yes (hz : chk (oc m 0) [oc m 0, oc m 1, oc m 2, oc m 3, oc m 4, oc m 5] (IntKind.i64.wrap (val (m.drop 6) : Int)) = 0) : Calls Try.prog 4 #[.slice (some ⟨b, off, none⟩) 14 c] w fun e w' => e = .returned (.bool true) ∧ w.grownBy w' none := by
  have RD := Lib.hid (fun W (hg : w.grownBy W none) => Read_yes (h.made hg) hz)
  have ST := Lib.hid (fun W (hg : w.grownBy W none) => step_any (h.made hg))
  have OC := Lib.hid (octs_oc h.1)
  have BD := Lib.hid (wrap_bd (val (m.drop 6) : Int))
  have HL := Lib.hid h.1
  have HH := Lib.hid h
  generalize IntKind.i64.wrap (val (m.drop 6) : Int) = nn at hz RD ST OC BD
  have RK := Lib.hid (fun w => rCheck_as w hz)
  have PK := Lib.hid (fun w => Put_yes w hz BD.out)
  have SW := Lib.hid (fun w : World => Sv.new w 23 (oc m 0) (oc m 1) (oc m 2) (oc m 3) (oc m 4) (oc m 5) nn)
  obtain ⟨sx, hsx⟩ : ∃ sx : ByteArray, ByteArray.mk m.toArray = sx := ⟨_, rfl⟩
  have SX := Lib.hid hsx
  clear h hz hsx
  go_enter Try.func4, Try.ntmps4
  go_wp2_with (first
    | (go_at_call 6; (with_reducible refine (alive_any _).mono ?_); rintro e w1 ⟨rfl, hg⟩; have G1 := Lib.hid hg; clear hg)
    | (go_at_call 11; (with_reducible refine (RD.out _ G1.out).mono ?_); rintro e w2 ⟨rfl, hg⟩; have G2 := Lib.hid ((G1.out.trans hg).trans (grown_alloc w2 (.cells #[.int .i64 (oc m 0), .int .i64 (oc m 1), .int .i64 (oc m 2), .int .i64 (oc m 3), .int .i64 (oc m 4), .int .i64 (oc m 5), .int .i64 nn] 23))); have V2 := Lib.hid (SW.out w2); clear hg)
    | (go_at_call 12; (with_reducible refine (ST.out _ G2.out).mono ?_); rintro e w3 ⟨rfl, hg⟩; have hga := hg.trans (grown_alloc w3 (.cells #[.int .i64 (oc m 0), .int .i64 (oc m 1), .int .i64 (oc m 2), .int .i64 (oc m 3), .int .i64 (oc m 4), .int .i64 (oc m 5), .int .i64 nn] 23)); have G3 := Lib.hid (G2.out.trans hga); have V3 := Lib.hid (V2.out.made hga); have X3 := Lib.hid (SW.out w3); obtain ⟨x0, x1, x2, x3, x4, x5, x6⟩ := X3.out; clear hg hga)
    | (go_at_call 7; (with_reducible refine (RK.out _).mono ?_); rintro e w4 ⟨rfl, hg⟩; have G4 := Lib.hid (G3.out.trans hg); have V4 := Lib.hid (V3.out.made hg); have X4 := Lib.hid (X3.out.made hg); obtain ⟨c0, c1, c2, c3, c4, c5, c6⟩ := V4.out; clear hg x0 x1 x2 x3 x4 x5 x6)
    | (go_at_call 8; (with_reducible refine (PK.out _).mono ?_); rintro e w5 ⟨g, rfl, hgb, hh, hg⟩; rw [OC.out] at hh; have G5 := Lib.hid (G4.out.trans hg); have e1 := hw_str2 hh HL.out; have e2 := (HH.out.made G5.out).str (by omega); rw [SX.out] at e1 e2; clear c0 c1 c2 c3 c4 c5 c6; have V5 := Lib.hid (V4.out.made hg); have X5 := Lib.hid (X4.out.made hg); obtain ⟨c0, c1, c2, c3, c4, c5, c6⟩ := V5.out; obtain ⟨x0, x1, x2, x3, x4, x5, x6⟩ := X5.out; clear hg hh hgb))
  go_ret
  exact ⟨rfl, G5.out⟩
end
theorem reads_any {w : World} {A : Option Addr} {n c : Nat} {m : List UInt8} (h : Ry w A n c m) : Calls Try.prog 4 #[.slice A n c] w fun e w' => e = .returned (.bool true) ∧ w.grownBy w' none := by
  by_cases hn : n = 14
  · subst hn
    obtain ⟨b, off, rfl, _⟩ := h.at_ (i := 0) (by omega)
    by_cases hz : chk (oc m 0) [oc m 0, oc m 1, oc m 2, oc m 3, oc m 4, oc m 5] (IntKind.i64.wrap (val (m.drop 6) : Int)) = 0
    · exact reads_yes h hz
    · exact reads_no h rfl (by simpa using hz)
  · exact reads_len hn
end Go.Proofs.Ytnehhplflgcoiaa.cd
