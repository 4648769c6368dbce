/- Layer 24: the step of octets, by the statements' own function and by the program's. -/
import Derived.Test.YtnehhplflgcoiaaCdF
import Derived.BigRegion
namespace Go.Proofs.Ytnehhplflgcoiaa.cd
open Go.ChangeShapes Go.WideShapes Go.ChangeAt Go.RowKit gen yb
set_option linter.unusedVariables false
set_option maxHeartbeats 1000000
set_option maxRecDepth 100000

/-- An octet as a number. -/
def oc (m : List UInt8) (j : Nat) : Int := ((m.getD j 0).toNat : Int)
theorem oc_bd (m : List UInt8) (j : Nat) : 0 ≤ oc m j ∧ oc m j ≤ 255 := by
  have := (m.getD j 0).toNat_lt
  unfold oc
  omega
theorem oc_wrap (m : List UInt8) (j : Nat) : wrap64 (oc m j) = oc m j := by
  have := oc_bd m j
  unfold wrap64
  omega
theorem take_snoc {m : List UInt8} {p : Nat} (hp : p < m.length) : m.take (p + 1) = m.take p ++ [m.getD p 0] := by
  rw [List.take_succ_eq_append_getElem hp, List.getD_eq_getElem?_getD, List.getElem?_eq_getElem hp]
  rfl
/-- Fourteen octets' cells. -/
theorem cells14 {w : World} {b off c : Nat} {m : List UInt8} (h : Ry w (some ⟨b, off, none⟩) 14 c m) {j : Nat} (hj : j < 14) : w.cell? ⟨b, off + j, none⟩ = some (.int .u8 (oc m j)) := by
  obtain ⟨b', off', e, c1⟩ := h.at_ hj
  injection e with e
  injection e with e1 e2 e3
  subst e1 e2
  exact c1
theorem wrap64_eq (n : Int) : wrap64 n = IntKind.i64.wrap n := by
  rw [IntKind.wrap_i64]
  unfold wrap64
  omega
theorem set7 (w : World) (g : Nat) (v0 v1 v2 v3 v4 v5 v6 : Value) : w.grownBy (((((((w.setCell ⟨g, 0, none⟩ v0).setCell ⟨g, 1, none⟩ v1).setCell ⟨g, 2, none⟩ v2).setCell ⟨g, 3, none⟩ v3).setCell ⟨g, 4, none⟩ v4).setCell ⟨g, 5, none⟩ v5).setCell ⟨g, 6, none⟩ v6).drew (some g) :=
  (((((((gr.grown_set _ _ _ _).trans (gr.grown_set _ _ _ _)).trans (gr.grown_set _ _ _ _)).trans (gr.grown_set _ _ _ _)).trans (gr.grown_set _ _ _ _)).trans (gr.grown_set _ _ _ _)).trans (gr.grown_set _ _ _ _)).trans (gr.grown_drew _ _)
theorem step_any {w : World} {b off c : Nat} {m : List UInt8} (h : Ry w (some ⟨b, off, none⟩) 14 c m) : Calls Try.prog 12 #[.slice (some ⟨b, off, none⟩) 14 c] w
    fun e w' => e = .returned (.agg #[.int .i64 (oc m 0), .int .i64 (oc m 1), .int .i64 (oc m 2), .int .i64 (oc m 3), .int .i64 (oc m 4), .int .i64 (oc m 5), .int .i64 (IntKind.i64.wrap (val (m.drop 6) : Int))]) ∧ w.grownBy w' none := by
  obtain ⟨w1, hw1⟩ : ∃ w1, w1 = w.alloc (.cells #[.int .i64 0, .int .i64 0, .int .i64 0, .int .i64 0, .int .i64 0, .int .i64 0, .int .i64 0] 23) := ⟨_, rfl⟩
  have G1 := Lib.hid (show w.grownBy w1 none by rw [hw1]; exact grown_alloc _ _)
  have R1 := Lib.hid (h.made (grown_alloc w (.cells #[.int .i64 0, .int .i64 0, .int .i64 0, .int .i64 0, .int .i64 0, .int .i64 0, .int .i64 0] 23)))
  rw [← hw1] at R1
  have S1 := Lib.hid (show Sv w1 w.heap.size 0 0 0 0 0 0 0 by rw [hw1]; exact Sv.new _ _ _ _ _ _ _ _ _)
  have F1 := Lib.hid (show ∀ j, w1.frozen? ⟨w.heap.size, j, none⟩ = false by rw [hw1]; intro j; simp [go_sem])
  have HW := Lib.hid hw1
  have HL := Lib.hid h.1
  have HC := Lib.hid h.2.1
  clear h hw1
  go_enter Try.func12, Try.ntmps12
  go_wp2
  go_loopw [3, 4] (fun v x wr => ∃ p : Nat, p ≤ 8 ∧ v = .int .u64 (val ((m.drop 6).take p) : Int) ∧ x = .int .i64 ((6 + p : Nat) : Int) ∧ wr = w1) (fun _ v _ => 14 - (intOf v).toNat)
  case atStart => exact ⟨0, by omega, rfl, rfl, HW.out.symm⟩
  case round =>
    obtain ⟨p, hp, rfl, rfl, hw⟩ := hrel
    subst hw
    by_cases hlt : p < 8
    · have hc := cells14 R1.out (j := 6 + p) (by omega)
      have T := Lib.hid (take_snoc (m := m.drop 6) (p := p) (by rw [List.length_drop, HL.out]; omega))
      have V := Lib.hid (val_snoc ((m.drop 6).take p) ((m.drop 6).getD p 0))
      have VL := val_lt ((m.drop 6).take p)
      have h2 : 256 ^ ((m.drop 6).take p).length ≤ 256 ^ 7 := Nat.pow_le_pow_right (by omega) (by rw [List.length_take]; omega)
      have hv : val ((m.drop 6).take p) < 72057594037927936 := Nat.lt_of_lt_of_le VL (Nat.le_trans h2 (by decide))
      have hb := ((m.drop 6).getD p 0).toNat_lt
      have e0 : oc m (6 + p) = (((m.drop 6).getD p 0).toNat : Int) := by simp [oc, List.getD_eq_getElem?_getD]
      rw [e0] at hc
      generalize (m.drop 6).getD p 0 = y at hc T V hb
      generalize val ((m.drop 6).take p) = x at V hv ⊢
      obtain ⟨z, hz⟩ : ∃ z : Int, (y.toNat : Int) = z := ⟨_, rfl⟩
      have z0 : 0 ≤ z ∧ z ≤ 255 := by omega
      rw [hz] at hc
      have V2 := Lib.hid (show ((val ((m.drop 6).take (p + 1)) : Nat) : Int) = (x : Int) * 256 + z by rw [T.out, V.out]; omega)
      clear VL h2 e0 hb hz
      have x0 : (0 : Int) ≤ (x : Int) := by omega
      have x1 : (x : Int) < 72057594037927936 := by omega
      have w1' : IntKind.u64.wrap ((x : Int) * 256) = (x : Int) * 256 := by rw [IntKind.wrap_u64]; omega
      have w2' : IntKind.u64.wrap ((x : Int) * 256 + z) = (x : Int) * 256 + z := by rw [IntKind.wrap_u64]; omega
      have w3' : IntKind.u64.wrap z = z := by rw [IntKind.wrap_u64]; omega
      clear hv x0 x1
      go_wp2
      go_roundw
      case rel => exact ⟨p + 1, by omega, by rw [V2.out], by go_num, trivial⟩
      case measure => simp [intOf]; omega
    · have hge : ¬ ((6 + p : Nat) : Int) < 14 := by omega
      have T := Lib.hid (show (m.drop 6).take p = m.drop 6 from List.take_of_length_le (by rw [List.length_drop, HL.out]; omega))
      rw [T.out]
      have d0 := cells14 R1.out (j := 0) (by omega)
      have d1 := cells14 R1.out (j := 1) (by omega)
      have d2 := cells14 R1.out (j := 2) (by omega)
      have d3 := cells14 R1.out (j := 3) (by omega)
      have d4 := cells14 R1.out (j := 4) (by omega)
      have d5 := cells14 R1.out (j := 5) (by omega)
      rw [Nat.add_zero] at d0
      have q0 := oc_wrap m 0
      have q1 := oc_wrap m 1
      have q2 := oc_wrap m 2
      have q3 := oc_wrap m 3
      have q4 := oc_wrap m 4
      have q5 := oc_wrap m 5
      obtain ⟨s0, s1, s2, s3, s4, s5, s6⟩ := S1.out
      have f0 := F1.out 0
      have f1 := F1.out 1
      have f2 := F1.out 2
      have f3 := F1.out 3
      have f4 := F1.out 4
      have f5 := F1.out 5
      have f6 := F1.out 6
      go_wp2
      go_region
      go_wp2
      exact bodyPost_ret (v := .agg #[.int .i64 (oc m 0), .int .i64 (oc m 1), .int .i64 (oc m 2), .int .i64 (oc m 3), .int .i64 (oc m 4), .int .i64 (oc m 5), .int .i64 (IntKind.i64.wrap (val (m.drop 6) : Int))]) (by simp [results, Try.results12, go_sem, s0, s1, s2, s3, s4, s5, s6, wrap64_eq]) rfl ⟨rfl, li.grown_new G1.out (set7 _ _ _ _ _ _ _ _ _) (Nat.le_refl _)⟩
end Go.Proofs.Ytnehhplflgcoiaa.cd
