/- What the first lines of each statement of layer 2 come to: a config of usual size. -/
import Derived.Test.YtdplkodaccjgaaaDoorCfG
namespace Go.Proofs.YtdplkodaccjgaaaDoor.cf
open Go.ChangeShapes Go.WideShapes Go.ChangeAt Go.RowKit
set_option linter.unusedVariables false

theorem octs_cons (n : Int) (l : List Int) : octs (n :: l) = n / 256 :: n % 256 :: octs l := by simp [octs]
theorem octs_at (l : List Int) : ∀ k, k < l.length → (octs l).getD (2 * k) 0 = l.getD k 0 / 256 ∧ (octs l).getD (2 * k + 1) 0 = l.getD k 0 % 256 := by
  induction l with
  | nil => intro k hk; simp at hk
  | cons x l ih =>
    intro k hk
    rw [octs_cons]
    cases k with
    | zero => exact ⟨rfl, rfl⟩
    | succ k => exact ih k (by simpa using hk)
theorem num_octs {l : List Int} {k : Nat} (hk : k < l.length) : num (octs l) k = l.getD k 0 := by
  obtain ⟨h1, h2⟩ := octs_at l k hk
  unfold num
  rw [h1, h2]
  omega
theorem octs_bd {l : List Int} (hl : l.length = 10) (h : ∀ j, j < 10 → 0 ≤ l.getD j 0 ∧ l.getD j 0 ≤ 65535) (i : Nat) (hi : i < 20) : 0 ≤ (octs l).getD i 0 ∧ (octs l).getD i 0 ≤ 255 := by
  obtain ⟨h1, h2⟩ := octs_at l (i / 2) (by omega)
  have := h (i / 2) (by omega)
  have e : i = 2 * (i / 2) ∨ i = 2 * (i / 2) + 1 := by omega
  rcases e with e | e
  · rw [e, h1]; omega
  · rw [e, h2]; omega
theorem Bytes.of_row {l : List Int} {w : World} {base g cap : Nat} (hl : l.length = 10) (h : ∀ j, j < 10 → 0 ≤ l.getD j 0 ∧ l.getD j 0 ≤ 65535) (ho : w.ownsRow base 5 1 (.slice (some ⟨g, 0, none⟩) 20 cap) 20 (octsV l)) : Bytes (octs l) g 0 w := by
  have at_ : ∀ i, i < 20 → w.cell? ⟨g, 0 + i, none⟩ = some (.int .u8 ((octs l).getD i 0)) := by
    intro i hi
    have := ho.cellAt i (by omega)
    rw [Nat.zero_add, this]
    have hlen : i < (octs l).length := by rw [octs_length, hl]; omega
    unfold octsV
    simp [hlen]
  exact ⟨World.block_lt_of_cell? w _ (at_ 0 (by omega)), fun i hi => ⟨at_ i hi, octs_bd hl h i hi⟩⟩
theorem Octs.cap {w : World} {base g cap : Nat} {xs : List Value} (ho : w.ownsRow base 5 1 (.slice (some ⟨g, 0, none⟩) 20 cap) 20 xs) : 20 ≤ cap := by
  obtain ⟨_, h⟩ := ho
  rcases h with ⟨h, _⟩ | ⟨g', cap', cur, hv, hg, hh, h1, h2, h3, h4⟩
  · cases h
  · cases hv; exact h1
theorem small_all {l : List Int} (h : wrongN l = 0) : ∀ j, j < 10 → 0 ≤ l.getD j 0 ∧ l.getD j 0 ≤ 65535 := fun j hj => small (wrong_zero h).1 hj
theorem usual_zero : wrongN [16, 4, 20, 4, 700, 100, 4, 4, 16, 4] = 0 := by decide
theorem zeros_one : wrongN [0, 0, 0, 0, 0, 0, 0, 0, 0, 0] = 1 := by decide
/-- The numbers that the octets of ten make are the ten. -/
theorem nums_octs {a0 a1 a2 a3 a4 a5 a6 a7 a8 a9 : Int} : nums (octs [a0, a1, a2, a3, a4, a5, a6, a7, a8, a9]) = [a0, a1, a2, a3, a4, a5, a6, a7, a8, a9] := by
  unfold nums
  rw [num_octs (k := 0) (by simp), num_octs (k := 1) (by simp), num_octs (k := 2) (by simp), num_octs (k := 3) (by simp), num_octs (k := 4) (by simp), num_octs (k := 5) (by simp), num_octs (k := 6) (by simp), num_octs (k := 7) (by simp), num_octs (k := 8) (by simp), num_octs (k := 9) (by simp)]
  rfl
section
set_option maxHeartbeats 4000000
/-- What the octets of a config read as: the config. -/
theorem Read_back (a0 a1 a2 a3 a4 a5 a6 a7 a8 a9 : Int) (g cap base : Nat) (w : World) (hT : Table w) (hn : wrongN [a0, a1, a2, a3, a4, a5, a6, a7, a8, a9] = 0)
    (ho : w.ownsRow base 5 1 (.slice (some ⟨g, 0, none⟩) 20 cap) 20 (octsV [a0, a1, a2, a3, a4, a5, a6, a7, a8, a9])) :
    Calls Tryd.prog 15 #[.slice (some ⟨g, 0, none⟩) 20 cap] w
    fun e w' => e = .returned (.tuple #[.agg #[.int .i64 a0, .int .i64 a1, .int .i64 a2, .int .i64 a3, .int .i64 a4, .int .i64 a5, .int .i64 a6, .int .i64 a7, .int .i64 a8, .int .i64 a9], .int .i64 0]) ∧ Below w.heap.size w w' := by
  have h := Read_yes (octs [a0, a1, a2, a3, a4, a5, a6, a7, a8, a9]) g 0 cap w (Octs.cap ho) (Bytes.of_row rfl (small_all hn) ho) hT (by rw [nums_octs, hn])
  rw [num_octs (k := 0) (by simp), num_octs (k := 1) (by simp), num_octs (k := 2) (by simp), num_octs (k := 3) (by simp), num_octs (k := 4) (by simp), num_octs (k := 5) (by simp), num_octs (k := 6) (by simp), num_octs (k := 7) (by simp), num_octs (k := 8) (by simp), num_octs (k := 9) (by simp)] at h
  exact h
theorem alive_any (w : World) (hT : Table w) : Calls Tryd.prog 7 #[] w fun e w' => e = .returned (.bool true) ∧ Below w.heap.size w w' := by
  have HT := Lib.hid hT
  clear hT
  go_enter Tryd.func7, Tryd.ntmps7
  go_wp2_with (first
    | (go_at_call 17; (with_reducible refine (usual_any _).mono ?_); rintro e w1 ⟨rfl, hb1⟩; have hz1 : w.heap.size ≤ w1.heap.size := hb1.size; have HB1 := Lib.hid (hb1.alloc hb1.size (.cells #[.int .i64 16, .int .i64 4, .int .i64 20, .int .i64 4, .int .i64 700, .int .i64 100, .int .i64 4, .int .i64 4, .int .i64 16, .int .i64 4] 23)); have T1 := Lib.hid (HT.out.below HB1.out); clear hb1)
    | (go_at_call 13; (with_reducible refine (Octets_yes _ _ _ _ _ _ _ _ _ _ _ T1.out usual_zero).mono ?_); rintro e w2 ⟨g, cap, rfl, hg, ho, hb2⟩; have HB2 := Lib.hid (HB1.out.trans (hb2.mono HB1.out.size)); have T2 := Lib.hid (HT.out.below HB2.out); have HO := Lib.hid ho; have C2 := Lib.hid ((Ten.new w1 23 16 4 20 4 700 100 4 4 16 4).below hb2); clear hb2 ho)
    | (go_at_call 15; (with_reducible refine (Read_back _ _ _ _ _ _ _ _ _ _ _ _ _ _ T2.out usual_zero HO.out).mono ?_); rintro e w3 ⟨rfl, hb3⟩; have C3 := Lib.hid (C2.out.below hb3); have hz3 : w1.heap.size < w3.heap.size := World.block_lt_of_cell? w3 _ C3.out.1; have HB3 := Lib.hid ((HB2.out.trans (hb3.mono HB2.out.size)).alloc (HB2.out.trans (hb3.mono HB2.out.size)).size (.cells #[.int .i64 16, .int .i64 4, .int .i64 20, .int .i64 4, .int .i64 700, .int .i64 100, .int .i64 4, .int .i64 4, .int .i64 16, .int .i64 4] 23)); have T3 := Lib.hid (HT.out.below HB3.out); have E3 := Lib.hid (C3.out.below ((Below.refl w3.heap.size w3).alloc (Nat.le_refl _) (.cells #[.int .i64 16, .int .i64 4, .int .i64 20, .int .i64 4, .int .i64 700, .int .i64 100, .int .i64 4, .int .i64 4, .int .i64 16, .int .i64 4] 23))); have D3 := Lib.hid (Ten.new w3 23 16 4 20 4 700 100 4 4 16 4); obtain ⟨c0, c1, c2, c3, c4, c5, c6, c7, c8, c9⟩ := C3.out; clear hb3)
    | (go_at_call 11; (with_reducible refine (Most_yes _ _ _ _ _ _ _ _ _ _ _ (p := 6000) (by decide) T3.out usual_zero).mono ?_); rintro e w4 ⟨rfl, hb4⟩; have HB4 := Lib.hid (HB3.out.trans (hb4.mono HB3.out.size)); have T4 := Lib.hid (HT.out.below HB4.out); have C4 := Lib.hid (E3.out.below hb4); have D4 := Lib.hid (D3.out.below hb4); obtain ⟨d0, d1, d2, d3, d4, d5, d6, d7, d8, d9⟩ := C4.out; clear hb4)
    | (go_at_call 12; (with_reducible refine (Words_yes _ _ _ _ _ _ _ _ _ _ _ T4.out usual_zero).mono ?_); rintro e w5 ⟨rfl, hb5⟩; have HB5 := Lib.hid (HB4.out.trans (hb5.mono HB4.out.size)); have T5 := Lib.hid (HT.out.below HB5.out); have C5 := Lib.hid (C4.out.below hb5); have D5 := Lib.hid (D4.out.below hb5); obtain ⟨f0, f1, f2, f3, f4, f5, f6, f7, f8, f9⟩ := C5.out; obtain ⟨g0, g1, g2, g3, g4, g5, g6, g7, g8, g9⟩ := D5.out; clear hb5)
    | (go_at_call 10; (with_reducible refine (Check_no _ _ _ _ _ _ _ _ _ _ _ (n := 1) (by decide) T5.out zeros_one).mono ?_); rintro e w6 ⟨rfl, hb6⟩; have HB6 := Lib.hid (HB5.out.trans (hb6.mono HB5.out.size)); clear hb6))
  go_ret
  exact ⟨rfl, HB6.out⟩
end
end Go.Proofs.YtdplkodaccjgaaaDoor.cf
