/- The walks of the statement on what comes back from octets. -/
import Derived.Test.YtdplkodaccjgaaaDoorCfJ
namespace Go.Proofs.YtdplkodaccjgaaaDoor.cf
open Go.ChangeShapes Go.WideShapes Go.ChangeAt Go.RowKit
set_option linter.unusedVariables false

theorem octs_nums {xs : List Int} (hl : xs.length = 20) (h : ∀ i, i < 20 → 0 ≤ xs.getD i 0 ∧ xs.getD i 0 ≤ 255) : octs (nums xs) = xs := by
  have hlen : (octs (nums xs)).length = 20 := by rw [octs_length]; rfl
  have hk : ∀ k, k < 10 → (nums xs).getD k 0 = num xs k := by
    intro k hk
    have hk' : k = 0 ∨ k = 1 ∨ k = 2 ∨ k = 3 ∨ k = 4 ∨ k = 5 ∨ k = 6 ∨ k = 7 ∨ k = 8 ∨ k = 9 := by omega
    rcases hk' with rfl | rfl | rfl | rfl | rfl | rfl | rfl | rfl | rfl | rfl <;> rfl
  have all : ∀ i, i < 20 → (octs (nums xs)).getD i 0 = xs.getD i 0 := by
    intro i hi
    obtain ⟨h1, h2⟩ := octs_at (nums xs) (i / 2) (by show i / 2 < 10; omega)
    rw [hk _ (by omega)] at h1 h2
    have b1 := h (2 * (i / 2)) (by omega)
    have b2 := h (2 * (i / 2) + 1) (by omega)
    unfold num at h1 h2
    have e : i = 2 * (i / 2) ∨ i = 2 * (i / 2) + 1 := by omega
    rcases e with e | e
    · rw [e, h1]; omega
    · rw [e, h2]; omega
  apply List.ext_getElem (by rw [hlen, hl])
  intro i h1 h2
  have := all i (by omega)
  simpa [h1, h2] using this

section
set_option maxHeartbeats 8000000
theorem back_y_nil (a0 a1 a2 a3 a4 a5 a6 a7 a8 a9 : Int) (w : World)  (hT : Table w) (hn : wrongN [a0, a1, a2, a3, a4, a5, a6, a7, a8, a9] = 0) : Calls Tryd.prog 6 #[.agg #[.int .i64 a0, .int .i64 a1, .int .i64 a2, .int .i64 a3, .int .i64 a4, .int .i64 a5, .int .i64 a6, .int .i64 a7, .int .i64 a8, .int .i64 a9], .slice none 0 0] w fun e w' => e = .returned (.bool true) ∧ Below w.heap.size w w' := by
  have HT := Lib.hid hT
  have HN := Lib.hid hn
  have HB0 := Lib.hid (((Below.refl w.heap.size w)).alloc (Nat.le_refl _) (.cells #[.int .i64 a0, .int .i64 a1, .int .i64 a2, .int .i64 a3, .int .i64 a4, .int .i64 a5, .int .i64 a6, .int .i64 a7, .int .i64 a8, .int .i64 a9] 23))
  have T0 := Lib.hid (HT.out.below HB0.out)
  have C0 := Lib.hid (Ten.new w 23 a0 a1 a2 a3 a4 a5 a6 a7 a8 a9)
  clear hT hn
  go_enter Tryd.func6, Tryd.ntmps6
  go_wp2_with (first
    | (go_at_call 7; (with_reducible refine (alive_any _ T0.out).mono ?_); rintro e w1 ⟨rfl, hb1⟩; have HB1 := Lib.hid (HB0.out.trans (hb1.mono HB0.out.size)); have T1 := Lib.hid (HT.out.below HB1.out); have C1 := Lib.hid (C0.out.below hb1); obtain ⟨c0, c1, c2, c3, c4, c5, c6, c7, c8, c9⟩ := C1.out; clear hb1)
    | (go_at_call 8; (with_reducible refine (lwrong_as _ _ _ _ _ _ _ _ _ _ _ HN.out).mono ?_); rintro e w2 ⟨rfl, hb2⟩; have HB2 := Lib.hid (HB1.out.trans (hb2.mono HB1.out.size)); have T2 := Lib.hid (HT.out.below HB2.out); have C2 := Lib.hid (C1.out.below hb2); obtain ⟨d0, d1, d2, d3, d4, d5, d6, d7, d8, d9⟩ := C2.out; clear hb2)
    | (go_at_call 13; (with_reducible refine (Octets_yes _ _ _ _ _ _ _ _ _ _ _ T2.out HN.out).mono ?_); rintro e w3 ⟨g, cp, rfl, hg, ho, hb3⟩; have HB3 := Lib.hid (HB2.out.trans (hb3.mono HB2.out.size)); have T3 := Lib.hid (HT.out.below HB3.out); have HO := Lib.hid ho; have C3 := Lib.hid (C2.out.below hb3); clear hb3 ho hg)
    | (go_at_call 15; (with_reducible refine (Read_back _ _ _ _ _ _ _ _ _ _ _ _ _ _ T3.out HN.out HO.out).mono ?_); rintro e w4 ⟨rfl, hb4⟩; have D4 := Lib.hid (C3.out.below hb4); have hz4 : w.heap.size < w4.heap.size := World.block_lt_of_cell? w4 _ D4.out.1; have hx4 := hb4.alloc hb4.size (.cells #[.int .i64 a0, .int .i64 a1, .int .i64 a2, .int .i64 a3, .int .i64 a4, .int .i64 a5, .int .i64 a6, .int .i64 a7, .int .i64 a8, .int .i64 a9] 23); have HBP := Lib.hid (HB3.out.trans (hx4.mono HB3.out.size)); have TP := Lib.hid (HT.out.below HBP.out); have CP := Lib.hid (C3.out.below hx4); obtain ⟨f0, f1, f2, f3, f4, f5, f6, f7, f8, f9⟩ := D4.out; clear hb4 hx4)
    | (have mark := HBP; go_at_call 15; (with_reducible refine (Read_nil _).mono ?_); rintro e w5 ⟨rfl, hb5⟩; have hy5 := hb5.alloc hb5.size (.cells #[.int .i64 0, .int .i64 0, .int .i64 0, .int .i64 0, .int .i64 0, .int .i64 0, .int .i64 0, .int .i64 0, .int .i64 0, .int .i64 0] 23); have HBR := Lib.hid (HBP.out.trans (hy5.mono HBP.out.size)); have TR := Lib.hid (HT.out.below HBR.out); have CR := Lib.hid (Ten.new w5 23 0 0 0 0 0 0 0 0 0 0 ); clear hb5 hy5))
  go_ret
  exact ⟨rfl, HBR.out⟩
theorem back_y_len (a0 a1 a2 a3 a4 a5 a6 a7 a8 a9 : Int) (w : World) (a : Addr) (m cap : Nat) (hm : ((m : Int) == 20) = false) (hm2 : ((m : Int) != 20) = true) (hm3 : ¬ m = 20) (hT : Table w) (hn : wrongN [a0, a1, a2, a3, a4, a5, a6, a7, a8, a9] = 0) : Calls Tryd.prog 6 #[.agg #[.int .i64 a0, .int .i64 a1, .int .i64 a2, .int .i64 a3, .int .i64 a4, .int .i64 a5, .int .i64 a6, .int .i64 a7, .int .i64 a8, .int .i64 a9], .slice (some a) m cap] w fun e w' => e = .returned (.bool true) ∧ Below w.heap.size w w' := by
  have HT := Lib.hid hT
  have HN := Lib.hid hn
  have HB0 := Lib.hid (((Below.refl w.heap.size w)).alloc (Nat.le_refl _) (.cells #[.int .i64 a0, .int .i64 a1, .int .i64 a2, .int .i64 a3, .int .i64 a4, .int .i64 a5, .int .i64 a6, .int .i64 a7, .int .i64 a8, .int .i64 a9] 23))
  have T0 := Lib.hid (HT.out.below HB0.out)
  have C0 := Lib.hid (Ten.new w 23 a0 a1 a2 a3 a4 a5 a6 a7 a8 a9)
  clear hT hn
  go_enter Tryd.func6, Tryd.ntmps6
  go_wp2_with (first
    | (go_at_call 7; (with_reducible refine (alive_any _ T0.out).mono ?_); rintro e w1 ⟨rfl, hb1⟩; have HB1 := Lib.hid (HB0.out.trans (hb1.mono HB0.out.size)); have T1 := Lib.hid (HT.out.below HB1.out); have C1 := Lib.hid (C0.out.below hb1); obtain ⟨c0, c1, c2, c3, c4, c5, c6, c7, c8, c9⟩ := C1.out; clear hb1)
    | (go_at_call 8; (with_reducible refine (lwrong_as _ _ _ _ _ _ _ _ _ _ _ HN.out).mono ?_); rintro e w2 ⟨rfl, hb2⟩; have HB2 := Lib.hid (HB1.out.trans (hb2.mono HB1.out.size)); have T2 := Lib.hid (HT.out.below HB2.out); have C2 := Lib.hid (C1.out.below hb2); obtain ⟨d0, d1, d2, d3, d4, d5, d6, d7, d8, d9⟩ := C2.out; clear hb2)
    | (go_at_call 13; (with_reducible refine (Octets_yes _ _ _ _ _ _ _ _ _ _ _ T2.out HN.out).mono ?_); rintro e w3 ⟨g, cp, rfl, hg, ho, hb3⟩; have HB3 := Lib.hid (HB2.out.trans (hb3.mono HB2.out.size)); have T3 := Lib.hid (HT.out.below HB3.out); have HO := Lib.hid ho; have C3 := Lib.hid (C2.out.below hb3); clear hb3 ho hg)
    | (go_at_call 15; (with_reducible refine (Read_back _ _ _ _ _ _ _ _ _ _ _ _ _ _ T3.out HN.out HO.out).mono ?_); rintro e w4 ⟨rfl, hb4⟩; have D4 := Lib.hid (C3.out.below hb4); have hz4 : w.heap.size < w4.heap.size := World.block_lt_of_cell? w4 _ D4.out.1; have hx4 := hb4.alloc hb4.size (.cells #[.int .i64 a0, .int .i64 a1, .int .i64 a2, .int .i64 a3, .int .i64 a4, .int .i64 a5, .int .i64 a6, .int .i64 a7, .int .i64 a8, .int .i64 a9] 23); have HBP := Lib.hid (HB3.out.trans (hx4.mono HB3.out.size)); have TP := Lib.hid (HT.out.below HBP.out); have CP := Lib.hid (C3.out.below hx4); obtain ⟨f0, f1, f2, f3, f4, f5, f6, f7, f8, f9⟩ := D4.out; clear hb4 hx4)
    | (have mark := HBP; go_at_call 15; (with_reducible refine (Read_len a m cap _ hm).mono ?_); rintro e w5 ⟨rfl, hb5⟩; have hy5 := hb5.alloc hb5.size (.cells #[.int .i64 0, .int .i64 0, .int .i64 0, .int .i64 0, .int .i64 0, .int .i64 0, .int .i64 0, .int .i64 0, .int .i64 0, .int .i64 0] 23); have HBR := Lib.hid (HBP.out.trans (hy5.mono HBP.out.size)); have TR := Lib.hid (HT.out.below HBR.out); have CR := Lib.hid (Ten.new w5 23 0 0 0 0 0 0 0 0 0 0 ); clear hb5 hy5))
  go_ret
  exact ⟨rfl, HBR.out⟩
theorem back_y_no (a0 a1 a2 a3 a4 a5 a6 a7 a8 a9 : Int) (w : World) (xs : List Int) (b off cap : Nat) (hcap : 20 ≤ cap) (hB : Bytes xs b off w) {n2 : Int} (hn2 : wrongN (nums xs) = n2) (h02 : (n2 == 0) = false) (hT : Table w) (hn : wrongN [a0, a1, a2, a3, a4, a5, a6, a7, a8, a9] = 0) : Calls Tryd.prog 6 #[.agg #[.int .i64 a0, .int .i64 a1, .int .i64 a2, .int .i64 a3, .int .i64 a4, .int .i64 a5, .int .i64 a6, .int .i64 a7, .int .i64 a8, .int .i64 a9], .slice (some ⟨b, off, none⟩) 20 cap] w fun e w' => e = .returned (.bool true) ∧ Below w.heap.size w w' := by
  have HT := Lib.hid hT
  have HN := Lib.hid hn
  have HB0 := Lib.hid (((Below.refl w.heap.size w)).alloc (Nat.le_refl _) (.cells #[.int .i64 a0, .int .i64 a1, .int .i64 a2, .int .i64 a3, .int .i64 a4, .int .i64 a5, .int .i64 a6, .int .i64 a7, .int .i64 a8, .int .i64 a9] 23))
  have T0 := Lib.hid (HT.out.below HB0.out)
  have C0 := Lib.hid (Ten.new w 23 a0 a1 a2 a3 a4 a5 a6 a7 a8 a9)
  have BY := Lib.hid hB
  have HN2 := Lib.hid hn2
  clear hT hn hB hn2
  go_enter Tryd.func6, Tryd.ntmps6
  go_wp2_with (first
    | (go_at_call 7; (with_reducible refine (alive_any _ T0.out).mono ?_); rintro e w1 ⟨rfl, hb1⟩; have HB1 := Lib.hid (HB0.out.trans (hb1.mono HB0.out.size)); have T1 := Lib.hid (HT.out.below HB1.out); have C1 := Lib.hid (C0.out.below hb1); obtain ⟨c0, c1, c2, c3, c4, c5, c6, c7, c8, c9⟩ := C1.out; clear hb1)
    | (go_at_call 8; (with_reducible refine (lwrong_as _ _ _ _ _ _ _ _ _ _ _ HN.out).mono ?_); rintro e w2 ⟨rfl, hb2⟩; have HB2 := Lib.hid (HB1.out.trans (hb2.mono HB1.out.size)); have T2 := Lib.hid (HT.out.below HB2.out); have C2 := Lib.hid (C1.out.below hb2); obtain ⟨d0, d1, d2, d3, d4, d5, d6, d7, d8, d9⟩ := C2.out; clear hb2)
    | (go_at_call 13; (with_reducible refine (Octets_yes _ _ _ _ _ _ _ _ _ _ _ T2.out HN.out).mono ?_); rintro e w3 ⟨g, cp, rfl, hg, ho, hb3⟩; have HB3 := Lib.hid (HB2.out.trans (hb3.mono HB2.out.size)); have T3 := Lib.hid (HT.out.below HB3.out); have HO := Lib.hid ho; have C3 := Lib.hid (C2.out.below hb3); clear hb3 ho hg)
    | (go_at_call 15; (with_reducible refine (Read_back _ _ _ _ _ _ _ _ _ _ _ _ _ _ T3.out HN.out HO.out).mono ?_); rintro e w4 ⟨rfl, hb4⟩; have D4 := Lib.hid (C3.out.below hb4); have hz4 : w.heap.size < w4.heap.size := World.block_lt_of_cell? w4 _ D4.out.1; have hx4 := hb4.alloc hb4.size (.cells #[.int .i64 a0, .int .i64 a1, .int .i64 a2, .int .i64 a3, .int .i64 a4, .int .i64 a5, .int .i64 a6, .int .i64 a7, .int .i64 a8, .int .i64 a9] 23); have HBP := Lib.hid (HB3.out.trans (hx4.mono HB3.out.size)); have TP := Lib.hid (HT.out.below HBP.out); have CP := Lib.hid (C3.out.below hx4); obtain ⟨f0, f1, f2, f3, f4, f5, f6, f7, f8, f9⟩ := D4.out; clear hb4 hx4)
    | (have mark := HBP; go_at_call 15; (with_reducible refine (Read_no xs b off cap _ hcap (BY.out.below HBP.out) TP.out HN2.out h02).mono ?_); rintro e w5 ⟨rfl, hb5⟩; have hy5 := hb5.alloc hb5.size (.cells #[.int .i64 0, .int .i64 0, .int .i64 0, .int .i64 0, .int .i64 0, .int .i64 0, .int .i64 0, .int .i64 0, .int .i64 0, .int .i64 0] 23); have HBR := Lib.hid (HBP.out.trans (hy5.mono HBP.out.size)); have TR := Lib.hid (HT.out.below HBR.out); have CR := Lib.hid (Ten.new w5 23 0 0 0 0 0 0 0 0 0 0 ); clear hb5 hy5)
    | (go_at_call 16; (with_reducible refine (odd_any xs b off cap _ hcap (BY.out.below HBR.out) HN2.out).mono ?_); rintro e w6 ⟨rfl, hb6⟩; have HB6 := Lib.hid (HBR.out.trans (hb6.mono HBR.out.size)); clear hb6))
  go_ret
  exact ⟨rfl, HB6.out⟩
theorem back_y_yes (a0 a1 a2 a3 a4 a5 a6 a7 a8 a9 : Int) (w : World) (xs : List Int) (b off cap : Nat) (hcap : 20 ≤ cap) (hlen : xs.length = 20) (hB : Bytes xs b off w) (hn2 : wrongN (nums xs) = 0) (hT : Table w) (hn : wrongN [a0, a1, a2, a3, a4, a5, a6, a7, a8, a9] = 0) : Calls Tryd.prog 6 #[.agg #[.int .i64 a0, .int .i64 a1, .int .i64 a2, .int .i64 a3, .int .i64 a4, .int .i64 a5, .int .i64 a6, .int .i64 a7, .int .i64 a8, .int .i64 a9], .slice (some ⟨b, off, none⟩) 20 cap] w fun e w' => e = .returned (.bool true) ∧ Below w.heap.size w w' := by
  have HT := Lib.hid hT
  have HN := Lib.hid hn
  have HB0 := Lib.hid (((Below.refl w.heap.size w)).alloc (Nat.le_refl _) (.cells #[.int .i64 a0, .int .i64 a1, .int .i64 a2, .int .i64 a3, .int .i64 a4, .int .i64 a5, .int .i64 a6, .int .i64 a7, .int .i64 a8, .int .i64 a9] 23))
  have T0 := Lib.hid (HT.out.below HB0.out)
  have C0 := Lib.hid (Ten.new w 23 a0 a1 a2 a3 a4 a5 a6 a7 a8 a9)
  have BY := Lib.hid hB
  have HN2 := Lib.hid hn2
  have ON := Lib.hid (octs_nums hlen (fun i hi => (hB.2 i hi).2))
  have HN3 := Lib.hid (show wrongN [num xs 0, num xs 1, num xs 2, num xs 3, num xs 4, num xs 5, num xs 6, num xs 7, num xs 8, num xs 9] = 0 from hn2)
  have HLEN := Lib.hid hlen
  clear hT hn hB hn2 hlen
  go_enter Tryd.func6, Tryd.ntmps6
  go_wp2_with (first
    | (have mark := HB6; go_at_call 8; (with_reducible refine (lwrong_as _ _ _ _ _ _ _ _ _ _ _ HN3.out).mono ?_); rintro e w7 ⟨rfl, hb7⟩; have HB7 := Lib.hid (HB6.out.trans (hb7.mono HB6.out.size)); have e1 := conv_bytes (cap := cp2) (by rw [octs_length]; rfl) (Bytes.of_row rfl (small_all HN3.out) (row_below HO6.out hb7)); rw [show octs [num xs 0, num xs 1, num xs 2, num xs 3, num xs 4, num xs 5, num xs 6, num xs 7, num xs 8, num xs 9] = xs from ON.out] at e1; have e2 := conv_bytes (cap := cap) HLEN.out (BY.out.below HB7.out); clear hb7)
    | (have mark := HBR; go_at_call 13; (with_reducible refine (Octets_yes _ _ _ _ _ _ _ _ _ _ _ TR.out HN3.out).mono ?_); rintro e w6 ⟨g2, cp2, rfl, hg2, ho2, hb6⟩; have HB6 := Lib.hid (HBR.out.trans (hb6.mono HBR.out.size)); have HO6 := Lib.hid ho2; have C6 := Lib.hid (CR.out.below hb6); obtain ⟨g0, g1, g2, g3, g4, g5, g6, g7, g8, g9⟩ := C6.out; clear hb6 ho2 hg2)
    | (have mark := HBP; go_at_call 15; (with_reducible refine (Read_yes xs b off cap _ hcap (BY.out.below HBP.out) TP.out HN2.out).mono ?_); rintro e w5 ⟨rfl, hb5⟩; have hy5 := hb5.alloc hb5.size (.cells #[.int .i64 (num xs 0), .int .i64 (num xs 1), .int .i64 (num xs 2), .int .i64 (num xs 3), .int .i64 (num xs 4), .int .i64 (num xs 5), .int .i64 (num xs 6), .int .i64 (num xs 7), .int .i64 (num xs 8), .int .i64 (num xs 9)] 23); have HBR := Lib.hid (HBP.out.trans (hy5.mono HBP.out.size)); have TR := Lib.hid (HT.out.below HBR.out); have CR := Lib.hid (Ten.new w5 23 (num xs 0) (num xs 1) (num xs 2) (num xs 3) (num xs 4) (num xs 5) (num xs 6) (num xs 7) (num xs 8) (num xs 9)); clear hb5 hy5)
    | (go_at_call 7; (with_reducible refine (alive_any _ T0.out).mono ?_); rintro e w1 ⟨rfl, hb1⟩; have HB1 := Lib.hid (HB0.out.trans (hb1.mono HB0.out.size)); have T1 := Lib.hid (HT.out.below HB1.out); have C1 := Lib.hid (C0.out.below hb1); obtain ⟨c0, c1, c2, c3, c4, c5, c6, c7, c8, c9⟩ := C1.out; clear hb1)
    | (go_at_call 8; (with_reducible refine (lwrong_as _ _ _ _ _ _ _ _ _ _ _ HN.out).mono ?_); rintro e w2 ⟨rfl, hb2⟩; have HB2 := Lib.hid (HB1.out.trans (hb2.mono HB1.out.size)); have T2 := Lib.hid (HT.out.below HB2.out); have C2 := Lib.hid (C1.out.below hb2); obtain ⟨d0, d1, d2, d3, d4, d5, d6, d7, d8, d9⟩ := C2.out; clear hb2)
    | (go_at_call 13; (with_reducible refine (Octets_yes _ _ _ _ _ _ _ _ _ _ _ T2.out HN.out).mono ?_); rintro e w3 ⟨g, cp, rfl, hg, ho, hb3⟩; have HB3 := Lib.hid (HB2.out.trans (hb3.mono HB2.out.size)); have T3 := Lib.hid (HT.out.below HB3.out); have HO := Lib.hid ho; have C3 := Lib.hid (C2.out.below hb3); clear hb3 ho hg)
    | (go_at_call 15; (with_reducible refine (Read_back _ _ _ _ _ _ _ _ _ _ _ _ _ _ T3.out HN.out HO.out).mono ?_); rintro e w4 ⟨rfl, hb4⟩; have D4 := Lib.hid (C3.out.below hb4); have hz4 : w.heap.size < w4.heap.size := World.block_lt_of_cell? w4 _ D4.out.1; have hx4 := hb4.alloc hb4.size (.cells #[.int .i64 a0, .int .i64 a1, .int .i64 a2, .int .i64 a3, .int .i64 a4, .int .i64 a5, .int .i64 a6, .int .i64 a7, .int .i64 a8, .int .i64 a9] 23); have HBP := Lib.hid (HB3.out.trans (hx4.mono HB3.out.size)); have TP := Lib.hid (HT.out.below HBP.out); have CP := Lib.hid (C3.out.below hx4); obtain ⟨f0, f1, f2, f3, f4, f5, f6, f7, f8, f9⟩ := D4.out; clear hb4 hx4))
  go_ret
  exact ⟨rfl, HB7.out⟩
theorem back_n_nil (a0 a1 a2 a3 a4 a5 a6 a7 a8 a9 : Int) (w : World)  (hT : Table w) {n : Int} (h0 : (n == 0) = false) (hn : wrongN [a0, a1, a2, a3, a4, a5, a6, a7, a8, a9] = n) : Calls Tryd.prog 6 #[.agg #[.int .i64 a0, .int .i64 a1, .int .i64 a2, .int .i64 a3, .int .i64 a4, .int .i64 a5, .int .i64 a6, .int .i64 a7, .int .i64 a8, .int .i64 a9], .slice none 0 0] w fun e w' => e = .returned (.bool true) ∧ Below w.heap.size w w' := by
  have HT := Lib.hid hT
  have HN := Lib.hid hn
  have HB0 := Lib.hid (((Below.refl w.heap.size w)).alloc (Nat.le_refl _) (.cells #[.int .i64 a0, .int .i64 a1, .int .i64 a2, .int .i64 a3, .int .i64 a4, .int .i64 a5, .int .i64 a6, .int .i64 a7, .int .i64 a8, .int .i64 a9] 23))
  have T0 := Lib.hid (HT.out.below HB0.out)
  have C0 := Lib.hid (Ten.new w 23 a0 a1 a2 a3 a4 a5 a6 a7 a8 a9)
  clear hT hn
  go_enter Tryd.func6, Tryd.ntmps6
  go_wp2_with (first
    | (go_at_call 7; (with_reducible refine (alive_any _ T0.out).mono ?_); rintro e w1 ⟨rfl, hb1⟩; have HB1 := Lib.hid (HB0.out.trans (hb1.mono HB0.out.size)); have T1 := Lib.hid (HT.out.below HB1.out); have C1 := Lib.hid (C0.out.below hb1); obtain ⟨c0, c1, c2, c3, c4, c5, c6, c7, c8, c9⟩ := C1.out; clear hb1)
    | (go_at_call 8; (with_reducible refine (lwrong_as _ _ _ _ _ _ _ _ _ _ _ HN.out).mono ?_); rintro e w2 ⟨rfl, hb2⟩; have HBP := Lib.hid (HB1.out.trans (hb2.mono HB1.out.size)); have TP := Lib.hid (HT.out.below HBP.out); have CP := Lib.hid (C1.out.below hb2); clear hb2)
    | (have mark := HBP; go_at_call 15; (with_reducible refine (Read_nil _).mono ?_); rintro e w5 ⟨rfl, hb5⟩; have hy5 := hb5.alloc hb5.size (.cells #[.int .i64 0, .int .i64 0, .int .i64 0, .int .i64 0, .int .i64 0, .int .i64 0, .int .i64 0, .int .i64 0, .int .i64 0, .int .i64 0] 23); have HBR := Lib.hid (HBP.out.trans (hy5.mono HBP.out.size)); have TR := Lib.hid (HT.out.below HBR.out); have CR := Lib.hid (Ten.new w5 23 0 0 0 0 0 0 0 0 0 0 ); clear hb5 hy5))
  go_ret
  exact ⟨rfl, HBR.out⟩
theorem back_n_len (a0 a1 a2 a3 a4 a5 a6 a7 a8 a9 : Int) (w : World) (a : Addr) (m cap : Nat) (hm : ((m : Int) == 20) = false) (hm2 : ((m : Int) != 20) = true) (hm3 : ¬ m = 20) (hT : Table w) {n : Int} (h0 : (n == 0) = false) (hn : wrongN [a0, a1, a2, a3, a4, a5, a6, a7, a8, a9] = n) : Calls Tryd.prog 6 #[.agg #[.int .i64 a0, .int .i64 a1, .int .i64 a2, .int .i64 a3, .int .i64 a4, .int .i64 a5, .int .i64 a6, .int .i64 a7, .int .i64 a8, .int .i64 a9], .slice (some a) m cap] w fun e w' => e = .returned (.bool true) ∧ Below w.heap.size w w' := by
  have HT := Lib.hid hT
  have HN := Lib.hid hn
  have HB0 := Lib.hid (((Below.refl w.heap.size w)).alloc (Nat.le_refl _) (.cells #[.int .i64 a0, .int .i64 a1, .int .i64 a2, .int .i64 a3, .int .i64 a4, .int .i64 a5, .int .i64 a6, .int .i64 a7, .int .i64 a8, .int .i64 a9] 23))
  have T0 := Lib.hid (HT.out.below HB0.out)
  have C0 := Lib.hid (Ten.new w 23 a0 a1 a2 a3 a4 a5 a6 a7 a8 a9)
  clear hT hn
  go_enter Tryd.func6, Tryd.ntmps6
  go_wp2_with (first
    | (go_at_call 7; (with_reducible refine (alive_any _ T0.out).mono ?_); rintro e w1 ⟨rfl, hb1⟩; have HB1 := Lib.hid (HB0.out.trans (hb1.mono HB0.out.size)); have T1 := Lib.hid (HT.out.below HB1.out); have C1 := Lib.hid (C0.out.below hb1); obtain ⟨c0, c1, c2, c3, c4, c5, c6, c7, c8, c9⟩ := C1.out; clear hb1)
    | (go_at_call 8; (with_reducible refine (lwrong_as _ _ _ _ _ _ _ _ _ _ _ HN.out).mono ?_); rintro e w2 ⟨rfl, hb2⟩; have HBP := Lib.hid (HB1.out.trans (hb2.mono HB1.out.size)); have TP := Lib.hid (HT.out.below HBP.out); have CP := Lib.hid (C1.out.below hb2); clear hb2)
    | (have mark := HBP; go_at_call 15; (with_reducible refine (Read_len a m cap _ hm).mono ?_); rintro e w5 ⟨rfl, hb5⟩; have hy5 := hb5.alloc hb5.size (.cells #[.int .i64 0, .int .i64 0, .int .i64 0, .int .i64 0, .int .i64 0, .int .i64 0, .int .i64 0, .int .i64 0, .int .i64 0, .int .i64 0] 23); have HBR := Lib.hid (HBP.out.trans (hy5.mono HBP.out.size)); have TR := Lib.hid (HT.out.below HBR.out); have CR := Lib.hid (Ten.new w5 23 0 0 0 0 0 0 0 0 0 0 ); clear hb5 hy5))
  go_ret
  exact ⟨rfl, HBR.out⟩
theorem back_n_no (a0 a1 a2 a3 a4 a5 a6 a7 a8 a9 : Int) (w : World) (xs : List Int) (b off cap : Nat) (hcap : 20 ≤ cap) (hB : Bytes xs b off w) {n2 : Int} (hn2 : wrongN (nums xs) = n2) (h02 : (n2 == 0) = false) (hT : Table w) {n : Int} (h0 : (n == 0) = false) (hn : wrongN [a0, a1, a2, a3, a4, a5, a6, a7, a8, a9] = n) : Calls Tryd.prog 6 #[.agg #[.int .i64 a0, .int .i64 a1, .int .i64 a2, .int .i64 a3, .int .i64 a4, .int .i64 a5, .int .i64 a6, .int .i64 a7, .int .i64 a8, .int .i64 a9], .slice (some ⟨b, off, none⟩) 20 cap] w fun e w' => e = .returned (.bool true) ∧ Below w.heap.size w w' := by
  have HT := Lib.hid hT
  have HN := Lib.hid hn
  have HB0 := Lib.hid (((Below.refl w.heap.size w)).alloc (Nat.le_refl _) (.cells #[.int .i64 a0, .int .i64 a1, .int .i64 a2, .int .i64 a3, .int .i64 a4, .int .i64 a5, .int .i64 a6, .int .i64 a7, .int .i64 a8, .int .i64 a9] 23))
  have T0 := Lib.hid (HT.out.below HB0.out)
  have C0 := Lib.hid (Ten.new w 23 a0 a1 a2 a3 a4 a5 a6 a7 a8 a9)
  have BY := Lib.hid hB
  have HN2 := Lib.hid hn2
  clear hT hn hB hn2
  go_enter Tryd.func6, Tryd.ntmps6
  go_wp2_with (first
    | (go_at_call 7; (with_reducible refine (alive_any _ T0.out).mono ?_); rintro e w1 ⟨rfl, hb1⟩; have HB1 := Lib.hid (HB0.out.trans (hb1.mono HB0.out.size)); have T1 := Lib.hid (HT.out.below HB1.out); have C1 := Lib.hid (C0.out.below hb1); obtain ⟨c0, c1, c2, c3, c4, c5, c6, c7, c8, c9⟩ := C1.out; clear hb1)
    | (go_at_call 8; (with_reducible refine (lwrong_as _ _ _ _ _ _ _ _ _ _ _ HN.out).mono ?_); rintro e w2 ⟨rfl, hb2⟩; have HBP := Lib.hid (HB1.out.trans (hb2.mono HB1.out.size)); have TP := Lib.hid (HT.out.below HBP.out); have CP := Lib.hid (C1.out.below hb2); clear hb2)
    | (have mark := HBP; go_at_call 15; (with_reducible refine (Read_no xs b off cap _ hcap (BY.out.below HBP.out) TP.out HN2.out h02).mono ?_); rintro e w5 ⟨rfl, hb5⟩; have hy5 := hb5.alloc hb5.size (.cells #[.int .i64 0, .int .i64 0, .int .i64 0, .int .i64 0, .int .i64 0, .int .i64 0, .int .i64 0, .int .i64 0, .int .i64 0, .int .i64 0] 23); have HBR := Lib.hid (HBP.out.trans (hy5.mono HBP.out.size)); have TR := Lib.hid (HT.out.below HBR.out); have CR := Lib.hid (Ten.new w5 23 0 0 0 0 0 0 0 0 0 0 ); clear hb5 hy5)
    | (go_at_call 16; (with_reducible refine (odd_any xs b off cap _ hcap (BY.out.below HBR.out) HN2.out).mono ?_); rintro e w6 ⟨rfl, hb6⟩; have HB6 := Lib.hid (HBR.out.trans (hb6.mono HBR.out.size)); clear hb6))
  go_ret
  exact ⟨rfl, HB6.out⟩
theorem back_n_yes (a0 a1 a2 a3 a4 a5 a6 a7 a8 a9 : Int) (w : World) (xs : List Int) (b off cap : Nat) (hcap : 20 ≤ cap) (hlen : xs.length = 20) (hB : Bytes xs b off w) (hn2 : wrongN (nums xs) = 0) (hT : Table w) {n : Int} (h0 : (n == 0) = false) (hn : wrongN [a0, a1, a2, a3, a4, a5, a6, a7, a8, a9] = n) : Calls Tryd.prog 6 #[.agg #[.int .i64 a0, .int .i64 a1, .int .i64 a2, .int .i64 a3, .int .i64 a4, .int .i64 a5, .int .i64 a6, .int .i64 a7, .int .i64 a8, .int .i64 a9], .slice (some ⟨b, off, none⟩) 20 cap] w fun e w' => e = .returned (.bool true) ∧ Below w.heap.size w w' := by
  have HT := Lib.hid hT
  have HN := Lib.hid hn
  have HB0 := Lib.hid (((Below.refl w.heap.size w)).alloc (Nat.le_refl _) (.cells #[.int .i64 a0, .int .i64 a1, .int .i64 a2, .int .i64 a3, .int .i64 a4, .int .i64 a5, .int .i64 a6, .int .i64 a7, .int .i64 a8, .int .i64 a9] 23))
  have T0 := Lib.hid (HT.out.below HB0.out)
  have C0 := Lib.hid (Ten.new w 23 a0 a1 a2 a3 a4 a5 a6 a7 a8 a9)
  have BY := Lib.hid hB
  have HN2 := Lib.hid hn2
  have ON := Lib.hid (octs_nums hlen (fun i hi => (hB.2 i hi).2))
  have HN3 := Lib.hid (show wrongN [num xs 0, num xs 1, num xs 2, num xs 3, num xs 4, num xs 5, num xs 6, num xs 7, num xs 8, num xs 9] = 0 from hn2)
  have HLEN := Lib.hid hlen
  clear hT hn hB hn2 hlen
  go_enter Tryd.func6, Tryd.ntmps6
  go_wp2_with (first
    | (have mark := HB6; go_at_call 8; (with_reducible refine (lwrong_as _ _ _ _ _ _ _ _ _ _ _ HN3.out).mono ?_); rintro e w7 ⟨rfl, hb7⟩; have HB7 := Lib.hid (HB6.out.trans (hb7.mono HB6.out.size)); have e1 := conv_bytes (cap := cp2) (by rw [octs_length]; rfl) (Bytes.of_row rfl (small_all HN3.out) (row_below HO6.out hb7)); rw [show octs [num xs 0, num xs 1, num xs 2, num xs 3, num xs 4, num xs 5, num xs 6, num xs 7, num xs 8, num xs 9] = xs from ON.out] at e1; have e2 := conv_bytes (cap := cap) HLEN.out (BY.out.below HB7.out); clear hb7)
    | (have mark := HBR; go_at_call 13; (with_reducible refine (Octets_yes _ _ _ _ _ _ _ _ _ _ _ TR.out HN3.out).mono ?_); rintro e w6 ⟨g2, cp2, rfl, hg2, ho2, hb6⟩; have HB6 := Lib.hid (HBR.out.trans (hb6.mono HBR.out.size)); have HO6 := Lib.hid ho2; have C6 := Lib.hid (CR.out.below hb6); obtain ⟨g0, g1, g2, g3, g4, g5, g6, g7, g8, g9⟩ := C6.out; clear hb6 ho2 hg2)
    | (have mark := HBP; go_at_call 15; (with_reducible refine (Read_yes xs b off cap _ hcap (BY.out.below HBP.out) TP.out HN2.out).mono ?_); rintro e w5 ⟨rfl, hb5⟩; have hy5 := hb5.alloc hb5.size (.cells #[.int .i64 (num xs 0), .int .i64 (num xs 1), .int .i64 (num xs 2), .int .i64 (num xs 3), .int .i64 (num xs 4), .int .i64 (num xs 5), .int .i64 (num xs 6), .int .i64 (num xs 7), .int .i64 (num xs 8), .int .i64 (num xs 9)] 23); have HBR := Lib.hid (HBP.out.trans (hy5.mono HBP.out.size)); have TR := Lib.hid (HT.out.below HBR.out); have CR := Lib.hid (Ten.new w5 23 (num xs 0) (num xs 1) (num xs 2) (num xs 3) (num xs 4) (num xs 5) (num xs 6) (num xs 7) (num xs 8) (num xs 9)); clear hb5 hy5)
    | (go_at_call 7; (with_reducible refine (alive_any _ T0.out).mono ?_); rintro e w1 ⟨rfl, hb1⟩; have HB1 := Lib.hid (HB0.out.trans (hb1.mono HB0.out.size)); have T1 := Lib.hid (HT.out.below HB1.out); have C1 := Lib.hid (C0.out.below hb1); obtain ⟨c0, c1, c2, c3, c4, c5, c6, c7, c8, c9⟩ := C1.out; clear hb1)
    | (go_at_call 8; (with_reducible refine (lwrong_as _ _ _ _ _ _ _ _ _ _ _ HN.out).mono ?_); rintro e w2 ⟨rfl, hb2⟩; have HBP := Lib.hid (HB1.out.trans (hb2.mono HB1.out.size)); have TP := Lib.hid (HT.out.below HBP.out); have CP := Lib.hid (C1.out.below hb2); clear hb2))
  go_ret
  exact ⟨rfl, HB7.out⟩
end
end Go.Proofs.YtdplkodaccjgaaaDoor.cf
