/- The walk of the statement on the octets of a config. -/
import Derived.Test.YtdplkodaccjgaaaDoorCfI
import Derived.Laws.IdiomStrings
namespace Go.Proofs.YtdplkodaccjgaaaDoor.cf
open Go.ChangeShapes Go.WideShapes Go.ChangeAt Go.RowKit
set_option linter.unusedVariables false

/-- The string of octets. -/
def strOf (xs : List Int) : ByteArray := ⟨(xs.map fun n => UInt8.ofNat n.toNat).toArray⟩
theorem conv_bytes {xs : List Int} {b off cap : Nat} {w : World} (hl : xs.length = 20) (hB : Bytes xs b off w) :
    (convert 29 9 (.slice (some ⟨b, off, none⟩) 20 cap)).run Tryd.prog w = .ok (.string (strOf xs)) w := by
  have h := run_convert_bytes_back (P := Tryd.prog) w 29 9 5 ⟨b, off, none⟩ cap (xs.map fun n => UInt8.ofNat n.toNat) Tryd.underlying29 Tryd.underlying5 Tryd.underlying9 (by
    intro j hj
    have hj' : j < xs.length := by simpa using hj
    obtain ⟨h1, h2, h3⟩ := hB.2 j (by omega)
    have e : xs.getD j 0 = xs[j] := by simp [hj']
    rw [e] at h1 h2 h3
    rw [Addr.add_lit, h1]
    congr 2
    simp only [List.getElem_map, UInt8.toNat_ofNat']
    omega)
  rw [List.length_map, hl] at h
  exact h
theorem row_below {w w' : World} {base : Nat} {e : TypeId} {size n : Nat} {v : Value} {xs : List Value} (h : w.ownsRow base e size v n xs) (hb : Below w.heap.size w w') : w'.ownsRow base e size v n xs := by
  obtain ⟨hl, h⟩ := h
  refine ⟨hl, ?_⟩
  rcases h with h | ⟨g', cap', cur, hv, hg, hh, h1, h2, h3, h4⟩
  · exact .inl h
  · refine .inr ⟨g', cap', cur, hv, hg, ?_, h1, h2, h3, h4⟩
    rw [hb.block g' (Array.getElem?_eq_some_iff.1 hh).1, hh]
theorem row_ge {w : World} {base : Nat} {e : TypeId} {size n : Nat} {v : Value} {xs : List Value} (h : w.ownsRow base e size v n xs) : ∀ j, v.ownBlock = some j → base ≤ j := by
  intro j hj
  rcases h.2 with ⟨rfl, _⟩ | ⟨g', cap', cur, rfl, hg, _⟩
  · cases hj
  · cases hj; exact hg
theorem row_form {w : World} {base : Nat} {e : TypeId} {size n : Nat} {v : Value} {xs : List Value} (h : w.ownsRow base e size v n xs) (hn : 0 < n) : ∃ g cap, v = .slice (some ⟨g, 0, none⟩) n cap := by
  rcases h.2 with ⟨_, h0⟩ | ⟨g', cap', cur, rfl, hg, _⟩
  · omega
  · exact ⟨_, _, rfl⟩

section
variable (a0 a1 a2 a3 a4 a5 a6 a7 a8 a9 : Int) (w : World)
set_option maxHeartbeats 4000000
theorem writes_no {n : Int} (h0 : (n == 0) = false) (hT : Table w) (hn : wrongN [a0, a1, a2, a3, a4, a5, a6, a7, a8, a9] = n) : Calls Tryd.prog 5 #[.agg #[.int .i64 a0, .int .i64 a1, .int .i64 a2, .int .i64 a3, .int .i64 a4, .int .i64 a5, .int .i64 a6, .int .i64 a7, .int .i64 a8, .int .i64 a9]] w fun e w' => e = .returned (.bool true) ∧ Below w.heap.size w w' := by
  have HT := Lib.hid hT
  have HN := Lib.hid hn
  have HB0 := Lib.hid (((Below.refl w.heap.size w)).alloc (Nat.le_refl _) (.cells #[.int .i64 a0, .int .i64 a1, .int .i64 a2, .int .i64 a3, .int .i64 a4, .int .i64 a5, .int .i64 a6, .int .i64 a7, .int .i64 a8, .int .i64 a9] 23))
  have T0 := Lib.hid (HT.out.below HB0.out)
  have C0 := Lib.hid (Ten.new w 23 a0 a1 a2 a3 a4 a5 a6 a7 a8 a9)
  clear hT hn
  go_enter Tryd.func5, Tryd.ntmps5
  go_wp2_with (first
    | (go_at_call 7; (with_reducible refine (alive_any _ T0.out).mono ?_); rintro e w1 ⟨rfl, hb1⟩; have HB1 := Lib.hid (HB0.out.trans (hb1.mono HB0.out.size)); have T1 := Lib.hid (HT.out.below HB1.out); have C1 := Lib.hid (C0.out.below hb1); obtain ⟨c0, c1, c2, c3, c4, c5, c6, c7, c8, c9⟩ := C1.out; clear hb1)
    | (go_at_call 13; (with_reducible refine (Octets_no _ _ _ _ _ _ _ _ _ _ _ h0 T1.out HN.out).mono ?_); rintro e w2 ⟨rfl, hb2⟩; have HB2 := Lib.hid (HB1.out.trans (hb2.mono HB1.out.size)); have T2 := Lib.hid (HT.out.below HB2.out); have C2 := Lib.hid (C1.out.below hb2); obtain ⟨d0, d1, d2, d3, d4, d5, d6, d7, d8, d9⟩ := C2.out; clear hb2)
    | (go_at_call 8; (with_reducible refine (lwrong_as _ _ _ _ _ _ _ _ _ _ _ HN.out).mono ?_); rintro e w3 ⟨rfl, hb3⟩; have HB3 := Lib.hid (HB2.out.trans (hb3.mono HB2.out.size)); have T3 := Lib.hid (HT.out.below HB3.out); have C3 := Lib.hid (C2.out.below hb3); obtain ⟨f0, f1, f2, f3, f4, f5, f6, f7, f8, f9⟩ := C3.out; clear hb3))
  go_ret
  exact ⟨rfl, HB3.out⟩
theorem writes_yes (hT : Table w) (hn : wrongN [a0, a1, a2, a3, a4, a5, a6, a7, a8, a9] = 0) : Calls Tryd.prog 5 #[.agg #[.int .i64 a0, .int .i64 a1, .int .i64 a2, .int .i64 a3, .int .i64 a4, .int .i64 a5, .int .i64 a6, .int .i64 a7, .int .i64 a8, .int .i64 a9]] w fun e w' => e = .returned (.bool true) ∧ Below w.heap.size w w' := by
  have HT := Lib.hid hT
  have HN := Lib.hid hn
  have HB0 := Lib.hid (((Below.refl w.heap.size w)).alloc (Nat.le_refl _) (.cells #[.int .i64 a0, .int .i64 a1, .int .i64 a2, .int .i64 a3, .int .i64 a4, .int .i64 a5, .int .i64 a6, .int .i64 a7, .int .i64 a8, .int .i64 a9] 23))
  have T0 := Lib.hid (HT.out.below HB0.out)
  have C0 := Lib.hid (Ten.new w 23 a0 a1 a2 a3 a4 a5 a6 a7 a8 a9)
  have HF := Lib.hid (wrong_zero hn).1
  have HS := Lib.hid (small_all hn)
  obtain ⟨i0, hi, hz0, hz1, hz2⟩ := info_parts info5
  clear hT hn
  go_enter Tryd.func5, Tryd.ntmps5
  go_wp2_with (first
    | (go_at_call 7; (with_reducible refine (alive_any _ T0.out).mono ?_); rintro e w1 ⟨rfl, hb1⟩; have HB1 := Lib.hid (HB0.out.trans (hb1.mono HB0.out.size)); have T1 := Lib.hid (HT.out.below HB1.out); have C1 := Lib.hid (C0.out.below hb1); obtain ⟨c0, c1, c2, c3, c4, c5, c6, c7, c8, c9⟩ := C1.out; clear hb1)
    | (go_at_call 13; (with_reducible refine (Octets_yes _ _ _ _ _ _ _ _ _ _ _ T1.out HN.out).mono ?_); rintro e w2 ⟨g, cap, rfl, hg, ho, hb2⟩; have HB2 := Lib.hid (HB1.out.trans (hb2.mono HB1.out.size)); have HO := Lib.hid ho; have C2 := Lib.hid (C1.out.below hb2); obtain ⟨d0, d1, d2, d3, d4, d5, d6, d7, d8, d9⟩ := C2.out; clear hb2 ho hg)
    | (go_at_call 8; (with_reducible refine (lwrong_as _ _ _ _ _ _ _ _ _ _ _ HN.out).mono ?_); rintro e w3 ⟨rfl, hb3⟩; have HB3 := Lib.hid (HB2.out.trans (hb3.mono HB2.out.size)); have HO3 := Lib.hid (row_below HO.out hb3); have C3 := Lib.hid (C2.out.below hb3); clear hb3))
  clear c0 c1 c2 c3 c4 c5 c6 c7 c8 c9 d0 d1 d2 d3 d4 d5 d6 d7 d8 d9
  go_loopw [5, 6] (fun v i wr => ∃ k : Nat, k ≤ 10 ∧ i = .int .i64 ((k : Int) + 1) ∧ wr.ownsRow w3.heap.size 5 1 v (2 * k) (octsV ([a0, a1, a2, a3, a4, a5, a6, a7, a8, a9].take k)) ∧ Below w3.heap.size w3 wr) (fun _ i _ => (11 - intOf i).toNat)
  case atStart => exact ⟨0, by omega, rfl, World.ownsRow_nil _ _ _ _, Below.refl _ _⟩
  case round =>
    obtain ⟨k, hk, rfl, hown, hb⟩ := hrel
    have HW := Lib.hid hown
    have HB := Lib.hid hb
    have CR := Lib.hid (C3.out.below hb)
    clear hown hb
    obtain ⟨c0, c1, c2, c3, c4, c5, c6, c7, c8, c9⟩ := CR.out
    by_cases hlt : k < 10
    · obtain ⟨x0, x1⟩ := small HF.out hlt
      have HX := Lib.hid (octsV_step [a0, a1, a2, a3, a4, a5, a6, a7, a8, a9] k ([a0, a1, a2, a3, a4, a5, a6, a7, a8, a9].getD k 0) hlt rfl)
      have F := Lib.hid (rfl : List.getD [a0, a1, a2, a3, a4, a5, a6, a7, a8, a9] k 0 = List.getD [a0, a1, a2, a3, a4, a5, a6, a7, a8, a9] k 0)
      generalize hx : List.getD [a0, a1, a2, a3, a4, a5, a6, a7, a8, a9] k 0 = x at x0 x1
      rw [hx] at HX
      have X := Lib.hid hx
      clear hx F
      have hcap : 2 * k + 2 ≤ maxLen := by unfold maxLen; omega
      go_wp2_with (first
        | (go_at_call 14; (with_reducible refine (field_as _ _ _ _ _ _ _ _ _ _ _ hlt X.out rfl rfl).mono ?_); rintro e w4 ⟨rfl, hb4⟩; have HW4 := Lib.hid (row_below HW.out hb4); have HB4 := Lib.hid (HB.out.trans (hb4.mono HB.out.size)); clear hb4)
        | (at_builtin; refine wpList_append_own _ rfl _ _ 29 rfl w3.heap.size 5 i0 (.int .u8 0) 1 1 Tryd.underlying29 hi hz0 hz1 hz2 rfl (by decide) _ _ _ rfl (HW4.out.alloc _) ⟨w4.heap.size, 0, none⟩ 2 2 [.int .u8 (x / 256), .int .u8 (x % 256)] rfl rfl (two_cells _ _ _ _ (by simp [go_sem]) (by simp [go_sem])) (two_one _ _ _ _) hcap (by omega) (by have := HB4.out.size; simp; omega) ?_))
      intro v' w5 hown5 hgrow5 _
      have H5 := Lib.hid hown5
      have B5 := Lib.hid ((HB4.out.alloc HB4.out.size (.cells #[.int .u8 (x / 256), .int .u8 (x % 256)] 5)).grown hgrow5 (by have := HB4.out.size; simp; omega) (row_ge HW4.out))
      clear hown5 hgrow5
      go_wp2
      go_roundw
      case rel => exact ⟨k + 1, by omega, by go_num, by rw [HX.out]; exact H5.out, B5.out⟩
      case measure => simp [intOf]; omega
    · have hk' : k = 10 := by omega
      subst hk'
      obtain ⟨g', cap', rfl⟩ := row_form HW.out (by omega)
      have e1 := conv_bytes (cap := cap) (by rw [octs_length]; rfl) (Bytes.of_row rfl HS.out (row_below HO3.out HB.out))
      have e2 := conv_bytes (cap := cap') (by rw [octs_length]; rfl) (Bytes.of_row rfl HS.out HW.out)
      generalize strOf (octs [a0, a1, a2, a3, a4, a5, a6, a7, a8, a9]) = sx at e1 e2
      go_wp2
      go_ret
      exact ⟨rfl, HB3.out.trans (HB.out.mono HB3.out.size)⟩
end
end Go.Proofs.YtdplkodaccjgaaaDoor.cf
