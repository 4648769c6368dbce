/- A script, by the program and by the list. -/
import Derived.Test.YtagahkofjgbfhaaCaK
namespace Go.Proofs.Ytagahkofjgbfhaa.ca
open Go.ChangeShapes Go.WideShapes Go.ChangeAt Go.RowKit Go.Maps gen calls cls
set_option linter.unusedVariables false
set_option maxHeartbeats 8000000
set_option maxRecDepth 100000
section
variable {w w' : World} {c mb n : Nat} {m : List Ow} {D : DataW Unit} {v : Value}
def RAns (c mb n : Nat) (w : World) (e : Ending) (w' : World) : Prop :=
  ∃ v' m' D', e = .returned (.tuple #[v', .bool true]) ∧ At w' c mb n m' D' ∧ Lo w' 0 v' m' ∧ w.grownBy w' (some mb)
theorem step_any (C : At w c mb n m D) (L : Lo w 0 v m) (q t k p : Int) (ht : fits t = true) (hk : fits k = true) :
    Calls Try.prog 19 #[.pointer (some ⟨c, 0, none⟩), .int .i64 n, v, .agg #[.int .i64 q, .int .i64 t, .int .i64 k, .int .i64 p]] w (RAns c mb n w) := by
  have go : ∀ m', Calls Try.prog 19 #[.pointer (some ⟨c, 0, none⟩), .int .i64 n, v, .agg #[.int .i64 q, .int .i64 t, .int .i64 k, .int .i64 p]] w (SAns c mb n m' w) →
      Calls Try.prog 19 #[.pointer (some ⟨c, 0, none⟩), .int .i64 n, v, .agg #[.int .i64 q, .int .i64 t, .int .i64 k, .int .i64 p]] w (RAns c mb n w) := fun m' h =>
    h.mono fun e w' ⟨v', D', h1, h2, h3, h4⟩ => ⟨v', m', D', h1, h2, h3, h4⟩
  by_cases h1 : q = 1
  · subst h1
    cases hm : may n m t k p
    · exact go _ (step_no C L t k p ht hk hm)
    · exact go _ (step_set C L t k p ht hk hm)
  by_cases h2 : q = 2
  · subst h2
    exact go _ (step_drop C L t k p)
  exact go _ (step_ask C L q t k p ht hk (by simpa using h1) (by simpa using h2))
theorem run_any (C : At w c mb n m D) (L : Lo w 0 v m) {B l c3 : Nat} {A : Option Addr} {f : Nat → Nat → Int} (O : Rws w B A l 4 f) (hB : B ≤ mb) (hl : l ≤ 50) :
    Calls Try.prog 7 #[.pointer (some ⟨c, 0, none⟩), .int .i64 n, v, .slice A l c3] w (RAns c mb n w) := by
  have OO := Lib.hid O
  have BB := Lib.hid hB
  have CC := Lib.hid C
  have LL := Lib.hid L
  obtain ⟨i0, hi, hz0, hz1, hz2⟩ := info_parts bm.info_int
  have E : Hid (i0.zero = some (.int .i64 0) ∧ i0.size = 1 ∧ i0.bytes = 8 ∧ Try.prog.info? 3 = some i0) := ⟨hz0, hz1, hz2, hi⟩
  clear C L O hB hi hz0 hz1 hz2
  go_enter Try.func7, Try.ntmps7
  go_wp2
  go_loopw [2, 10, 11] (fun u ok i wr => ∃ (j : Nat) (m' : List Ow) (D' : DataW Unit), j ≤ l ∧ i = .int .i64 j ∧ ok = .bool true ∧ At wr c mb n m' D' ∧ Lo wr 0 u m' ∧ w.grownBy wr (some mb)) (fun _ _ i _ => l - (intOf i).toNat)
  case atStart => exact ⟨0, m, D, Nat.zero_le _, rfl, rfl, CC.out, LL.out, World.grownBy.refl _ _⟩
  case round =>
    obtain ⟨j, m', D', hj, rfl, rfl, h1, h2, h3⟩ := hrel
    have C1 := Lib.hid h1
    have L1 := Lib.hid h2
    have G1 := Lib.hid h3
    clear h1 h2 h3
    by_cases hlt : j < l
    · obtain ⟨b, off, hA, hb, hc, hw⟩ := (OO.out.kept G1.out (fun r e => by cases e; exact BB.out)) j hlt
      subst hA
      have d0 := hc 0 (by omega)
      rw [Nat.add_zero] at d0
      have d1 := hc 1 (by omega)
      have d2 := hc 2 (by omega)
      have d3 := hc 3 (by omega)
      have W1 := Lib.hid (fits_iff.mpr (hw 1 (by omega)))
      have W2 := Lib.hid (fits_iff.mpr (hw 2 (by omega)))
      generalize f j 0 = x0 at d0
      generalize f j 1 = x1 at d1 W1
      generalize f j 2 = x2 at d2 W2
      generalize f j 3 = x3 at d3
      clear hc hw
      have l3 : (j : Int) < l := by omega
      go_wp2_with (first
        | (go_at_call 19; (with_reducible refine (step_any C1.out L1.out _ _ _ _ W1.out W2.out).mono ?_); rintro e w4 ⟨v4, m4, D4, rfl, h1, h2, h3⟩; have C4 := Lib.hid h1; have L4 := Lib.hid h2; have G4 := Lib.hid (G1.out.trans h3); clear h1 h2 h3))
      obtain ⟨A4, N4, k4, hv4, hN4, hk4, hk5⟩ := L4.out.shape
      subst hv4
      have HN := Lib.hid hN4
      have FEW := Lib.hid (show N4 ≤ 64 by have := C4.out.good.few; omega)
      have l4 := FEW.out
      clear hN4 hk4 hk5
      go_loopw [12, 13] (fun a i wr => ∃ (k : Nat) (A5 : Option Addr) (c5 : Nat), k ≤ N4 ∧ i = .int .i64 k ∧ a = .slice A5 k c5 ∧ wr.ownsRow w4.heap.size 3 1 (.slice A5 k c5) k (bm.ints ((m4.take k).map (·.2.2))) ∧ w4.grownBy wr none) (fun _ i _ => N4 - (intOf i).toNat)
      case atStart => exact ⟨0, none, 0, Nat.zero_le _, rfl, rfl, World.ownsRow_nil _ _ _ _, World.grownBy.refl _ _⟩
      case round =>
        obtain ⟨k, A5, c5, hk, rfl, rfl, h1, h2⟩ := hrel
        have O5 := Lib.hid h1
        have G5 := Lib.hid h2
        have L5 := Lib.hid (L4.out.new h2)
        have SZ := Lib.hid h2.size
        clear h1 h2
        by_cases hlk : k < N4
        · obtain ⟨b5, off5, hA5, c0, c1, c2⟩ := L5.out.at_ HN.out hlk
          subst hA5
          have TM := Lib.hid (take_more (m := m4) (i := k) (by have := HN.out; omega))
          generalize m4.getD k (0, 0, 0) = x at c0 c1 c2 TM
          obtain ⟨y1, y2, y3⟩ := x
          dsimp only at c0 c1 c2
          have l5 : (0 : Int) ≤ (k : Int) := by omega
          have l6 : (k : Int) < N4 := by omega
          go_wp2_with (first
            | (refine wpList_append_rd rfl (.tmp 40) (.tmp 46) 34 rfl w4.heap.size 3 i0 (.int .i64 0) 8 Try.underlying34 E.out.2.2.2 E.out.1 E.out.2.1 E.out.2.2.1 rfl _ k ((m4.take k).map (·.2.2)) rfl (O5.out.alloc _) (some ⟨wr.heap.size, 0, none⟩) 1 1 _ [y3] rfl (li.Rd.one_at _ _ _ rfl) (by unfold maxLen; omega) (by omega) (by have := SZ.out; simp; omega) ?_; intro A6 c6 w6 own1 rd1 gr1; have O6 := Lib.hid own1; have G6 := Lib.hid ((G5.out.trans (World.grownBy_alloc wr (.cells #[.int .i64 y3] 3) none)).andThen gr1 (fun j hj => .inl (O5.out.lt j hj).1)); clear own1 gr1 rd1)
            | go_in)
          go_roundw
          case rel => exact ⟨k + 1, A6, c6, by omega, by go_num, rfl, by rw [TM.out, List.map_append]; exact O6.out, G6.out⟩
          case measure => simp [intOf]; omega
        · obtain rfl : k = N4 := by omega
          have e1 : m4.take k = m4 := List.take_of_length_le (by have := HN.out; omega)
          rw [e1] at O5
          have C5 := Lib.hid (C4.out.new G5.out)
          have RL := Lib.hid (show (bm.rising (m4.map (·.2.2))).length ≤ 64 by have := bm.rising_length (m4.map (·.2.2)); rw [List.length_map] at this; have := C4.out.good.few; omega)
          clear e1
          go_wp2_with (first
            | (go_at_call 16; (with_reducible refine (All_any C5.out).mono ?_); rintro e w6 ⟨A6, N6, k6, rfl, h1, h2, hg⟩; have N6' := Lib.hid h1; have O6 := Lib.hid h2; have G6 := Lib.hid hg; have P6 := Lib.hid (bm.rd_own (World.ownsRow.kept O5.out hg (by cases (Value.slice A5 k c5).ownBlock <;> simp))); clear h1 h2 hg)
            | (go_at_call 20; (with_reducible refine (bm.Rising_any (B := 0) (by omega) P6.out).mono ?_); rintro e w7 ⟨A7, c7, rfl, ho, hg⟩; have O7 := Lib.hid ho; have G7 := Lib.hid hg; have R7 := Lib.hid (bm.rd_own (World.ownsRow.kept O6.out hg (by cases (Value.slice A6 N6 k6).ownBlock <;> simp))); clear ho hg)
            | (go_at_call 18; (with_reducible refine (bm.Ints_true (bm.rising (m4.map (·.2.2))) _ _ _ _ _ _ _ _ _ (by have := RL.out; have := N6'.out; omega) N6'.out R7.out (bm.rd_own O7.out)).mono ?_); rintro e w8 ⟨rfl, hd⟩; have G8 := Lib.hid (show w7.grownBy w8 none by obtain ⟨j, rfl⟩ := hd; exact grown_drewN _ _ _); clear hd))
          have G9 := Lib.hid (G5.out.trans (G6.out.trans (G7.out.trans G8.out)))
          go_roundw
          case rel => exact ⟨j + 1, m4, D4, by omega, by go_num, rfl, C4.out.new G9.out, L4.out.new G9.out, G4.out.trans (G9.out.but _)⟩
          case measure => simp [intOf]; omega
    · obtain rfl : j = l := by omega
      go_wp2
      go_ret2
      exact ⟨_, m', D', rfl, C1.out, L1.out, G1.out⟩
end
end Go.Proofs.Ytagahkofjgbfhaa.ca
