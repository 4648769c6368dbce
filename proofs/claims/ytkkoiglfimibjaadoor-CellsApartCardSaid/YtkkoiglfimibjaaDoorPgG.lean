/- What the plain answers that make lists (Set, Span, New) do, and the law's few. -/
import Derived.Test.YtkkoiglfimibjaaDoorPgF
import Derived.Test.YtkkoiglfimibjaaDoorGenC
namespace Go.Proofs.YtkkoiglfimibjaaDoor.pg
open Go.ChangeShapes Go.WideShapes Go.ChangeAt Go.RowKit gen calls cls li
set_option linter.unusedVariables false

theorem rSet_any {w : World} {A : Option Addr} {n c : Nat} {xs : List Int} (ys : List Int) (hs : n ≤ 64) (h : Rd w w.heap.size A n c xs) (p m k : Int) (hp : fits p = true) (hm : 0 ≤ m ∧ m ≤ 64) (hl : ys.length = n)
    (hy : ∀ i : Nat, i < n → ys.getD i 0 = if p ≤ i ∧ (i : Int) < p + m then k else xs.getD i 0) :
    Calls Tryd.prog 78 #[.slice A n c, .int .i64 p, .int .i64 m, .int .i64 k] w (ListAns ys w) := by
  obtain ⟨p0, p1⟩ := fits_iff.mp hp
  obtain ⟨m0, m1⟩ := hm
  have H := Lib.hid h
  have HL := Lib.hid hl
  have HY := Lib.hid hy
  obtain ⟨i0, hi, hz0, hz1, hz2⟩ := info_parts info_int
  have E : Hid (i0.zero = some (.int .i64 0) ∧ i0.size = 1 ∧ i0.bytes = 8 ∧ Tryd.prog.info? 3 = some i0) := ⟨hz0, hz1, hz2, hi⟩
  clear hi hz0 hz1 hz2 h hl hy hp
  go_enter Tryd.func78, Tryd.ntmps78
  go_wp2
  go_loopw [9, 10] (fun v i wr => ∃ (j : Nat) (A' : Option Addr) (c' : Nat), j ≤ n ∧ i = .int .i64 j ∧ v = .slice A' j c' ∧ wr.ownsRow w.heap.size 3 1 (.slice A' j c') j (ints (ys.take j)) ∧ w.grownBy wr none) (fun _ i _ => n - (intOf i).toNat)
  case atStart => exact ⟨0, none, 0, Nat.zero_le _, rfl, rfl, World.ownsRow_nil _ _ _ _, grown_refl _ _⟩
  case round =>
    obtain ⟨j, A', c', hj, rfl, rfl, ho, hg⟩ := hrel
    have HO := Lib.hid ho
    have HG := Lib.hid hg
    have R := Lib.hid (H.out.below (grown_below hg))
    clear ho hg
    by_cases hlt : j < n
    · obtain ⟨b1, o1, rfl, g1⟩ := R.out.at_ hlt
      have HF := Lib.hid (take_more (xs := ys) (k := j) (by rw [HL.out]; exact hlt) 0)
      have hyj := HY.out j hlt
      generalize xs.getD j 0 = x at g1 hyj
      by_cases h1 : p ≤ (j : Int)
      · by_cases h2 : (j : Int) < p + m
        · rw [if_pos ⟨h1, h2⟩] at hyj
          have HYJ := Lib.hid hyj
          have l3 : IntKind.i64.wrap (p + m) = p + m := IntWalk.i64_in _ (by omega)
          clear hyj
          go_wp2_with (refine wpList_append_rd rfl (.tmp 27) (.tmp 29) 30 rfl w.heap.size 3 i0 (.int .i64 0) 8 Tryd.underlying30 E.out.2.2.2 E.out.1 E.out.2.1 E.out.2.2.1 rfl _ j (ys.take j) rfl (HO.out.alloc _) (some ⟨wr.heap.size, 0, none⟩) 1 1 _ [k] rfl (Rd.one _ _ _) (by unfold maxLen; omega) (by omega) (by have := HG.out.size; simp; omega) ?_; intro A3 c3 w2 own1 rd1 gr1; have OWN1 := Lib.hid own1; have GR1 := Lib.hid gr1; clear own1 gr1 rd1)
          go_roundw
          case rel => exact ⟨j + 1, A3, c3, by omega, by go_num, rfl, by rw [HF.out, HYJ.out]; exact OWN1.out, grown_one HG.out HO.out (Nat.le_refl _) GR1.out⟩
          case measure => simp [intOf]; omega
        · rw [if_neg (fun h => h2 h.2)] at hyj
          have HYJ := Lib.hid hyj
          have l3 : IntKind.i64.wrap (p + m) = p + m := IntWalk.i64_in _ (by omega)
          clear hyj
          go_wp2_with (refine wpList_append_rd rfl (.tmp 31) (.tmp 36) 30 rfl w.heap.size 3 i0 (.int .i64 0) 8 Tryd.underlying30 E.out.2.2.2 E.out.1 E.out.2.1 E.out.2.2.1 rfl _ j (ys.take j) rfl (HO.out.alloc _) (some ⟨wr.heap.size, 0, none⟩) 1 1 _ [x] rfl (Rd.one _ _ _) (by unfold maxLen; omega) (by omega) (by have := HG.out.size; simp; omega) ?_; intro A3 c3 w2 own1 rd1 gr1; have OWN1 := Lib.hid own1; have GR1 := Lib.hid gr1; clear own1 gr1 rd1)
          go_roundw
          case rel => exact ⟨j + 1, A3, c3, by omega, by go_num, rfl, by rw [HF.out, HYJ.out]; exact OWN1.out, grown_one HG.out HO.out (Nat.le_refl _) GR1.out⟩
          case measure => simp [intOf]; omega
      · rw [if_neg (fun h => h1 h.1)] at hyj
        have HYJ := Lib.hid hyj
        clear hyj
        go_wp2_with (refine wpList_append_rd rfl (.tmp 31) (.tmp 36) 30 rfl w.heap.size 3 i0 (.int .i64 0) 8 Tryd.underlying30 E.out.2.2.2 E.out.1 E.out.2.1 E.out.2.2.1 rfl _ j (ys.take j) rfl (HO.out.alloc _) (some ⟨wr.heap.size, 0, none⟩) 1 1 _ [x] rfl (Rd.one _ _ _) (by unfold maxLen; omega) (by omega) (by have := HG.out.size; simp; omega) ?_; intro A3 c3 w2 own1 rd1 gr1; have OWN1 := Lib.hid own1; have GR1 := Lib.hid gr1; clear own1 gr1 rd1)
        go_roundw
        case rel => exact ⟨j + 1, A3, c3, by omega, by go_num, rfl, by rw [HF.out, HYJ.out]; exact OWN1.out, grown_one HG.out HO.out (Nat.le_refl _) GR1.out⟩
        case measure => simp [intOf]; omega
    · obtain rfl : j = n := by omega
      go_wp2
      go_ret
      have ho := HO.out
      have hl := HL.out
      rw [List.take_of_length_le (by omega)] at ho
      subst hl
      exact ⟨A', c', rfl, ho, HG.out⟩
theorem rSpan_any {w : World} {A : Option Addr} {n c : Nat} {xs : List Int} (hs : n ≤ 64) (h : Rd w w.heap.size A n c xs) (p m : Nat) (h1 : 1 ≤ m) (hm : p + m ≤ n) :
    Calls Tryd.prog 95 #[.slice A n c, .int .i64 p, .int .i64 m] w (ListAns (spanN xs p m) w) := by
  have hl := h.1
  have S1 := Lib.hid (rSet_any (fillN xs p 6 m) hs h p m 6 (by simp [fits]; omega) (by omega) (by rw [fillN_length, hl]) (fun i hi => by
    rw [fillN_getD _ _ _ _ (by omega)]
    repeat' split
    all_goals first | rfl | omega))
  have S2 := Lib.hid (fun w1 A1 c1 (h1' : Rd w1 w1.heap.size A1 n c1 (fillN xs p 6 m)) => rSet_any (spanN xs p m) hs h1' p 1 5 (by simp [fits]; omega) (by omega) (by rw [spanN_length, hl]) (fun i hi => by
    rw [spanN_getD _ _ _ h1 (by omega), fillN_getD _ _ _ _ (by omega)]
    repeat' split
    all_goals first | rfl | omega))
  have HL := Lib.hid (show (fillN xs p 6 m).length = n by rw [fillN_length, hl])
  clear h hl
  go_enter Tryd.func95, Tryd.ntmps95
  go_wp2_with (first
    | (have mark := R1; go_at_call 78; (with_reducible refine (S2.out _ _ _ R1.out).mono ?_); rintro e w2 ⟨A2, c2, rfl, ho2, hg2⟩; have O2 := Lib.hid ho2; have G2 := Lib.hid hg2; clear ho2 hg2)
    | (go_at_call 78; (with_reducible refine S1.out.mono ?_); rintro e w1 ⟨A1, c1, rfl, ho, hg⟩; rw [HL.out] at ho ⊢; have R1 := Lib.hid (rd_own ho); have G1 := Lib.hid hg; clear ho hg))
  go_ret
  exact ⟨A2, c2, rfl, own_mono O2.out G1.out.size, G1.out.trans G2.out⟩
theorem rNew_any (n : Int) (k : Nat) (hk : near n 0 64 = k) (w : World) :
    Calls Tryd.prog 34 #[.int .i64 n] w fun e w' => ∃ r, e = .returned (.slice (some ⟨r, 0, none⟩) k k) ∧ w'.ownsRow w.heap.size 3 1 (.slice (some ⟨r, 0, none⟩) k k) k (ints (List.replicate k 0)) ∧ w.grownBy w' none := by
  have k64 : k ≤ 64 := by
    unfold near at hk
    repeat' split at hk
    all_goals omega
  have O := Lib.hid (World.ownsRow_lit (base := w.heap.size) (e := 3) (size := 1) w (ints (List.replicate k 0)).toArray k (Nat.le_refl _) (by unfold maxLen; omega) (by simp [ints]))
  have G := Lib.hid (World.grownBy_alloc w (.cells (ints (List.replicate k 0)).toArray 3) none)
  by_cases h1 : n < 0
  · obtain rfl : k = 0 := by unfold near at hk; rw [if_pos h1] at hk; omega
    have mk : (Instr.makeSlice 30 (.int .i64 0) (.int .i64 0)).run Tryd.prog w = .ok (.slice (some ⟨w.heap.size, 0, none⟩) 0 0) (w.alloc (.cells (ints (List.replicate 0 0)).toArray 3)) := make_ints 0 (by omega) w
    generalize (ints (List.replicate 0 0)) = cs at *
    clear hk
    go_enter Tryd.func34, Tryd.ntmps34
    go_wp2
    go_ret
    exact ⟨w.heap.size, rfl, O.out, G.out⟩
  by_cases h2 : 64 < n
  · obtain rfl : k = 64 := by unfold near at hk; rw [if_neg h1, if_pos h2] at hk; omega
    have mk : (Instr.makeSlice 30 (.int .i64 64) (.int .i64 64)).run Tryd.prog w = .ok (.slice (some ⟨w.heap.size, 0, none⟩) 64 64) (w.alloc (.cells (ints (List.replicate 64 0)).toArray 3)) := make_ints 64 (by omega) w
    generalize (ints (List.replicate 64 0)) = cs at *
    clear hk
    go_enter Tryd.func34, Tryd.ntmps34
    go_wp2
    go_ret
    exact ⟨w.heap.size, rfl, O.out, G.out⟩
  · obtain rfl : n = k := by unfold near at hk; rw [if_neg h1, if_neg h2] at hk; omega
    have mk := make_ints k (by omega) w
    generalize (ints (List.replicate k 0)) = cs at *
    clear hk
    go_enter Tryd.func34, Tryd.ntmps34
    go_wp2
    go_ret
    exact ⟨w.heap.size, rfl, O.out, G.out⟩
end Go.Proofs.YtkkoiglfimibjaaDoor.pg
