/- What a run of the law's own script on a set does; alive. -/
import Derived.Test.YtkejalafpejgdaaDoorBmG
namespace Go.Proofs.YtkejalafpejgdaaDoor.bm
open Go.ChangeShapes Go.WideShapes Go.ChangeAt Go.RowKit gen
set_option linter.unusedVariables false

theorem few_any (A : Option Addr) (n c : Nat) (w : World) (hn : n ≤ c) (hc : c ≤ maxLen) (hA : 0 < n → ∃ ad, A = some ad) :
    Calls Tryd.prog 10 #[.slice A n c] w fun e w' => (∃ m c', m ≤ 60 ∧ m ≤ n ∧ e = .returned (.slice A m c')) ∧ w = w' := by
  unfold maxLen at hc
  by_cases h : 60 < n
  · obtain ⟨ad, rfl⟩ := hA (by omega)
    clear hA
    have l1 : (60 : Int) ≤ c := by omega
    go_enter Tryd.func10, Tryd.ntmps10
    go_wp2
    all_goals
      go_ret
      exact ⟨⟨60, _, by omega, by omega, rfl⟩, rfl⟩
  · clear hA
    go_enter Tryd.func10, Tryd.ntmps10
    go_wp2
    go_ret
    exact ⟨⟨n, _, by omega, by omega, rfl⟩, rfl⟩
/-- What a run answers. -/
def RunAns (g n : Nat) (v0 : Value) (w : World) (e : Ending) (w' : World) : Prop :=
  ∃ A c ws m, e = .returned (.tuple #[.slice A m c, .bool true]) ∧ (nums ws).length = m ∧ SetAt w' g true n ws ∧ Lst w' g (.slice A m c) (nums ws) ∧ w.grownBy w' (some g) ∧ From w v0 (.slice A m c)
set_option maxHeartbeats 4000000 in
theorem run_any {g n m l c c2 B : Nat} {ws : List Nat} {w : World} {A D : Option Addr} {f : Nat → Nat → Int} (h : SetAt w g true n ws) (hm : (nums ws).length = m) (hl : Lst w g (.slice A m c) (nums ws)) (hT : Tab w) (hg0 : g ≠ 0)
    (ho : Rws w B D l 2 f) (hB : B ≤ g) (hn : l ≤ 60) :
    Calls Tryd.prog 7 #[.pointer (some ⟨g, 0, none⟩), .int .i64 n, .slice A m c, .slice D l c2] w (RunAns g n (.slice A m c) w) := by
  have H := Lib.hid h
  have HM := Lib.hid hm
  have HL := Lib.hid hl
  have HT := Lib.hid hT
  have HO := Lib.hid ho
  have HB := Lib.hid hB
  have HG := Lib.hid (show some 0 ≠ some g by simpa using Ne.symm hg0)
  have HG0 := Lib.hid hg0
  clear h hm hl hT ho hB hg0
  go_enter Tryd.func7, Tryd.ntmps7
  go_wp2
  go_loopw [2, 10, 11] (fun v o i wr => ∃ (k : Nat) (A' : Option Addr) (c' m' : Nat) (ws' : List Nat), k ≤ l ∧ i = .int .i64 k ∧ o = .bool true ∧ v = .slice A' m' c' ∧ (nums ws').length = m' ∧ SetAt wr g true n ws' ∧ Lst wr g (.slice A' m' c') (nums ws') ∧ w.grownBy wr (some g) ∧ From w (.slice A m c) (.slice A' m' c')) (fun _ _ i _ => l - (intOf i).toNat)
  case atStart => exact ⟨0, A, c, m, ws, Nat.zero_le _, rfl, rfl, rfl, HM.out, H.out, HL.out, grown_refl _ _, From.same _ _⟩
  case round =>
    obtain ⟨k, A1, c1, m1, ws1, hk, rfl, rfl, rfl, hy, hm, hl, hg, hfr⟩ := hrel
    have FR := Lib.hid hfr
    have HY := Lib.hid hy
    have M1 := Lib.hid hm
    have L1 := Lib.hid hl
    have G1 := Lib.hid hg
    have T1 := Lib.hid (HT.out.kept hg HG.out)
    have O1 := Lib.hid (HO.out.kept hg (fun q e => by cases e; exact HB.out))
    clear hy hm hl hg hfr HL H HO
    by_cases hlt : k < l
    · obtain ⟨b, off, rfl, hb, hc, hw⟩ := O1.out k hlt
      have d0 := hc 0 (by omega)
      rw [Nat.add_zero] at d0
      have d1 := hc 1 (by omega)
      generalize f k 0 = x0 at d0
      generalize f k 1 = x1 at d1
      clear hc hw O1
      go_wp2_with (first
        | (go_at_call 21; (with_reducible refine (step_any x0 x1 M1.out HY.out L1.out T1.out).mono ?_); rintro e w2 ⟨A2, e2, ws2, m2, rfl, hz2, hm2, hl2, hg2, hf2⟩; have F2 := Lib.hid (FR.out.then hf2 G1.out.size); have HZ := Lib.hid hz2; have M2 := Lib.hid hm2; have L2 := Lib.hid hl2; have G2 := Lib.hid (G1.out.trans hg2); have T2 := Lib.hid (T1.out.kept hg2 HG.out); have m2s := nums_length ws2; rw [hz2] at m2s; clear hz2 hm2 hl2 hg2 hf2)
        | (go_at_call 18; (with_reducible refine (Count_yes M2.out).mono ?_); rintro e w' ⟨rfl, hw⟩; subst hw; rw [HZ.out])
        | (go_at_call 14; (with_reducible refine (All_yes M2.out T2.out HG0.out).mono ?_); rintro e w3 ⟨A3, e3, rfl, ho3, hg3⟩; have R3 := Lib.hid (rd_own ho3); have M3 := Lib.hid (M2.out.kept hg3 (by simp)); have L3 := Lib.hid (L2.out.made hg3); have G3 := Lib.hid (grown_more G2.out hg3); clear ho3 hg3)
        | (go_at_call 13; (with_reducible refine (Ints_true (nums ws2) _ _ _ _ _ _ _ _ _ (by rw [HZ.out]; omega) HZ.out R3.out (L3.out.rd' HZ.out)).mono ?_); rintro e w4 ⟨rfl, q, rfl⟩))
      go_roundw
      case rel => exact ⟨k + 1, A2, e2, m2, ws2, by omega, by go_num, rfl, rfl, HZ.out, M3.out.drewN q, L3.out.drewN q, grown_more G3.out (grown_drewN _ _ _), F2.out⟩
      case measure => simp [intOf]; omega
    · go_wp2
      go_ret2
      exact ⟨_, _, _, _, rfl, HY.out, M1.out, L1.out, G1.out, FR.out⟩
/-! ### alive -/
def al1 : List Nat := put zeros 3
def al2 : List Nat := put al1 64
theorem al_next : nextOf (nums al2) 4 = 64 := by decide +kernel
theorem al_count : (nums al2).length = 2 := by decide +kernel
section
variable {w : World} {g : Nat}
theorem al_a3 (h : SetAt w g true 100 zeros) : Calls Tryd.prog 15 #[.pointer (some ⟨g, 0, none⟩), .int .i64 3] w fun e w' => e = .returned (.bool true) ∧ SetAt w' g true 100 al1 ∧ w.grownBy w' (some g) := Add_yes h 3 (by decide) (by decide +kernel)
theorem al_a64 (h : SetAt w g true 100 al1) : Calls Tryd.prog 15 #[.pointer (some ⟨g, 0, none⟩), .int .i64 64] w fun e w' => e = .returned (.bool true) ∧ SetAt w' g true 100 al2 ∧ w.grownBy w' (some g) := Add_yes h 64 (by decide) (by decide +kernel)
theorem al_b3 (h : SetAt w g true 100 al2) : Calls Tryd.prog 15 #[.pointer (some ⟨g, 0, none⟩), .int .i64 3] w fun e w' => e = .returned (.bool false) ∧ Drew w w' := Add_in h 3 (by decide) (by decide +kernel)
theorem al_n4 (h : SetAt w g true 100 al2) (hT : Tab w) : Calls Tryd.prog 19 #[.pointer (some ⟨g, 0, none⟩), .int .i64 4] w fun e w' => e = .returned (.int .i64 64) ∧ Drew w w' := al_next ▸ Next_any h hT 4
theorem al_c (h : SetAt w g true 100 al2) : Calls Tryd.prog 18 #[.pointer (some ⟨g, 0, none⟩)] w fun e w' => e = .returned (.int .i64 2) ∧ w' = w := by
  have := Count_yes h
  rw [al_count] at this
  exact this
theorem al_h3 (h : SetAt w g true 100 al2) : Calls Tryd.prog 17 #[.pointer (some ⟨g, 0, none⟩), .int .i64 3] w fun e w' => e = .returned (.bool true) ∧ Drew w w' := Has_yes h 3 (by decide) (by decide +kernel)
theorem al_h4 (h : SetAt w g true 100 al2) : Calls Tryd.prog 17 #[.pointer (some ⟨g, 0, none⟩), .int .i64 4] w fun e w' => e = .returned (.bool false) ∧ Drew w w' := Has_no h 4 (by decide) (by decide +kernel)
end
set_option maxHeartbeats 1000000 in
theorem alive_any {w : World} (hT : Tab w) : Calls Tryd.prog 6 #[] w fun e w' => e = .returned (.bool true) ∧ w.grownBy w' none := by
  have NW := Lib.hid (New_any 100 100 (by decide) w)
  have HT := Lib.hid hT
  clear hT
  go_enter Tryd.func6, Tryd.ntmps6
  go_wp2_with (first
    | (go_at_call 8; (with_reducible refine NW.out.mono ?_); rintro e w1 ⟨g, rfl, hm, hg, hw⟩; have M1 := Lib.hid hm; have G1 := Lib.hid hw; have T1 := Lib.hid (HT.out.kept hw (by simp)); have HG := Lib.hid (show some 0 ≠ some g from by have := HT.out.1; simp; omega); have HGE := Lib.hid hg; clear hm hw hg)
    | (have mark := M3; go_at_call 15; (with_reducible refine (al_b3 M3.out).mono ?_); rintro e w' ⟨rfl, d4, rfl⟩)
    | (have mark := M2; go_at_call 15; (with_reducible refine (al_a64 M2.out).mono ?_); rintro e w3 ⟨rfl, hm, hw⟩; have M3 := Lib.hid hm; have G3 := Lib.hid (grown_new G2.out hw HGE.out); have T3 := Lib.hid (T2.out.kept hw HG.out); clear hm hw)
    | (go_at_call 15; (with_reducible refine (al_a3 M1.out).mono ?_); rintro e w2 ⟨rfl, hm, hw⟩; have M2 := Lib.hid hm; have G2 := Lib.hid (grown_new G1.out hw HGE.out); have T2 := Lib.hid (T1.out.kept hw HG.out); clear hm hw)
    | (go_at_call 19; (with_reducible refine (al_n4 (M3.out.drewN d4) (T3.out.drewN d4)).mono ?_); rintro e w' ⟨rfl, d5, rfl⟩; have M5 := Lib.hid (M3.out.drewN (d4 + d5)))
    | (go_at_call 18; (with_reducible refine (al_c M5.out).mono ?_); rintro e w' ⟨rfl, hw⟩; subst hw)
    | (have mark := M6; go_at_call 17; (with_reducible refine (al_h4 M6.out).mono ?_); rintro e w' ⟨rfl, d7, rfl⟩; have G7 := Lib.hid (grown_more G3.out (grown_drewN w3 (d4 + d5 + d6 + d7) none)))
    | (go_at_call 17; (with_reducible refine (al_h3 M5.out).mono ?_); rintro e w' ⟨rfl, d6, rfl⟩; have M6 := Lib.hid (M3.out.drewN (d4 + d5 + d6))))
  go_ret
  exact ⟨rfl, G7.out⟩
end Go.Proofs.YtkejalafpejgdaaDoor.bm
