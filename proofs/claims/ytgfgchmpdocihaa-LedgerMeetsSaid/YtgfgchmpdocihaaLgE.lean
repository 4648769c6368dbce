/- The law's own small functions few, put, count; alive. -/
import Derived.Test.YtgfgchmpdocihaaLgD
namespace Go.Proofs.Ytgfgchmpdocihaa.lg
open Go.ChangeShapes Go.WideShapes Go.ChangeAt Go.RowKit gen lb
set_option linter.unusedVariables false
set_option maxHeartbeats 1000000
set_option maxRecDepth 100000
theorem few_any (A : Option Addr) (n c : Nat) (w : World) (hn : n ≤ c) (hc : c ≤ maxLen) (hA : 0 < n → ∃ ad, A = some ad) :
    Calls Try.prog 7 #[.slice A n c] w fun e w' => (∃ m c', m ≤ 60 ∧ m ≤ n ∧ e = .returned (.slice A m c')) ∧ w = w' := by
  unfold maxLen at hc
  by_cases h : 60 < n
  · obtain ⟨ad, rfl⟩ := hA (by omega)
    clear hA
    have l1 : (60 : Int) ≤ c := by omega
    go_enter Try.func7, Try.ntmps7
    go_wp2
    all_goals
      go_ret
      exact ⟨⟨60, _, by omega, by omega, rfl⟩, rfl⟩
  · clear hA
    go_enter Try.func7, Try.ntmps7
    go_wp2
    go_ret
    exact ⟨⟨n, _, by omega, by omega, rfl⟩, rfl⟩
/-- Letters, behind others. -/
theorem put_any {w : World} {A : Option Addr} {n c : Nat} {m : List Bool} (h : Rb w A n c m) (hn : n ≤ 65536) (k : Nat) (hk : k ≤ 64) (y : Bool) :
    Calls Try.prog 9 #[.slice A n c, .int .i64 (k : Int), .bool y] w (LbAns (m ++ List.replicate k y) w) := by
  have H := Lib.hid h
  clear h
  go_enter Try.func9, Try.ntmps9
  go_wp2_with (refine append_bools rfl (.tmp 9) (.tmp 10) rfl w.heap.size (.slice none 0 0) [] rfl (Lb.nil _ _) A n c m rfl H.out (by simp; omega) (Nat.le_refl _) ?_; intro A1 N1 c1 w1 hn1 o1 g1; have HN1 := Lib.hid (show N1 = m.length by simpa using hn1); have O1 := Lib.hid (show Lb w1 w.heap.size (.slice A1 N1 c1) m by simpa using o1); have G1 := Lib.hid (show w.grownBy w1 none from g1); clear hn1 o1 g1)
  go_loopw [7, 8] (fun o i wr => ∃ (j N' : Nat) (A' : Option Addr) (c' : Nat), j ≤ k ∧ i = .int .i64 j ∧ o = .slice A' N' c' ∧ N' = (m ++ List.replicate j y).length ∧ Lb wr w.heap.size (.slice A' N' c') (m ++ List.replicate j y) ∧ w.grownBy wr none) (fun _ i _ => k - (intOf i).toNat)
  case atStart => exact ⟨0, N1, A1, c1, Nat.zero_le _, rfl, rfl, by simpa using HN1.out, by simpa using O1.out, G1.out⟩
  case round =>
    obtain ⟨j, N', A', c', hj, rfl, rfl, hN', ho, hg⟩ := hrel
    have HN := Lib.hid hN'
    have HO := Lib.hid ho
    have HG := Lib.hid hg
    have SZ := Lib.hid hg.size
    clear hN' ho hg
    by_cases hlt : j < k
    · have LE := Lib.hid (show (m ++ List.replicate j y).length ≤ 65600 by have := H.out.1; rw [List.length_append, List.length_replicate]; omega)
      have RS := Lib.hid (rep_snoc m j y)
      generalize m ++ List.replicate j y = l at HN HO LE RS
      go_wp2_with (refine append_bools rfl (.tmp 17) (.tmp 19) rfl w.heap.size (.slice A' N' c') l rfl (HO.out.new (World.grownBy_alloc _ _ _)) (some ⟨wr.heap.size, 0, none⟩) 1 1 [y] rfl (Rb.one (by go_simp)) (by have := LE.out; omega) (by have := SZ.out; simp; omega) ?_; intro A2 N2 c2 w2 hn2 o2 g2; have HN2 := Lib.hid hn2; have O2 := Lib.hid o2; have G2 := Lib.hid (li.grown_own (HG.out.trans (World.grownBy_alloc _ _ _)) (HO.out.new (World.grownBy_alloc wr (.cells #[.bool y] 4) none)) g2 (Nat.le_refl _)); clear hn2 o2 g2)
      go_roundw
      case rel => exact ⟨j + 1, N2, A2, c2, by omega, by go_num, rfl, by rw [RS.out]; exact HN2.out, by rw [RS.out]; exact O2.out, G2.out⟩
      case measure => simp [intOf]; omega
    · obtain rfl : j = k := by omega
      go_wp2
      go_ret
      exact ⟨A', N', c', rfl, HN.out, HO.out, HG.out⟩
/-- How many of the last n are the collector's. -/
theorem lcount_any {w : World} {A : Option Addr} {n c : Nat} {m : List Bool} (h : Rb w A n c m) (hn : n ≤ 65536) (k : Nat) (hk : k ≤ 64) : Calls Try.prog 11 #[.slice A n c, .int .i64 (k : Int)] w fun e w' => e = .returned (.int .i64 (cnt (lastn k m) : Int)) ∧ w = w' := by
  have H := Lib.hid h
  clear h
  have HL := Lib.hid H.out.1
  obtain ⟨d, hd⟩ : ∃ d, d = n - k := ⟨_, rfl⟩
  have hs : (n < k ∧ d = 0) ∨ (k ≤ n ∧ d = n - k) := by omega
  have HE := Lib.hid (show lastn k m = m.drop d by unfold lastn; rw [HL.out, hd])
  have hdn : d ≤ n := by omega
  have S0 := Lib.hid (show cnt ((m.take d).drop d) = 0 by rw [List.drop_eq_nil_of_le (by rw [List.length_take]; omega)]; rfl)
  clear hd
  rcases hs with ⟨q1, q2⟩ | ⟨q1, q2⟩
  · have e1 : decide ((0 : Int) < (n : Int) - (k : Int)) = false := decide_eq_false (by omega)
    have e2 : IntKind.i64.wrap ((n : Int) - (k : Int)) = (n : Int) - (k : Int) := by rw [IntKind.wrap_i64]; omega
    go_enter Try.func11, Try.ntmps11
    go_wp2
    go_loopw [5, 6] (fun s i wr => ∃ j : Nat, d ≤ j ∧ j ≤ n ∧ i = .int .i64 j ∧ s = .int .i64 (cnt ((m.take j).drop d) : Int) ∧ wr = w) (fun _ i _ => n - (intOf i).toNat)
    case atStart => exact ⟨d, Nat.le_refl _, hdn, by subst q2; go_num, by rw [S0.out]; rfl, rfl⟩
    case round =>
      obtain ⟨j, hj1, hj2, rfl, rfl, rfl⟩ := hrel
      by_cases hlt : j < n
      · obtain ⟨b1, o1, rfl, g1⟩ := H.out.at_ hlt
        have hkm : j < m.length := by rw [H.out.1]; exact hlt
        have T2 := Lib.hid (show cnt ((m.take (j + 1)).drop d) = cnt ((m.take j).drop d) + cnt [m.getD j false] by
          rw [List.take_succ_eq_append_getElem hkm, List.drop_append_of_le_length (by rw [List.length_take]; omega), cnt_append, List.getD_eq_getElem?_getD, List.getElem?_eq_getElem hkm]
          rfl)
        have t1 : cnt ((m.take j).drop d) ≤ j := Nat.le_trans (cnt_le _) (by rw [List.length_drop, List.length_take]; omega)
        have l1 : (0 : Int) ≤ (j : Int) := by omega
        have l2 : (j : Int) < n := by omega
        clear hkm
        generalize m.getD j false = y at g1 T2
        generalize cnt ((m.take j).drop d) = s at *
        cases y
        · go_wp2
          go_roundw
          case rel => exact ⟨j + 1, by omega, by omega, by go_num, by rw [T2.out]; rfl, trivial⟩
          case measure => simp [intOf]; omega
        · go_wp2
          go_roundw
          case rel => exact ⟨j + 1, by omega, by omega, by go_num, by rw [T2.out]; show _ = Value.int .i64 ((s + 1 : Nat) : Int); go_num, trivial⟩
          case measure => simp [intOf]; omega
      · obtain rfl : j = n := by omega
        go_wp2
        go_ret
        exact ⟨by rw [HE.out, List.take_of_length_le (by rw [H.out.1]; exact Nat.le_refl _)]; rfl, rfl⟩
  · have e1 : IntKind.i64.wrap ((n : Int) - (k : Int)) = (d : Int) := by rw [IntKind.wrap_i64]; omega
    go_enter Try.func11, Try.ntmps11
    go_wp2
    go_loopw [5, 6] (fun s i wr => ∃ j : Nat, d ≤ j ∧ j ≤ n ∧ i = .int .i64 j ∧ s = .int .i64 (cnt ((m.take j).drop d) : Int) ∧ wr = w) (fun _ i _ => n - (intOf i).toNat)
    case atStart => exact ⟨d, Nat.le_refl _, hdn, by go_num, by rw [S0.out]; rfl, rfl⟩
    case round =>
      obtain ⟨j, hj1, hj2, rfl, rfl, rfl⟩ := hrel
      by_cases hlt : j < n
      · obtain ⟨b1, o1, rfl, g1⟩ := H.out.at_ hlt
        have hkm : j < m.length := by rw [H.out.1]; exact hlt
        have T2 := Lib.hid (show cnt ((m.take (j + 1)).drop d) = cnt ((m.take j).drop d) + cnt [m.getD j false] by
          rw [List.take_succ_eq_append_getElem hkm, List.drop_append_of_le_length (by rw [List.length_take]; omega), cnt_append, List.getD_eq_getElem?_getD, List.getElem?_eq_getElem hkm]
          rfl)
        have t1 : cnt ((m.take j).drop d) ≤ j := Nat.le_trans (cnt_le _) (by rw [List.length_drop, List.length_take]; omega)
        have l1 : (0 : Int) ≤ (j : Int) := by omega
        have l2 : (j : Int) < n := by omega
        clear hkm
        generalize m.getD j false = y at g1 T2
        generalize cnt ((m.take j).drop d) = s at *
        cases y
        · go_wp2
          go_roundw
          case rel => exact ⟨j + 1, by omega, by omega, by go_num, by rw [T2.out]; rfl, trivial⟩
          case measure => simp [intOf]; omega
        · go_wp2
          go_roundw
          case rel => exact ⟨j + 1, by omega, by omega, by go_num, by rw [T2.out]; show _ = Value.int .i64 ((s + 1 : Nat) : Int); go_num, trivial⟩
          case measure => simp [intOf]; omega
      · obtain rfl : j = n := by omega
        go_wp2
        go_ret
        exact ⟨by rw [HE.out, List.take_of_length_le (by rw [H.out.1]; exact Nat.le_refl _)]; rfl, rfl⟩
end Go.Proofs.Ytgfgchmpdocihaa.lg
