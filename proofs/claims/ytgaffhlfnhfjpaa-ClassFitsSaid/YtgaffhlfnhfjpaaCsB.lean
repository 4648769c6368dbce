/- What the plain answers of layer 6 do when they are called, and the walks of its three laws. -/
import Derived.Test.YtgaffhlfnhfjpaaCsA
import Derived.Below
namespace Go.Proofs.Ytgaffhlfnhfjpaa.cls
open Go.ChangeShapes Go.WideShapes Go.ChangeAt Go.RowKit calls
set_option linter.unusedVariables false

theorem rSize_any (k : Int) (w : World) (h : fits k = true) :
    Calls Try.prog 10 #[.int .i64 k] w fun e w' => e = .returned (.int .i64 (sz k)) ∧ Below w.heap.size w w' := by
  obtain ⟨f1, f2⟩ := fits_iff.mp h
  clear h
  by_cases h1 : k < 1
  · rw [sz_no (.inl h1)]
    go_enter Try.func10, Try.ntmps10
    go_wp2
    go_ret
    exact ⟨rfl, (Below.refl _ _).alloc (Nat.le_refl _) _⟩
  by_cases h2 : 4 < k
  · rw [sz_no (.inr h2)]
    go_enter Try.func10, Try.ntmps10
    go_wp2
    go_ret
    exact ⟨rfl, (Below.refl _ _).alloc (Nat.le_refl _) _⟩
  have : k = 1 ∨ k = 2 ∨ k = 3 ∨ k = 4 := by omega
  rcases this with rfl | rfl | rfl | rfl
  all_goals
    clear h1 h2 f1 f2
    go_enter Try.func10, Try.ntmps10
    go_wp2
    go_ret
    exact ⟨ret1 rfl, (Below.refl _ _).alloc (Nat.le_refl _) _⟩

theorem rOf_any (n : Int) (w : World) :
    Calls Try.prog 8 #[.int .i64 n] w fun e w' => e = .returned (.int .i64 (ofn n)) ∧ Below w.heap.size w w' := by
  by_cases h1 : n < 0
  · rw [of_no (.inl h1)]
    go_enter Try.func8, Try.ntmps8
    go_wp2
    go_ret
    exact ⟨rfl, Below.refl _ _⟩
  by_cases h2 : 127 < n
  · rw [of_no (.inr h2)]
    go_enter Try.func8, Try.ntmps8
    go_wp2
    go_ret
    exact ⟨rfl, Below.refl _ _⟩
  have h0 : 0 ≤ n := by omega
  have h3 : n ≤ 127 := by omega
  go_enter Try.func8, Try.ntmps8
  go_wp2
  go_loopw [3] (fun i wr => ∃ k : Int, 1 ≤ k ∧ k ≤ 5 ∧ i = .int .i64 k ∧ sz (k - 1) ≤ n ∧ Below w.heap.size w wr) (fun i _ => 5 - (intOf i).toNat)
  case atStart => exact ⟨1, by omega, by omega, rfl, by simp [sz]; omega, Below.refl _ _⟩
  case round =>
    obtain ⟨k, k1, k2, rfl, lo, hb⟩ := hrel
    have L := Lib.hid lo
    have HB := Lib.hid hb
    clear lo hb
    by_cases k4 : k ≤ 4
    · have W := sz_wide k
      by_cases g : n < sz k
      · have G := Lib.hid g
        have d : decide (n < sz k) = true := by simp; omega
        clear g
        go_wp2_with (go_at_call 10; (with_reducible refine (rSize_any _ _ (by simp [fits]; omega)).mono ?_); rintro e w' ⟨rfl, hb⟩; have HB := Lib.hid (HB.out.trans (hb.mono HB.out.size)); clear hb)
        go_ret
        exact ⟨ret1 (sz_of h0 h3 k1 k4 L.out G.out).symm, HB.out⟩
      · have G := Lib.hid g
        have d : decide (n < sz k) = false := by simp; omega
        clear g
        go_wp2_with (go_at_call 10; (with_reducible refine (rSize_any _ _ (by simp [fits]; omega)).mono ?_); rintro e w' ⟨rfl, hb⟩; have HB := Lib.hid (HB.out.trans (hb.mono HB.out.size)); clear hb)
        go_roundw
        case rel => exact ⟨k + 1, by omega, by omega, rfl, by rw [show k + 1 - 1 = k by omega]; have := G.out; omega, HB.out⟩
        case measure => simp [intOf]; omega
    · obtain rfl : k = 5 := by omega
      go_wp2
      go_ret
      exact ⟨ret1 (sz_large h0 h3 (by have := L.out; simpa [sz] using this)).symm, HB.out⟩

theorem rCells_any (k : Int) (w : World) (h : fits k = true) :
    Calls Try.prog 12 #[.int .i64 k] w fun e w' => e = .returned (.int .i64 (cl k)) ∧ Below w.heap.size w w' := by
  have B := Lib.hid (Below.refl w.heap.size w)
  by_cases hz : 1 ≤ k ∧ k ≤ 4
  · have hk : k = 1 ∨ k = 2 ∨ k = 3 ∨ k = 4 := by omega
    clear hz h
    rcases hk with rfl | rfl | rfl | rfl
    all_goals
      go_enter Try.func12, Try.ntmps12
      go_wp2_with (go_at_call 10; (with_reducible refine (rSize_any _ _ (by simp [fits])).mono ?_); rintro e w' ⟨rfl, hb⟩; have B := Lib.hid (B.out.trans (hb.mono B.out.size)); clear hb; simp only [sz])
      go_ret
      exact ⟨ret1 rfl, B.out⟩
  · have e : cl k = 0 := by unfold cl; simp (disch := omega) only [if_neg]
    have e2 : sz k = 0 := sz_no (by omega)
    rw [e]
    have H := Lib.hid h
    clear e h hz
    go_enter Try.func12, Try.ntmps12
    go_wp2_with (go_at_call 10; (with_reducible refine (rSize_any _ _ H.out).mono ?_); rintro e w' ⟨rfl, hb⟩; have B := Lib.hid (B.out.trans (hb.mono B.out.size)); clear hb; rw [e2])
    go_ret
    exact ⟨rfl, B.out⟩

theorem rPages_any (n : Int) (w : World) :
    Calls Try.prog 14 #[.int .i64 n] w fun e w' => e = .returned (.int .i64 (pg n)) ∧ Below w.heap.size w w' := by
  have Q := ofn_eq n
  by_cases h : 16 ≤ n ∧ n ≤ 127
  · have d : (ofn n != 5) = false := by simp; omega
    have e : pg n = (n + 32) / 32 := by unfold pg; rw [if_neg (by omega)]
    rw [e]
    obtain ⟨h1, h2⟩ := h
    clear e Q
    go_enter Try.func14, Try.ntmps14
    go_wp2_with (go_at_call 8; (with_reducible refine (rOf_any _ _).mono ?_); rintro e w1 ⟨rfl, hb⟩)
    go_loopw [3] (fun i wr => ∃ p : Int, 1 ≤ p ∧ p ≤ 5 ∧ i = .int .i64 p ∧ (p - 1) * 32 < n + 1 ∧ wr = w1) (fun i _ => 5 - (intOf i).toNat)
    case atStart => exact ⟨1, by omega, by omega, rfl, by omega, rfl⟩
    case round =>
      obtain ⟨p, p1, p2, rfl, lo, rfl⟩ := hrel
      by_cases g : p * 32 < n + 1
      · go_wp2
        go_roundw
        case rel => exact ⟨p + 1, by omega, by omega, rfl, by omega, trivial⟩
        case measure => simp [intOf]; omega
      · go_wp2
        go_ret
        exact ⟨ret1 (by omega), hb⟩
  · have d : (ofn n != 5) = true := by simp; omega
    have e : pg n = 0 := by unfold pg; rw [if_pos (by omega)]
    rw [e]
    clear e Q h
    go_enter Try.func14, Try.ntmps14
    go_wp2_with (go_at_call 8; (with_reducible refine (rOf_any _ _).mono ?_); rintro e w1 ⟨rfl, hb⟩)
    go_ret
    exact ⟨rfl, hb⟩

theorem alive_any (w : World) : Calls Try.prog 6 #[] w fun e w' => e = .returned (.bool true) ∧ w = w' := by
  go_enter Try.func6, Try.ntmps6
  go_wp2_with (first
    | (go_at_call 7; (with_reducible refine (of_any _ _).mono ?_); rintro e w' ⟨rfl, rfl⟩; rw [show ofn 3 = 2 by rfl])
    | (go_at_call 7; (with_reducible refine (of_any _ _).mono ?_); rintro e w' ⟨rfl, rfl⟩; rw [show ofn 16 = 5 by rfl])
    | (go_at_call 15; (with_reducible refine (waste_any _ _).mono ?_); rintro e w' ⟨rfl, rfl⟩; rw [show ws 16 = 15 by rfl])
    | (go_at_call 9; (with_reducible refine (size_any _ _ (by simp [fits])).mono ?_); rintro e w' ⟨rfl, rfl⟩; rw [show sz 4 = 16 by rfl])
    | (go_at_call 11; (with_reducible refine (cells_any _ _ (by simp [fits])).mono ?_); rintro e w' ⟨rfl, rfl⟩; rw [show cl 1 = 16 by rfl])
    | (go_at_call 13; (with_reducible refine (pages_any _ _).mono ?_); rintro e w' ⟨rfl, rfl⟩; rw [show pg 32 = 2 by rfl]))
  go_ret
  exact ⟨rfl, rfl⟩

theorem fits_wf {n : Int} (h : (Lit.int .i64 n).wf = true) : fits n = true := fits_iff.mpr (bounds_i64 h)
section
variable (n k : Int) (w : World)
theorem tells_walk (wn : fits n = true) (wk : fits k = true) : Calls Try.prog 3 #[.int .i64 n, .int .i64 k] w fun e w' => e = .returned (.bool true) ∧ Below w.heap.size w w' := by
  have B := Lib.hid (Below.refl w.heap.size w)
  have K := Lib.hid wk
  clear wn wk
  go_enter Try.func3, Try.ntmps3
  go_wp2_with (first
    | (go_at_call 6; (with_reducible refine (alive_any _).mono ?_); rintro e w' ⟨rfl, rfl⟩)
    | (go_at_call 7; (with_reducible refine (of_any _ _).mono ?_); rintro e w' ⟨rfl, rfl⟩)
    | (go_at_call 9; (with_reducible refine (size_any _ _ K.out).mono ?_); rintro e w' ⟨rfl, rfl⟩)
    | (go_at_call 11; (with_reducible refine (cells_any _ _ K.out).mono ?_); rintro e w' ⟨rfl, rfl⟩)
    | (go_at_call 13; (with_reducible refine (pages_any _ _).mono ?_); rintro e w' ⟨rfl, rfl⟩)
    | (go_at_call 8; (with_reducible refine (rOf_any _ _).mono ?_); rintro e w' ⟨rfl, hb⟩; have B := Lib.hid (B.out.trans (hb.mono B.out.size)); clear hb)
    | (go_at_call 10; (with_reducible refine (rSize_any _ _ K.out).mono ?_); rintro e w' ⟨rfl, hb⟩; have B := Lib.hid (B.out.trans (hb.mono B.out.size)); clear hb)
    | (go_at_call 12; (with_reducible refine (rCells_any _ _ K.out).mono ?_); rintro e w' ⟨rfl, hb⟩; have B := Lib.hid (B.out.trans (hb.mono B.out.size)); clear hb)
    | (go_at_call 14; (with_reducible refine (rPages_any _ _).mono ?_); rintro e w' ⟨rfl, hb⟩; have B := Lib.hid (B.out.trans (hb.mono B.out.size)); clear hb))
  go_ret
  exact ⟨by simp, B.out⟩
theorem room_lo {n : Int} (h0 : 0 ≤ n) (h1 : n ≤ 127) (h : ofn n < 5) : n + 1 ≤ sz (ofn n) := by
  unfold ofn at h ⊢
  repeat' split
  all_goals first | omega | (simp [sz]; omega)
theorem room_up {n : Int} (h0 : 0 ≤ n) : sz (ofn n - 1) ≤ n := by
  unfold ofn
  repeat' split
  all_goals first | omega | (simp [sz]; omega)
theorem room_two {n : Int} (h0 : 0 ≤ n) (h1 : n ≤ 127) (h : ofn n < 5) : 2 * (sz (ofn n) - 1 - n) < sz (ofn n) ∨ (ofn n = 1 ∧ sz (ofn n) - 1 - n = 1) := by
  unfold ofn at h ⊢
  repeat' split
  all_goals first | omega | (simp [sz]; omega)
theorem sz_cl {k : Int} (h : 1 ≤ k) (h2 : k ≤ 4) : sz k * cl k = 32 := by
  have : k = 1 ∨ k = 2 ∨ k = 3 ∨ k = 4 := by omega
  rcases this with rfl | rfl | rfl | rfl <;> rfl
theorem ws_no {n : Int} (h : n < 0 ∨ 127 < n) : ws n = 0 := by unfold ws; rw [if_pos h]
theorem ws_small {n : Int} (h : 0 ≤ n) (h1 : n < 16) : ws n = sz (ofn n) - 1 - n := by
  unfold ws; rw [if_neg (by omega)]; unfold pg; rw [if_pos (by omega)]; omega
theorem ws_large {n : Int} (h : 16 ≤ n) (h1 : n ≤ 127) : ws n = pg n * 32 - 1 - n := by
  unfold ws; rw [if_neg (by omega), sz_large (by omega) h1 h, sz_no (.inr (by omega))]; omega

theorem fits_walk (wn : fits n = true) (wk : fits k = true) : Calls Try.prog 4 #[.int .i64 n, .int .i64 k] w fun e w' => e = .returned (.bool true) ∧ Below w.heap.size w w' := by
  have B := Lib.hid (Below.refl w.heap.size w)
  have K := Lib.hid wk
  have kk := fits_iff.mp wk
  clear wn wk
  by_cases h : n < 0 ∨ 127 < n
  · have e1 := of_no h
    have e2 := ws_no h
    rcases h with h | h
    all_goals
      go_enter Try.func4, Try.ntmps4
      go_wp2_with (first
        | (go_at_call 6; (with_reducible refine (alive_any _).mono ?_); rintro e w' ⟨rfl, rfl⟩)
        | (go_at_call 7; (with_reducible refine (of_any _ _).mono ?_); rintro e w' ⟨rfl, rfl⟩; rw [e1])
        | (go_at_call 15; (with_reducible refine (waste_any _ _).mono ?_); rintro e w' ⟨rfl, rfl⟩; rw [e2]))
      go_ret
      exact ⟨by simp, B.out⟩
  · have h0 : 0 ≤ n := by omega
    have h1 : n ≤ 127 := by omega
    have O := ofn_wide n
    have Q := (ofn_eq n).1
    have c1 : 1 ≤ ofn n := by omega
    have rl := room_lo (n := n) h0 h1
    have ru := room_up (n := n) h0
    have S1 := sz_wide (ofn n)
    have S2 := sz_wide (ofn n - 1)
    generalize hc : ofn n = c at O c1 rl ru S1 S2
    have C := Lib.hid hc
    clear hc Q h
    have tail : (sz k * cl k == 32) = true ∨ ((sz k * cl k == 32) = false ∧ sz k = 0 ∧ (k < 1 ∨ 4 < k)) := by
      by_cases hk : 1 ≤ k ∧ k ≤ 4
      · exact .inl (by rw [sz_cl hk.1 hk.2]; rfl)
      · exact .inr ⟨by rw [sz_no (by omega)]; simp, sz_no (by omega), by omega⟩
    have kw := sz_wide k
    have cw : 0 ≤ cl k ∧ cl k ≤ 16 := by
      unfold cl; repeat' split
      all_goals omega
    have pw : 0 ≤ sz k * cl k ∧ sz k * cl k ≤ 256 := by
      by_cases hk : 1 ≤ k ∧ k ≤ 4
      · rw [sz_cl hk.1 hk.2]; omega
      · rw [sz_no (by omega)]; omega
    have TL := Lib.hid tail
    clear tail
    by_cases c5 : c < 5
    · have d1 : decide (sz c < n + 1) = false := by simp; omega
      have d2 : decide (n < sz (c - 1)) = false := by simp; omega
      have RU := Lib.hid ru
      have RL := Lib.hid rl
      clear ru rl
      rcases TL.out with t | ⟨t, t2, t3 | t3⟩
      all_goals
        go_enter Try.func4, Try.ntmps4
        go_wp2_with (first
          | (go_at_call 6; (with_reducible refine (alive_any _).mono ?_); rintro e w' ⟨rfl, rfl⟩)
          | (go_at_call 7; (with_reducible refine (of_any _ _).mono ?_); rintro e w' ⟨rfl, rfl⟩; rw [C.out])
          | (go_at_call 9; (with_reducible refine (size_any _ _ (by first | exact K.out | (simp [fits]; omega))).mono ?_); rintro e w' ⟨rfl, rfl⟩)
          | (go_at_call 11; (with_reducible refine (cells_any _ _ K.out).mono ?_); rintro e w' ⟨rfl, rfl⟩))
        go_ret
        exact ⟨by simp [*], B.out⟩
    · obtain rfl : c = 5 := by omega
      simp only [show (5 : Int) - 1 = 4 from rfl] at ru S2
      have d2 : decide (n < sz 4) = false := by simp; omega
      have RU := Lib.hid ru
      have RL := Lib.hid rl
      clear ru rl
      rcases TL.out with t | ⟨t, t2, t3 | t3⟩
      all_goals
        go_enter Try.func4, Try.ntmps4
        go_wp2_with (first
          | (go_at_call 6; (with_reducible refine (alive_any _).mono ?_); rintro e w' ⟨rfl, rfl⟩)
          | (go_at_call 7; (with_reducible refine (of_any _ _).mono ?_); rintro e w' ⟨rfl, rfl⟩; rw [C.out])
          | (go_at_call 9; (with_reducible refine (size_any _ _ (by first | exact K.out | (simp [fits]))).mono ?_); rintro e w' ⟨rfl, rfl⟩)
          | (go_at_call 11; (with_reducible refine (cells_any _ _ K.out).mono ?_); rintro e w' ⟨rfl, rfl⟩))
        go_ret
        exact ⟨by simp [*], B.out⟩

theorem waste_walk (wn : fits n = true) : Calls Try.prog 5 #[.int .i64 n] w fun e w' => e = .returned (.bool true) ∧ Below w.heap.size w w' := by
  have B := Lib.hid (Below.refl w.heap.size w)
  clear wn
  by_cases h : n < 0 ∨ 127 < n
  · have e1 := of_no h
    have e2 := ws_no h
    clear h
    go_enter Try.func5, Try.ntmps5
    go_wp2_with (first
      | (go_at_call 6; (with_reducible refine (alive_any _).mono ?_); rintro e w' ⟨rfl, rfl⟩)
      | (go_at_call 7; (with_reducible refine (of_any _ _).mono ?_); rintro e w' ⟨rfl, rfl⟩; rw [e1])
      | (go_at_call 15; (with_reducible refine (waste_any _ _).mono ?_); rintro e w' ⟨rfl, rfl⟩; rw [e2]))
    go_ret
    exact ⟨by simp, B.out⟩
  have h0 : 0 ≤ n := by omega
  have h1 : n ≤ 127 := by omega
  clear h
  by_cases h2 : 16 ≤ n
  · have e1 := sz_large h0 h1 h2
    have e2 := ws_large h2 h1
    have e3 : pg n = (n + 32) / 32 := by unfold pg; rw [if_neg (by omega)]
    have P := pg_wide n
    generalize hp : pg n = p at e2 e3 P
    generalize hw : ws n = x at e2
    have HP := Lib.hid hp
    have HW := Lib.hid hw
    clear hp hw
    have x0 : 0 ≤ x := by omega
    have x1 : x < 32 := by omega
    have d : (1 + n + x == 32 * p) = true := by simp; omega
    clear e2 e3
    go_enter Try.func5, Try.ntmps5
    go_wp2_with (first
      | (go_at_call 6; (with_reducible refine (alive_any _).mono ?_); rintro e w' ⟨rfl, rfl⟩)
      | (go_at_call 7; (with_reducible refine (of_any _ _).mono ?_); rintro e w' ⟨rfl, rfl⟩; rw [e1])
      | (go_at_call 15; (with_reducible refine (waste_any _ _).mono ?_); rintro e w' ⟨rfl, rfl⟩; rw [HW.out])
      | (go_at_call 13; (with_reducible refine (pages_any _ _).mono ?_); rintro e w' ⟨rfl, rfl⟩; rw [HP.out]))
    go_ret
    exact ⟨by simp [*], B.out⟩
  · have O := ofn_wide n
    have Q := ofn_eq n
    have c1 : 1 ≤ ofn n := by omega
    have c2 : ofn n < 5 := by omega
    have e2 := ws_small h0 (by omega)
    have rl := room_lo h0 h1 c2
    have rt := room_two h0 h1 c2
    have S1 := sz_wide (ofn n)
    generalize hw : ws n = x at e2
    generalize hc : ofn n = c at e2 O c1 c2 rl rt S1
    generalize hs : sz c = y at e2 rl rt S1
    have HW := Lib.hid hw
    have HC := Lib.hid hc
    have HS := Lib.hid hs
    clear hw hc hs Q O
    have d0 : (c == 0) = false := by simp; omega
    have d5 : (c == 5) = false := by simp; omega
    have x0 : 0 ≤ x := by omega
    have x1 : x ≤ 16 := by omega
    have d : (1 + n + x == y) = true := by simp; omega
    have fc : fits c = true := by simp [fits]; omega
    have FC := Lib.hid fc
    clear fc
    rcases rt with t | ⟨rfl, t⟩
    · have d6 : decide (2 * x < y) = true := by simp; omega
      clear t e2 rl
      go_enter Try.func5, Try.ntmps5
      go_wp2_with (first
        | (go_at_call 6; (with_reducible refine (alive_any _).mono ?_); rintro e w' ⟨rfl, rfl⟩)
        | (go_at_call 7; (with_reducible refine (of_any _ _).mono ?_); rintro e w' ⟨rfl, rfl⟩; rw [HC.out])
        | (go_at_call 15; (with_reducible refine (waste_any _ _).mono ?_); rintro e w' ⟨rfl, rfl⟩; rw [HW.out])
        | (go_at_call 9; (with_reducible refine (size_any _ _ FC.out).mono ?_); rintro e w' ⟨rfl, rfl⟩; rw [HS.out]))
      go_ret
      exact ⟨by simp [*], B.out⟩
    · obtain rfl : x = 1 := by omega
      have d6 : decide (2 < y) = false ∨ decide (2 < y) = true := by cases decide (2 < y) <;> simp
      clear t e2 rl
      rcases d6 with d6 | d6
      all_goals
        go_enter Try.func5, Try.ntmps5
        go_wp2_with (first
          | (go_at_call 6; (with_reducible refine (alive_any _).mono ?_); rintro e w' ⟨rfl, rfl⟩)
          | (go_at_call 7; (with_reducible refine (of_any _ _).mono ?_); rintro e w' ⟨rfl, rfl⟩; rw [HC.out])
          | (go_at_call 15; (with_reducible refine (waste_any _ _).mono ?_); rintro e w' ⟨rfl, rfl⟩; rw [HW.out])
          | (go_at_call 9; (with_reducible refine (size_any _ _ FC.out).mono ?_); rintro e w' ⟨rfl, rfl⟩; rw [HS.out]))
        go_ret
        exact ⟨by simp [*], B.out⟩
end
end Go.Proofs.Ytgaffhlfnhfjpaa.cls
