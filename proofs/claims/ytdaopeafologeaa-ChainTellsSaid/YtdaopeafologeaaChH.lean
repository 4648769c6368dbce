/- The walk of the law ChainBuilds. -/
import Derived.Test.YtdaopeafologeaaChG
namespace Go.Proofs.Ytdaopeafologeaa.ch
open Go.ChangeShapes Go.WideShapes Go.ChangeAt Go.RowKit gen calls cls geos mm
set_option linter.unusedVariables false

/-- The words of a heap that is filled with v. -/
def filled (n : Nat) (v : Int) : List Int := fillN (List.replicate n 0) 0 v n
theorem filled_length (n : Nat) (v : Int) : (filled n v).length = n := by simp [filled, fillN_length]
theorem filled_getD (n : Nat) (v : Int) {i : Nat} (h : i < n) : (filled n v).getD i 0 = v := by
  unfold filled
  rw [fillN_getD _ _ _ _ (by simp), if_pos (by omega)]
theorem filled_bd (n : Nat) {v : Int} (h1 : -9223372036854775808 ≤ v) (h2 : v ≤ 9223372036854775807) : Bd (filled n v) := Bd.fill (Bd.zeros n) 0 n (by simp) h1 h2
theorem Fill_all {g r n : Nat} {w : World} (h : MemAt w g r (List.replicate n 0)) (v : Int) :
    Calls Try.prog 9 #[.pointer (some ⟨g, 0, none⟩), .int .i64 0, .int .i64 n, .int .i64 v] w fun e w' => e = .returned (.bool true) ∧ MemAt w' g r (filled n v) ∧ w.grownBy w' (some r) :=
  Fill_yes h 0 n v (by simp)
theorem mod_page {P s c j : Nat} (h : s * c = 32) (hj : j / 32 = P) : (j - P * 32) % s = j % s := by
  have e : j = j - P * 32 + s * (c * P) := by
    have : s * (c * P) = P * 32 := by rw [← Nat.mul_assoc, h, Nat.mul_comm]
    omega
  conv => rhs; rw [e]
  rw [Nat.add_mul_mod_self_left]
/-- What stands at any address of a page that was built. -/
theorem built_at {xs : List Int} {P s c j : Nat} (hs : 2 ≤ s) (h : s * c = 32) (hp : P * 32 + 32 ≤ xs.length) :
    (builtN xs P s c).getD j 0 = if j / 32 = P then (if j % s = 0 then -2 - (((j % 32) / s : Nat) : Int) else 0) else xs.getD j 0 := by
  rw [builtN_getD _ _ _ _ hs (by rw [Nat.mul_comm, h]; omega) hp]
  by_cases hj : j / 32 = P
  · rw [if_pos hj, if_pos (by omega), mod_page h hj, show j - P * 32 = j % 32 by omega]
    have : (j % 32) / s < c := by
      rw [Nat.div_lt_iff_lt_mul (by omega), Nat.mul_comm, h]
      omega
    by_cases hm : j % s = 0
    · rw [if_pos ⟨hm, this⟩, if_pos hm]
    · rw [if_neg (fun h => hm h.1), if_neg hm]
  · rw [if_neg hj, if_neg (by omega)]

theorem rd_any {w : World} {base n c : Nat} {A : Option Addr} {t : TypeId} {xs : List Int} (h : w.ownsRow base t 1 (.slice A n c) n (xs.map (Value.int .i64))) : Rd w w.heap.size A n c xs := by
  obtain ⟨A', c', e, hr⟩ := Rd.of_own h
  injection e with h1 h2 h3
  subst h1 h3
  exact hr
theorem small_of {k : Int} (h : 0 < cl k) : 1 ≤ k ∧ k ≤ 4 := by
  by_cases c : k < 1 ∨ 4 < k
  · rw [cl_no c] at h; omega
  · omega
theorem want_fits (j s : Nat) : wrap64 (-2 - (j : Int) % 32 / (s : Int)) = -2 - (j : Int) % 32 / (s : Int) := by
  have e : (j : Int) % 32 / (s : Int) = ((j % 32 / s : Nat) : Int) := by simp
  have h : j % 32 / s ≤ 32 := Nat.le_trans (Nat.div_le_self _ _) (by omega)
  rw [e]
  generalize j % 32 / s = q at h
  exact IntWalk.wrap64_in (-2 - (q : Int)) (by omega)
/-- All of a chain that is known as a list. -/
theorem All_ch {g r : Nat} {xs : List Int} {w : World} (h : MemAt w g r xs) (hb : Bd xs) (p k f : Int) (n : Nat) (hp : fits p = true) (hk : fits k = true) (hy : thk xs.length p k = true) (l : List Int) (hl : Ch xs p k f l) (hn : l.length = n) :
    Calls Try.prog 14 #[.pointer (some ⟨g, 0, none⟩), .int .i64 p, .int .i64 k, .agg #[.int .i64 f, .int .i64 n]] w fun e w' => (∃ A c, e = .returned (.tuple #[.slice A n c, .bool true]) ∧ Rd w' w'.heap.size A n c l) ∧ w.grownBy w' none := by
  subst hn
  have hf := hl.few
  have hc := cl_wide k
  refine (All_any p k f l.length h hb hp hk (fits_iff.mpr (by omega)) hy).mono ?_
  rintro e w' ⟨⟨hw, A, c, rfl, ho⟩ | ⟨hw, _⟩, hg⟩
  · refine ⟨⟨A, c, rfl, ?_⟩, hg⟩
    have := li.rd_own ho
    rwa [hl.outs.1] at this
  · exact absurd hl.whole hw
set_option maxHeartbeats 8000000
theorem Builds_yes (words fill : Int) (P : Nat) (k : Int) (w : World) (hk : fits k = true) (hf : fits fill = true) (N : Nat) (hN : near words 0 300 = N) (hy : thk N P k = true) :
    Calls Try.prog 3 #[.int .i64 words, .int .i64 P, .int .i64 k, .int .i64 fill] w fun e w' => e = .returned (.bool true) ∧ w.grownBy w' none := by
  obtain ⟨p0, p1, k0, k1, hl⟩ := thk_iff.mp hy
  obtain ⟨s, c, s1, c1, m1, m2, m3, m4, m5⟩ := sz_cl k0 k1
  have hp : fits (P : Int) = true := fits_iff.mpr (by omega)
  have HK := Lib.hid hk
  have HP := Lib.hid hp
  have HN := Lib.hid hN
  have N3 : N ≤ 300 := by
    unfold near at hN
    repeat' split at hN
    all_goals omega
  have NK := Lib.hid (near_id N (by omega))
  obtain ⟨f1, f2⟩ := fits_iff.mp hf
  have T0 := Lib.hid (show thk (filled N fill).length P k = true by rw [filled_length]; exact hy)
  have T1 := Lib.hid (show thk (builtN (filled N fill) P s c).length P k = true by rw [builtN_length, filled_length]; exact hy)
  have BD := Lib.hid (Bd.built (filled_bd N f1 f2) m4 (by rw [filled_length]; omega : P * 32 + 32 ≤ (filled N fill).length) c (by rw [Nat.mul_comm, m1]; omega))
  have CH := Lib.hid (show Ch (builtN (filled N fill) P s c) P k 0 (from_ 0 c) from built_ch k0 k1 s1 c1 (by rw [filled_length]; omega : P * 32 + 32 ≤ (filled N fill).length) c 0 (by omega))
  have AT := Lib.hid (fun j (hj : j < N) => (built_at (xs := filled N fill) (P := P) (s := s) (c := c) (j := j) m4 m1 (by rw [filled_length]; omega)).trans (by rw [filled_getD N fill hj]))
  have LN := Lib.hid (show (builtN (filled N fill) P s c).length = N by rw [builtN_length, filled_length])
  have S1 := Lib.hid s1
  have C1 := Lib.hid c1
  have c0 : (0 : Int) < c := by omega
  have d1 : decide (32 * (P : Int) + 32 ≤ N) = true := by simp; omega
  have p63 : P < 64 := by omega
  clear hk hp hN hy hf hl m1 k0 k1 s1 c1 p0 p1
  obtain ⟨ys, hys⟩ : ∃ ys, ys = builtN (filled N fill) P s c := ⟨_, rfl⟩
  have HYS := Lib.hid hys
  rw [← hys] at T1 BD CH AT LN
  clear hys
  go_enter Try.func3, Try.ntmps3
  go_wp2_with (first
    | (go_at_call 6; (with_reducible refine (alive_any _).mono ?_); rintro e w1 ⟨rfl, hg⟩; have G1 := Lib.hid hg; clear hg)
    | (go_at_call 7; (with_reducible refine (Near_any _ _ _ _).mono ?_); rintro e w' ⟨rfl, rfl⟩; rw [HN.out])
    | (go_at_call 8; (with_reducible refine (New_any _ _ NK.out _).mono ?_); rintro e w2 ⟨g, r, rfl, hm, hg2, hr2, hw⟩; have M2 := Lib.hid hm; have G2 := Lib.hid (G1.out.trans hw); have R2 := Lib.hid (show w.heap.size ≤ r by have := G1.out.size; omega); clear hm hw hg2 hr2)
    | (go_at_call 9; (with_reducible refine (Fill_all M2.out _).mono ?_); rintro e w3 ⟨rfl, hm, hw⟩; have M3 := Lib.hid hm; have G3 := Lib.hid (grown_new G2.out hw R2.out); clear hm hw)
    | (go_at_call 10; (with_reducible refine (Build_yes M3.out P s c k S1.out C1.out T0.out).mono ?_); rintro e w4 ⟨rfl, hm, hw⟩; rw [← HYS.out] at hm; have GA := World.grownBy_alloc w4 (.cells #[.int .i64 0, .int .i64 c] 28) none; have M4 := Lib.hid (hm.kept GA (by simp) (by simp)); have G4 := Lib.hid ((grown_new G3.out hw R2.out).trans GA); have B4 := Lib.hid (Box.new w4 0 c rfl); clear hm hw GA)
    | (go_at_call 11; (with_reducible refine (rCells_g _ _ HK.out).mono ?_); rintro e w5 ⟨rfl, hw⟩; rw [C1.out]; have M5 := Lib.hid (M4.out.kept hw (by simp) (by simp)); have G5 := Lib.hid (G4.out.trans hw); have B5 := Lib.hid (B4.out.kept hw (by simp)); clear hw)
    | (go_at_call 12; (with_reducible refine (All_yes M5.out).mono ?_); rintro e w6 ⟨A6, e6, rfl, ho, hw⟩; rw [LN.out] at ho ⊢; have M6 := Lib.hid (M5.out.kept hw (by simp) (by simp)); have G6 := Lib.hid (G5.out.trans hw); have B6 := Lib.hid (B5.out.kept hw (by simp)); have R6 := Lib.hid (rd_any ho); clear ho hw))
  go_loopw [15] (fun i wr => ∃ j : Nat, j ≤ N ∧ i = .int .i64 j ∧ MemAt wr g r ys ∧ w.grownBy wr none ∧ Box wr w4.heap.size 0 c ∧ Rd wr wr.heap.size A6 N e6 ys) (fun i _ => N - (intOf i).toNat)
  case atStart => exact ⟨0, Nat.zero_le _, rfl, M6.out, G6.out, B6.out, R6.out⟩
  case round =>
    obtain ⟨j, hj, rfl, hm, hg, hb, hr⟩ := hrel
    have HM := Lib.hid hm
    have HG := Lib.hid hg
    have HB := Lib.hid hb
    have HR := Lib.hid hr
    clear hm hg hr
    by_cases hlt : j < N
    · clear hb
      have e := AT.out j hlt
      obtain ⟨b1, o1, rfl, g1⟩ := HR.out.at_ hlt
      generalize ys.getD j 0 = y at e g1
      by_cases hp : j / 32 = P
      · rw [if_pos hp] at e
        have hp1 : ((j : Int) / 32 == (P : Int)) = true := by simp; omega
        by_cases hm : j % s = 0
        · have hm1 : ((j : Int) % (s : Int) == 0) = true := by
            rw [beq_iff_eq]
            have : (((j % s : Nat)) : Int) = (j : Int) % (s : Int) := by simp
            omega
          have W := want_fits j s
          rw [if_pos hm, show (((j % 32 / s : Nat)) : Int) = (j : Int) % 32 / (s : Int) by simp] at e
          subst e
          clear hm
          go_wp2_with (first
            | (go_at_call 13; (with_reducible refine (rSize_g _ _ HK.out).mono ?_); rintro e w7 ⟨rfl, hw⟩; rw [S1.out]; have HM := Lib.hid (HM.out.kept hw (by simp) (by simp)); have HG := Lib.hid (HG.out.trans hw); have HB := Lib.hid (HB.out.kept hw (by simp)); have g1 := hw.cell g1 (by simp); have HR := Lib.hid (Rd.grown HR.out hw); clear hw))
          go_roundw
          case rel => exact ⟨j + 1, by omega, by go_num, HM.out, HG.out, HB.out, HR.out⟩
          case measure => simp [intOf]; omega
        · have hm1 : ((j : Int) % (s : Int) == 0) = false := by
            rw [beq_eq_false_iff_ne]
            have : (((j % s : Nat)) : Int) = (j : Int) % (s : Int) := by simp
            omega
          rw [if_neg hm] at e
          subst e
          clear hm
          go_wp2_with (first
            | (go_at_call 13; (with_reducible refine (rSize_g _ _ HK.out).mono ?_); rintro e w7 ⟨rfl, hw⟩; rw [S1.out]; have HM := Lib.hid (HM.out.kept hw (by simp) (by simp)); have HG := Lib.hid (HG.out.trans hw); have HB := Lib.hid (HB.out.kept hw (by simp)); have g1 := hw.cell g1 (by simp); have HR := Lib.hid (Rd.grown HR.out hw); clear hw))
          go_roundw
          case rel => exact ⟨j + 1, by omega, by go_num, HM.out, HG.out, HB.out, HR.out⟩
          case measure => simp [intOf]; omega
      · have hp1 : ((j : Int) / 32 == (P : Int)) = false := by simp; omega
        rw [if_neg hp] at e
        subst e
        clear hp
        go_wp2
        go_roundw
        case rel => exact ⟨j + 1, by omega, by go_num, HM.out, HG.out, HB.out, HR.out⟩
        case measure => simp [intOf]; omega
    · obtain ⟨x0, x1, x2, x3⟩ := hb.two
      clear hb
      go_wp2_with (first
        | (go_at_call 14; (with_reducible refine (All_ch HM.out BD.out P k 0 c HP.out HK.out T1.out (from_ 0 c) CH.out (from_length c 0)).mono ?_); rintro e w8 ⟨⟨A8, e8, rfl, h8⟩, hw⟩; have G8 := Lib.hid (HG.out.trans hw); obtain ⟨y0, y1, y2, y3⟩ := (HB.out.kept hw (by simp)).two; clear hw))
      go_ret
      exact ⟨rfl, G8.out⟩
theorem Builds_no (words fill : Int) (p k : Int) (w : World) (hp : fits p = true) (hk : fits k = true) (hf : fits fill = true) (N : Nat) (hN : near words 0 300 = N) (hy : thk N p k = false) :
    Calls Try.prog 3 #[.int .i64 words, .int .i64 p, .int .i64 k, .int .i64 fill] w fun e w' => e = .returned (.bool true) ∧ w.grownBy w' none := by
  have HK := Lib.hid hk
  have HP := Lib.hid hp
  have HN := Lib.hid hN
  have N3 : N ≤ 300 := by
    unfold near at hN
    repeat' split at hN
    all_goals omega
  have NK := Lib.hid (near_id N (by omega))
  obtain ⟨f1, f2⟩ := fits_iff.mp hf
  have T0 := Lib.hid (show thk (filled N fill).length p k = false by rw [filled_length]; exact hy)
  have LN := Lib.hid (filled_length N fill)
  have AT := Lib.hid (fun j (hj : j < N) => filled_getD N fill hj)
  have hc : cl k ≤ 0 ∨ (0 < cl k ∧ p < 0) ∨ (0 < cl k ∧ 64 ≤ p) ∨ (0 < cl k ∧ 0 ≤ p ∧ p < 64 ∧ decide (32 * p + 32 ≤ (N : Int)) = false) := by
    by_cases h1 : cl k ≤ 0
    · exact .inl h1
    · have hs := small_of (by omega : 0 < cl k)
      rcases Int.lt_or_le p 0 with h2 | h2
      · exact .inr (.inl ⟨by omega, h2⟩)
      · rcases Int.lt_or_le p 64 with h3 | h3
        · refine .inr (.inr (.inr ⟨by omega, h2, h3, ?_⟩))
          rcases Int.lt_or_le (N : Int) (32 * p + 32) with h4 | h4
          · exact decide_eq_false (by omega)
          · rw [thk_iff.mpr ⟨h2, by omega, hs.1, hs.2, by omega⟩] at hy; cases hy
        · exact .inr (.inr (.inl ⟨by omega, h3⟩))
  clear hk hp hN hy hf
  have FIN : (p < 0 → decide (0 ≤ p) = false) ∧ (64 ≤ p → decide (p < 64) = false) := ⟨fun h => decide_eq_false (by omega), fun h => decide_eq_false (by omega)⟩
  obtain ⟨c, hcl⟩ : ∃ c, c = cl k := ⟨_, rfl⟩
  have C1 := Lib.hid hcl
  rw [← hcl] at hc
  clear hcl FIN
  rcases hc with hc | ⟨hc, h1⟩ | ⟨hc, h1⟩ | ⟨hc, h1, h2, h3⟩
  all_goals
    go_enter Try.func3, Try.ntmps3
    go_wp2_with (first
      | (go_at_call 6; (with_reducible refine (alive_any _).mono ?_); rintro e w1 ⟨rfl, hg⟩; have G1 := Lib.hid hg; clear hg)
      | (go_at_call 7; (with_reducible refine (Near_any _ _ _ _).mono ?_); rintro e w' ⟨rfl, rfl⟩; rw [HN.out])
      | (go_at_call 8; (with_reducible refine (New_any _ _ NK.out _).mono ?_); rintro e w2 ⟨g, r, rfl, hm, hg2, hr2, hw⟩; have M2 := Lib.hid hm; have G2 := Lib.hid (G1.out.trans hw); have R2 := Lib.hid (show w.heap.size ≤ r by have := G1.out.size; omega); clear hm hw hg2 hr2)
      | (go_at_call 9; (with_reducible refine (Fill_all M2.out _).mono ?_); rintro e w3 ⟨rfl, hm, hw⟩; have M3 := Lib.hid hm; have G3 := Lib.hid (grown_new G2.out hw R2.out); clear hm hw)
      | (go_at_call 10; (with_reducible refine (Build_no M3.out p k HP.out HK.out T0.out).mono ?_); rintro e w4 ⟨rfl, hw⟩; have GA := hw.trans (World.grownBy_alloc w4 (.cells #[.int .i64 0, .int .i64 0] 28) none); have M4 := Lib.hid (M3.out.kept GA (by simp) (by simp)); have G4 := Lib.hid (G3.out.trans GA); have B4 := Lib.hid (Box.new w4 0 0 rfl); clear hw GA)
      | (go_at_call 11; (with_reducible refine (rCells_g _ _ HK.out).mono ?_); rintro e w5 ⟨rfl, hw⟩; rw [← C1.out]; have M5 := Lib.hid (M4.out.kept hw (by simp) (by simp)); have G5 := Lib.hid (G4.out.trans hw); have B5 := Lib.hid (B4.out.kept hw (by simp)); clear hw)
      | (go_at_call 12; (with_reducible refine (All_yes M5.out).mono ?_); rintro e w6 ⟨A6, e6, rfl, ho, hw⟩; rw [LN.out] at ho ⊢; have M6 := Lib.hid (M5.out.kept hw (by simp) (by simp)); have G6 := Lib.hid (G5.out.trans hw); have B6 := Lib.hid (B5.out.kept hw (by simp)); have R6 := Lib.hid (rd_any ho); clear ho hw))
    go_loopw [15] (fun i wr => ∃ j : Nat, j ≤ N ∧ i = .int .i64 j ∧ w.grownBy wr none ∧ Box wr w4.heap.size 0 0 ∧ Rd wr wr.heap.size A6 N e6 (filled N fill)) (fun i _ => N - (intOf i).toNat)
    case atStart => exact ⟨0, Nat.zero_le _, rfl, G6.out, B6.out, R6.out⟩
    case round =>
      obtain ⟨j, hj, rfl, hg, hb, hr⟩ := hrel
      have HG := Lib.hid hg
      have HB := Lib.hid hb
      have HR := Lib.hid hr
      clear hg hr
      by_cases hlt : j < N
      · clear hb
        have e := AT.out j hlt
        obtain ⟨b1, o1, rfl, g1⟩ := HR.out.at_ hlt
        generalize (filled N fill).getD j 0 = y at e g1
        subst e
        go_wp2
        go_roundw
        case rel => exact ⟨j + 1, by omega, by go_num, HG.out, HB.out, HR.out⟩
        case measure => simp [intOf]; omega
      · obtain ⟨x0, x1, x2, x3⟩ := hb.two
        clear hb
        go_wp2
        go_ret
        exact ⟨rfl, HG.out⟩
theorem Builds_any (words p k fill : Int) (w : World) (hp : fits p = true) (hk : fits k = true) (hf : fits fill = true) :
    Calls Try.prog 3 #[.int .i64 words, .int .i64 p, .int .i64 k, .int .i64 fill] w fun e w' => e = .returned (.bool true) ∧ Below w.heap.size w w' := by
  obtain ⟨N, hN, _⟩ := near_nat words 300
  refine Calls.mono (R := fun e w' => e = .returned (.bool true) ∧ w.grownBy w' none) ?_ fun e w' h => ⟨h.1, grown_below h.2⟩
  cases hy : thk N p k with
  | false => exact Builds_no words fill p k w hp hk hf N hN hy
  | true =>
    obtain ⟨P, rfl⟩ : ∃ P : Nat, p = P := ⟨p.toNat, by have := (thk_iff.mp hy).1; omega⟩
    exact Builds_yes words fill P k w hk hf N hN hy
end Go.Proofs.Ytdaopeafologeaa.ch
