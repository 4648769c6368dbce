/- The walk of the statement on large objects' pages. -/
import Derived.Test.YtkhnggkdlilabaaPgJ
namespace Go.Proofs.Ytkhnggkdlilabaa.pg
open Go.ChangeShapes Go.WideShapes Go.ChangeAt Go.RowKit gen calls cls li
set_option linter.unusedVariables false

/-! ### Plain -/
/-- Another page of a large object has one ahead of it. -/
def Wf (xs : List Int) : Prop := ∀ i, xs.getD i 0 = 6 → ∃ j, i = j + 1 ∧ (xs.getD j 0 = 5 ∨ xs.getD j 0 = 6)
theorem Wf.zero (n : Nat) : Wf (List.replicate n 0) := fun i h => by
  rw [List.getD_eq_getElem?_getD, List.getElem?_replicate] at h
  split at h <;> simp at h
theorem getD_in {xs : List Int} {i : Nat} (h : xs.getD i 0 ≠ 0) : i < xs.length := by
  rcases Nat.lt_or_ge i xs.length with h1 | h1
  · exact h1
  · rw [List.getD_eq_getElem?_getD, List.getElem?_eq_none h1] at h
    exact absurd rfl h
theorem Wf.take {xs : List Int} (h : Wf xs) {p : Nat} {k : Int} (hp : p < xs.length) (h0 : xs.getD p 0 = 0) (hk : k ≠ 6) : Wf (xs.set p k) := fun i hi => by
  rw [set_getD _ _ _ _ hp] at hi
  by_cases e : i = p
  · rw [if_pos e] at hi
    exact absurd hi hk
  · rw [if_neg e] at hi
    obtain ⟨j, rfl, hj⟩ := h i hi
    refine ⟨j, rfl, ?_⟩
    rw [set_getD _ _ _ _ hp]
    by_cases e2 : j = p
    · subst e2; omega
    · rw [if_neg e2]; exact hj
theorem Wf.span {xs : List Int} (h : Wf xs) {p n : Nat} (hn : 1 ≤ n) (hp : p + n ≤ xs.length) (h0 : ∀ i, i < n → xs.getD (p + i) 0 = 0) : Wf (spanN xs p n) := fun i hi => by
  rw [spanN_getD _ _ _ hn hp] at hi
  by_cases e : i = p
  · rw [if_pos e] at hi; omega
  · rw [if_neg e] at hi
    by_cases e2 : p < i ∧ i < p + n
    · refine ⟨i - 1, by omega, ?_⟩
      rw [spanN_getD _ _ _ hn hp]
      by_cases e3 : i - 1 = p
      · rw [if_pos e3]; exact .inl rfl
      · rw [if_neg e3, if_pos (by omega)]; exact .inr rfl
    · rw [if_neg e2] at hi
      obtain ⟨j, rfl, hj⟩ := h i hi
      refine ⟨j, rfl, ?_⟩
      rw [spanN_getD _ _ _ hn hp]
      by_cases e4 : p ≤ j ∧ j < p + n
      · have := h0 (j - p) (by omega)
        rw [show p + (j - p) = j by omega] at this
        omega
      · rw [if_neg (by omega), if_neg (by omega)]; exact hj
theorem Wf.fill {xs : List Int} (h : Wf xs) {p n : Nat} (hp : p + n ≤ xs.length) (h6 : xs.getD (p + n) 0 ≠ 6) : Wf (fillN xs p 0 n) := fun i hi => by
  rw [fillN_getD _ _ _ _ hp] at hi
  by_cases e : p ≤ i ∧ i < p + n
  · rw [if_pos e] at hi; omega
  · rw [if_neg e] at hi
    obtain ⟨j, rfl, hj⟩ := h i hi
    refine ⟨j, rfl, ?_⟩
    rw [fillN_getD _ _ _ _ hp]
    by_cases e2 : p ≤ j ∧ j < p + n
    · have : j + 1 = p + n := by omega
      rw [this] at hi
      exact absurd hi h6
    · rw [if_neg e2]; exact hj
theorem kind_getD {xs : List Int} {p : Nat} {k : Int} (hk : k ≠ 0) : xs.getD p 0 = k → kind xs (p : Int) = k := fun h => by
  rw [kind_in (getD_in (by rw [h]; exact hk))]; exact h
theorem Wf.freed {xs : List Int} (h : Wf xs) {p : Nat} (hne : siz xs (p : Int) ≠ 0) : Wf (fillN xs p 0 (siz xs (p : Int)).toNat) := by
  have hin := siz_in hne
  have hw := siz_wide xs p
  refine h.fill (by omega) (fun h6 => ?_)
  have k6 := kind_getD (by decide) h6
  by_cases hs : 1 ≤ kind xs (p : Int) ∧ kind xs (p : Int) ≤ 4
  · rw [siz_small hs] at h6 k6
    obtain ⟨j, hj, h56⟩ := h _ h6
    have e : j = p := by have : (1 : Int).toNat = 1 := rfl; omega
    subst e
    rcases h56 with h5 | h5
    · rw [kind_getD (by decide) h5] at hs; omega
    · rw [kind_getD (by decide) h5] at hs; omega
  · have h5 : kind xs (p : Int) = 5 := by
      by_cases c : kind xs (p : Int) = 5
      · exact c
      · exact absurd (siz_none hs c) hne
    rw [siz_large h5] at k6
    have := (lead_is (k := 6) (by decide) (xs := xs) (p := p + 1)).2
    have e : p + (1 + ((lead 6 (xs.drop (p + 1)) : Nat) : Int)).toNat = p + 1 + lead 6 (xs.drop (p + 1)) := by omega
    rw [e] at k6
    exact this k6
theorem low_wf {xs : List Int} (h : Wf xs) : ∀ p : Nat, xs.getD p 0 = 6 → ∃ q : Nat, lowI xs p = q ∧ q < p ∧ xs.getD q 0 = 5 ∧ ∀ i, q < i → i ≤ p → xs.getD i 0 = 6
  | 0, h6 => by obtain ⟨j, hj, _⟩ := h 0 h6; omega
  | p + 1, h6 => by
    obtain ⟨j, hj, h56⟩ := h _ h6
    obtain rfl : j = p := by omega
    have e : lowI xs ((j + 1 : Nat) : Int) = lowI xs (j : Int) := by
      rw [lowI_step (kind_getD (by decide) h6)]
      congr 1; omega
    rcases h56 with h5 | h5
    · refine ⟨j, ?_, by omega, h5, fun i h1 h2 => ?_⟩
      · rw [e, lowI_stop (by rw [kind_getD (by decide) h5]; decide)]
      · obtain rfl : i = j + 1 := by omega
        exact h6
    · obtain ⟨q, h1, h2, h3, h4⟩ := low_wf h j h5
      refine ⟨q, by rw [e]; exact h1, by omega, h3, fun i c1 c2 => ?_⟩
      by_cases c : i ≤ j
      · exact h4 i c1 c
      · obtain rfl : i = j + 1 := by omega
        exact h6
/-- What each page tells. -/
theorem told {xs : List Int} (h : Wf xs) (hk : Ks xs) {p : Nat} (hp : p < xs.length) :
    (xs.getD p 0 = 0 ∧ frs xs p = -1) ∨ ((1 ≤ xs.getD p 0 ∧ xs.getD p 0 ≤ 5) ∧ frs xs p = p) ∨ (xs.getD p 0 = 6 ∧ ∃ q : Nat, frs xs p = q ∧ q < p ∧ xs.getD q 0 = 5 ∧ (p : Int) < q + siz xs q) := by
  have hw := hk p
  have ek := kind_in hp
  by_cases h6 : xs.getD p 0 = 6
  · right; right
    obtain ⟨q, h1, h2, h3, h4⟩ := low_wf h p h6
    have k5 := kind_getD (by decide) h3
    have hs := siz_large k5
    refine ⟨h6, q, ?_, h2, h3, ?_⟩
    · unfold frs
      rw [h1, if_neg (by omega)]
    · rw [hs]
      have hl := (lead_is (k := 6) (by decide) (xs := xs) (p := q + 1)).2
      by_cases c : q + 1 + lead 6 (xs.drop (q + 1)) ≤ p
      · exact absurd (kind_getD (by decide) (h4 _ (by omega) c)) hl
      · omega
  · have hl : lowI xs p = p := lowI_stop (by rw [ek]; exact h6)
    by_cases h0 : xs.getD p 0 = 0
    · left
      refine ⟨h0, ?_⟩
      unfold frs
      rw [hl, siz_none (by omega) (by omega), if_pos rfl]
    · right; left
      refine ⟨by omega, ?_⟩
      unfold frs
      rw [hl, if_neg]
      by_cases h5 : xs.getD p 0 = 5
      · rw [siz_large (by rw [ek]; exact h5)]; omega
      · rw [siz_small (by omega)]; omega

/-! ### One step -/
/-- What any of the three calls leaves. -/
def Left (g r m : Nat) (w : World) (e : Ending) (w' : World) : Prop := ∃ v ys, e = .returned v ∧ Tab w' g r ys ∧ Ks ys ∧ Wf ys ∧ ys.length = m ∧ w.grownBy w' (some r)
section
variable {g r m : Nat} {xs : List Int} {w : World}
theorem find_zero {n : Nat} (hn : 1 ≤ n) {p : Nat} (h : find n 0 xs = some p) : ∀ i, i < n → xs.getD (p + i) 0 = 0 := fun i hi => by
  obtain ⟨_, _, h3, h4⟩ := find_at (n := (n : Int)) (by omega) h
  have := h3 i (by omega)
  rwa [kind_in (by omega)] at this
theorem Take_left (h : Tab w g r xs) (hx : Ks xs) (hw : Wf xs) (hm : xs.length = m) (z : Int) (hz : fits z = true) :
    Calls Try.prog 11 #[.pointer (some ⟨g, 0, none⟩), .int .i64 z] w (Left g r m w) := by
  by_cases hk : 1 ≤ z ∧ z ≤ 4
  · cases hf : find 1 0 xs with
    | none => exact (Take_none hk (lowest_none h (by omega) hf)).mono fun e w' ⟨e1, e2⟩ => ⟨_, xs, e1, h.kept e2 (by simp) (by simp), hx, hw, hm, grown_then e2 (grown_refl _ _)⟩
    | some p =>
      have hp := (find_at (n := 1) (by omega) hf).1
      exact (Take_some h hk hf).mono fun e w' ⟨e1, e2, e3⟩ => ⟨_, _, e1, e2, hx.set p (by omega) hp, hw.take hp (find_zero (n := 1) (by omega) hf 0 (by omega)) (by omega), by rw [List.length_set, hm], e3⟩
  · exact (Take_small_no z w hz hk).mono fun e w' ⟨e1, e2⟩ => ⟨_, xs, e1, e2 ▸ h, hx, hw, hm, e2 ▸ grown_refl _ _⟩
theorem Span_left (h : Tab w g r xs) (hx : Ks xs) (hw : Wf xs) (hm : xs.length = m) (z : Int) :
    Calls Try.prog 12 #[.pointer (some ⟨g, 0, none⟩), .int .i64 z] w (Left g r m w) := by
  by_cases hn : z < 1
  · exact (Span_below w hn).mono fun e w' ⟨e1, e2⟩ => ⟨_, xs, e1, e2 ▸ h, hx, hw, hm, e2 ▸ grown_refl _ _⟩
  · obtain ⟨y, rfl⟩ : ∃ y : Nat, z = y := ⟨z.toNat, by omega⟩
    have hy : 1 ≤ y := by omega
    cases hf : find y 0 xs with
    | none => exact (Span_none (by omega) (lowest_none h (by omega) hf)).mono fun e w' ⟨e1, e2⟩ => ⟨_, xs, e1, h.kept e2 (by simp) (by simp), hx, hw, hm, grown_then e2 (grown_refl _ _)⟩
    | some p =>
      have hp := (find_at (n := (y : Int)) (by omega) hf).2.2.2
      exact (Span_some h hy hf).mono fun e w' ⟨e1, e2, e3⟩ => ⟨_, _, e1, e2, hx.span p y hy (by omega), hw.span hy (by omega) (find_zero hy hf), by rw [spanN_length, hm], e3⟩
theorem Free_left (h : Tab w g r xs) (hx : Ks xs) (hw : Wf xs) (hm : xs.length = m) (z : Int) :
    Calls Try.prog 13 #[.pointer (some ⟨g, 0, none⟩), .int .i64 z] w (Left g r m w) := by
  refine (Free_any h hx z).mono fun e w' ⟨e1, e2, e3⟩ => ⟨_, _, e1, e2, ?_, ?_, by rw [fillN_length, hm], e3⟩
  · by_cases h0 : siz xs z = 0
    · rw [h0]; exact hx
    · have := siz_in h0
      have := siz_wide xs z
      exact hx.fill _ (by omega) _ (by omega)
  · by_cases h0 : siz xs z = 0
    · rw [h0]; exact hw
    · have := siz_in h0
      obtain ⟨p, rfl⟩ : ∃ p : Nat, z = p := ⟨z.toNat, by omega⟩
      exact hw.freed h0
end
set_option maxRecDepth 100000 in
set_option maxHeartbeats 8000000 in
theorem PageSpans_any (n : Int) (D : Option Addr) (l c2 : Nat) (f : Nat → Nat → Int) (w : World) (hc : l ≤ c2) (hc2 : c2 ≤ maxLen) (ho : Rws w w.heap.size D l 2 f) :
    Calls Try.prog 4 #[.int .i64 n, .slice D l c2] w fun e w' => e = .returned (.bool true) ∧ w.grownBy w' none := by
  obtain ⟨k, hk, hk2⟩ := near_nat n 64
  have HO := Lib.hid ho
  have HD := Lib.hid (show 0 < l → ∃ ad, D = some ad from ho.some)
  have HL1 := Lib.hid hc
  have HL2 := Lib.hid hc2
  have HKS := Lib.hid (Ks.zero k)
  have HWF := Lib.hid (Wf.zero k)
  have ZL := Lib.hid (show (List.replicate k (0 : Int)).length = k by simp)
  have NW := Lib.hid (fun w => New_any n k hk w)
  clear hk ho hc hc2
  generalize List.replicate k (0 : Int) = zs at *
  go_enter Try.func4, Try.ntmps4
  go_wp2_with (first
    | (go_at_call 6; (with_reducible refine (alive_any _).mono ?_); rintro e w1 ⟨rfl, hg⟩; have G1 := Lib.hid hg; clear hg)
    | (go_at_call 8; (with_reducible refine (NW.out _).mono ?_); rintro e w2 ⟨g, r, rfl, hm, hg, hr, hw⟩; have M2 := Lib.hid hm; have G2 := Lib.hid (G1.out.trans hw); have HR := Lib.hid (show w.heap.size ≤ r by have := G1.out.size; omega); clear hm hw hg hr)
    | (go_at_call 10; (with_reducible refine (few_any _ _ _ _ HL1.out HL2.out HD.out).mono ?_); rintro e w' ⟨⟨l2, c3, hl1, hl2, rfl⟩, rfl⟩; have HO2 := Lib.hid (HO.out.less hl2); clear hl2))
  go_loopw [6] (fun i wr => ∃ (j : Nat) (ys : List Int), j ≤ l2 ∧ i = .int .i64 j ∧ Tab wr g r ys ∧ Ks ys ∧ Wf ys ∧ ys.length = k ∧ w.grownBy wr none) (fun i _ => l2 - (intOf i).toNat)
  case atStart => exact ⟨0, zs, by omega, rfl, M2.out, HKS.out, HWF.out, ZL.out, G2.out⟩
  case round =>
    obtain ⟨j, ys, hj, rfl, ht, hks, hwf, hyl, hg⟩ := hrel
    have M3 := Lib.hid ht
    have K3 := Lib.hid hks
    have W3 := Lib.hid hwf
    have Y3 := Lib.hid hyl
    have G3 := Lib.hid hg
    have O3 := Lib.hid (HO2.out.kept hg (fun q e => by cases e))
    clear ht hks hwf hyl hg
    by_cases hlt : j < l2
    · obtain ⟨b, off, rfl, hb, hc, hw⟩ := O3.out j hlt
      have d0 := hc 0 (by omega)
      rw [Nat.add_zero] at d0
      have d1 := hc 1 (by omega)
      have V1 := Lib.hid (fits_iff.mpr (hw 1 (by omega)))
      generalize f j 0 = x0 at d0
      generalize f j 1 = x1 at d1 V1
      clear hc hw O3
      by_cases c1 : x0 = 1
      · subst c1
        go_wp2_with (go_at_call 11; (with_reducible refine (Take_left M3.out K3.out W3.out Y3.out x1 V1.out).mono ?_); rintro e w4 ⟨v, y4, rfl, ht, hks, hwf, hyl, hg⟩; have M4 := Lib.hid ht; have K4 := Lib.hid hks; have W4 := Lib.hid hwf; have Y4 := Lib.hid hyl; have G4 := Lib.hid (grown_new G3.out hg HR.out); clear ht hks hwf hyl hg)
        go_roundw
        case rel => exact ⟨j + 1, y4, by omega, by go_num, M4.out, K4.out, W4.out, Y4.out, G4.out⟩
        case measure => simp [intOf]; omega
      have b1 : (x0 == 1) = false := by simpa using c1
      by_cases c2 : x0 = 2
      · subst c2
        go_wp2_with (go_at_call 12; (with_reducible refine (Span_left M3.out K3.out W3.out Y3.out x1).mono ?_); rintro e w4 ⟨v, y4, rfl, ht, hks, hwf, hyl, hg⟩; have M4 := Lib.hid ht; have K4 := Lib.hid hks; have W4 := Lib.hid hwf; have Y4 := Lib.hid hyl; have G4 := Lib.hid (grown_new G3.out hg HR.out); clear ht hks hwf hyl hg)
        go_roundw
        case rel => exact ⟨j + 1, y4, by omega, by go_num, M4.out, K4.out, W4.out, Y4.out, G4.out⟩
        case measure => simp [intOf]; omega
      have b2 : (x0 == 2) = false := by simpa using c2
      clear c1 c2
      go_wp2_with (go_at_call 13; (with_reducible refine (Free_left M3.out K3.out W3.out Y3.out x1).mono ?_); rintro e w4 ⟨v, y4, rfl, ht, hks, hwf, hyl, hg⟩; have M4 := Lib.hid ht; have K4 := Lib.hid hks; have W4 := Lib.hid hwf; have Y4 := Lib.hid hyl; have G4 := Lib.hid (grown_new G3.out hg HR.out); clear ht hks hwf hyl hg)
      go_roundw
      case rel => exact ⟨j + 1, y4, by omega, by go_num, M4.out, K4.out, W4.out, Y4.out, G4.out⟩
      case measure => simp [intOf]; omega
    · go_wp2_with (go_at_call 14; (with_reducible refine (All_any M3.out).mono ?_); rintro e w4 ⟨A4, e4, rfl, ho4, hg4⟩; rw [Y3.out] at ho4 ⊢; have R4 := Lib.hid (rd_own ho4); have M4 := Lib.hid (M3.out.kept hg4 (by simp) (by simp)); have G4 := Lib.hid (G3.out.trans hg4); clear ho4 hg4)
      go_loopw [8, 9] (fun i x wr => ∃ (p : Nat) , p ≤ k ∧ i = .int .i64 p ∧ wr = w4) (fun i _ _ => k - (intOf i).toNat)
      case atStart => exact ⟨0, by omega, rfl, rfl⟩
      case round =>
        obtain ⟨p, hp, rfl, hw⟩ := hrel
        subst hw
        by_cases hpk : p < k
        · have ht := told W3.out K3.out (p := p) (by rw [Y3.out]; exact hpk)
          have F := Lib.hid (First_any M4.out K3.out p)
          have hq4 := fun q (hq : q < k) => R4.out.at_ hq
          obtain ⟨ba, oa, rfl, d⟩ := R4.out.at_ hpk
          rcases ht with ⟨h0, hf⟩ | ⟨⟨h1, h5⟩, hf⟩ | ⟨h6, q, hf, hqp, hq5, hqs⟩
          · rw [hf] at F
            rw [h0] at d
            clear hq4
            go_wp2_with (go_at_call 15; (with_reducible refine F.out.mono ?_); rintro e w' ⟨rfl, rfl⟩)
            go_roundw
            case rel => exact ⟨p + 1, by omega, by go_num, trivial⟩
            case measure => simp [intOf]; omega
          · rw [hf] at F
            clear hq4 hf
            generalize ys.getD p 0 = x at *
            have e0 : (x == 0) = false := by simp; omega
            have e6 : (x == 6) = false := by simp; omega
            have e7 : (x != 6) = true := by simp; omega
            have l1 : ¬ (x < 0) := by omega
            have l2 : ¬ (6 < x) := by omega
            have l3 : ¬ ((p : Int) < 0) := by omega
            go_wp2_with (go_at_call 15; (with_reducible refine F.out.mono ?_); rintro e w' ⟨rfl, rfl⟩)
            go_roundw
            case rel => exact ⟨p + 1, by omega, by go_num, trivial⟩
            case measure => simp [intOf]; omega
          · rw [hf] at F
            obtain ⟨bb, ob, e1, dq⟩ := hq4 q (by omega)
            injection e1 with e1
            injection e1 with e1 e2
            subst e1 e2
            rw [h6] at d
            rw [hq5] at dq
            have sw := siz_wide ys q
            have sl := M3.out.le
            have SZ := Lib.hid (Size_any M4.out K3.out q)
            generalize siz ys q = s at *
            have l1 : ¬ ((q : Int) < 0) := by omega
            have l2 : ¬ ((p : Int) ≤ (q : Int)) := by omega
            have l3 : ¬ ((q : Int) + s ≤ (p : Int)) := by omega
            clear hq4 hf
            go_wp2_with (first
              | (go_at_call 15; (with_reducible refine F.out.mono ?_); rintro e w' ⟨rfl, rfl⟩)
              | (go_at_call 16; (with_reducible refine SZ.out.mono ?_); rintro e w' ⟨rfl, rfl⟩))
            go_roundw
            case rel => exact ⟨p + 1, by omega, by go_num, trivial⟩
            case measure => simp [intOf]; omega
        · go_wp2
          go_ret
          exact ⟨rfl, G4.out⟩
end Go.Proofs.Ytkhnggkdlilabaa.pg
