/- The walk of layer 7's law that Cell and At undo each other. -/
import Derived.Test.YtednmidmkjfkeaaGeC
namespace Go.Proofs.Ytednmidmkjfkeaa.geos
open Go.ChangeShapes Go.WideShapes Go.ChangeAt Go.RowKit calls cls
set_option linter.unusedVariables false

/-- The cell at a cell's address is that cell. -/
theorem there_back {p k i : Int} (h : atk p k i = true) : cek k (ata p k i) = true ∧ cei k (ata p k i) = i ∧ pgOf (ata p k i) = p ∧ 0 ≤ ata p k i ∧ ata p k i ≤ 2047 := by
  have h' := atk_iff.mp h
  obtain ⟨h0, h1, h2, h3⟩ := h'
  have e : ata p k i = p * 32 + i * sz k := by unfold ata; rw [if_pos h]
  rw [e]
  have m : sz k ≠ 0 ∧ 0 ≤ p * 32 + i * sz k ∧ p * 32 + i * sz k ≤ 2047 ∧ (p * 32 + i * sz k) % sz k = 0 := by
    rcases cl_small h2 h3 with rfl | rfl | rfl | rfl <;> simp [sz, cl] at h3 ⊢ <;> omega
  have c := cek_iff.mpr m
  refine ⟨c, ?_, ?_, m.2.1, m.2.2.1⟩
  · unfold cei
    rw [if_pos c]
    clear c m e h
    rcases cl_small h2 h3 with rfl | rfl | rfl | rfl <;> simp [sz, cl] at h3 ⊢ <;> omega
  · rw [pgOf_yes m.2.1 m.2.2.1]
    clear c m e h
    rcases cl_small h2 h3 with rfl | rfl | rfl | rfl <;> simp [sz, cl] at h3 ⊢ <;> omega
/-- The cell at an address begins there. -/
theorem back_there {k a : Int} (h : cek k a = true) : atk (pgOf a) k (cei k a) = true ∧ ata (pgOf a) k (cei k a) = a := by
  have h' := cek_iff.mp h
  obtain ⟨h0, h1, h2, h3⟩ := h'
  have e : cei k a = a % 32 / sz k := by unfold cei; rw [if_pos h]
  rw [e, pgOf_yes h1 h2]
  clear e h
  have c : atk (a / 32) k (a % 32 / sz k) = true := by
    refine atk_iff.mpr ?_
    rcases sz_small h0 with rfl | rfl | rfl | rfl <;> simp [sz, cl] at h3 ⊢ <;> omega
  refine ⟨c, ?_⟩
  unfold ata
  rw [if_pos c]
  rcases sz_small h0 with rfl | rfl | rfl | rfl <;> simp [sz] at h3 ⊢ <;> omega
/-- Cells of one page do not meet. -/
theorem apart {p k i j : Int} (hi : atk p k i = true) (hj : atk p k j = true) (h : i < j) : ata p k i + sz k ≤ ata p k j := by
  have h' := (atk_iff.mp hi).2.2
  have e : ata p k i = p * 32 + i * sz k := by unfold ata; rw [if_pos hi]
  have f : ata p k j = p * 32 + j * sz k := by unfold ata; rw [if_pos hj]
  rw [e, f]
  rcases cl_small h'.1 h'.2 with rfl | rfl | rfl | rfl <;> simp [sz] <;> omega
theorem pgOf_fits (a : Int) : fits (pgOf a) = true := by
  unfold pgOf; split <;> simp [fits] <;> omega

section
variable (p k i j a : Int) (w : World)
theorem back_walk (wp : fits p = true) (wk : fits k = true) : Calls Try.prog 5 #[.int .i64 p, .int .i64 k, .int .i64 i, .int .i64 j, .int .i64 a] w fun e w' => e = .returned (.bool true) ∧ Below w.heap.size w w' := by
  have B := Lib.hid (Below.refl w.heap.size w)
  have P := Lib.hid wp
  have K := Lib.hid wk
  have Q := Lib.hid (pgOf_fits a)
  have W := sz_wide k
  clear wp wk
  obtain ⟨q, hq⟩ : ∃ q, pgOf a = q := ⟨_, rfl⟩
  obtain ⟨c, hc⟩ : ∃ c, cei k a = c := ⟨_, rfl⟩
  have half : (cek k a = false) ∨ (cek k a = true ∧ atk q k c = true ∧ ata q k c = a) := by
    rw [← hq, ← hc]
    cases h : cek k a
    · exact .inl rfl
    · exact .inr ⟨rfl, back_there h⟩
  rw [hq] at Q
  have HQ := Lib.hid hq
  have HC := Lib.hid hc
  clear hq hc
  by_cases hi : atk p k i = true
  · obtain ⟨b1, b2, b3, b4, b5⟩ := there_back hi
    have ap := apart (p := p) (k := k) (i := i) (j := j) hi
    have jj : atk p k j = true → 0 ≤ ata p k j ∧ ata p k j ≤ 2047 := fun h => ⟨(there_back h).2.2.2.1, (there_back h).2.2.2.2⟩
    obtain ⟨x, hx⟩ : ∃ x, ata p k i = x := ⟨_, rfl⟩
    obtain ⟨y, hy⟩ : ∃ y, ata p k j = y := ⟨_, rfl⟩
    obtain ⟨s, hs⟩ : ∃ s, sz k = s := ⟨_, rfl⟩
    rw [hx] at b1 b2 b3 b4 b5 ap
    rw [hy] at ap jj
    rw [hs] at ap W
    have HX := Lib.hid hx
    have HY := Lib.hid hy
    have HS := Lib.hid hs
    clear hx hy hs
    have lots : (atk p k j = false) ∨ (atk p k j = true ∧ decide (i < j) = false) ∨ (atk p k j = true ∧ decide (i < j) = true ∧ decide (y < x + s) = false ∧ 0 ≤ y ∧ y ≤ 2047) := by
      cases hj : atk p k j
      · exact .inl rfl
      · by_cases hl : i < j
        · have := ap hj hl
          exact .inr (.inr ⟨rfl, by simpa using hl, by simp; omega, (jj hj).1, (jj hj).2⟩)
        · exact .inr (.inl ⟨rfl, by simpa using hl⟩)
    clear ap jj
    rcases half with g1 | ⟨g1, g2, g3⟩ <;> rcases lots with l1 | ⟨l1, l2⟩ | ⟨l1, l2, l3, l4, l5⟩
    all_goals
      go_enter Try.func5, Try.ntmps5
      go_wp2_with (first
        | (go_at_call 6; (with_reducible refine (alive_any _).mono ?_); rintro e w' ⟨rfl, rfl⟩)
        | (go_at_call 10; (with_reducible refine (rSize_any _ _ K.out).mono ?_); rintro e w' ⟨rfl, hb⟩; have B := Lib.hid (B.out.trans (hb.mono B.out.size)); clear hb; rw [HS.out])
        | (go_at_call 11; (with_reducible refine (at_any _ _ _ _ P.out K.out).mono ?_); rintro e w' ⟨rfl, rfl⟩; rw [hi, HX.out])
        | (go_at_call 11; (with_reducible refine (at_any _ _ _ _ P.out K.out).mono ?_); rintro e w' ⟨rfl, rfl⟩; rw [l1, HY.out])
        | (go_at_call 11; (with_reducible refine (at_any _ _ _ _ Q.out K.out).mono ?_); rintro e w' ⟨rfl, rfl⟩; (try rw [g2, g3]))
        | (go_at_call 13; (with_reducible refine (cell_any _ _ _ K.out).mono ?_); rintro e w' ⟨rfl, rfl⟩; rw [b1, b2])
        | (go_at_call 13; (with_reducible refine (cell_any _ _ _ K.out).mono ?_); rintro e w' ⟨rfl, rfl⟩; rw [g1, HC.out])
        | (go_at_call 8; (with_reducible refine (page_any _ _).mono ?_); rintro e w' ⟨rfl, rfl⟩; first | rw [b3] | rw [HQ.out]))
      go_ret
      exact ⟨by simp [*], B.out⟩
  · have hi : atk p k i = false := by simpa using hi
    rcases half with g1 | ⟨g1, g2, g3⟩
    all_goals
      go_enter Try.func5, Try.ntmps5
      go_wp2_with (first
        | (go_at_call 6; (with_reducible refine (alive_any _).mono ?_); rintro e w' ⟨rfl, rfl⟩)
        | (go_at_call 11; (with_reducible refine (at_any _ _ _ _ P.out K.out).mono ?_); rintro e w' ⟨rfl, rfl⟩; rw [hi])
        | (go_at_call 11; (with_reducible refine (at_any _ _ _ _ Q.out K.out).mono ?_); rintro e w' ⟨rfl, rfl⟩; (try rw [g2, g3]))
        | (go_at_call 13; (with_reducible refine (cell_any _ _ _ K.out).mono ?_); rintro e w' ⟨rfl, rfl⟩; rw [g1, HC.out])
        | (go_at_call 8; (with_reducible refine (page_any _ _).mono ?_); rintro e w' ⟨rfl, rfl⟩; rw [HQ.out]))
      go_ret
      exact ⟨by simp [*], B.out⟩
end
end Go.Proofs.Ytednmidmkjfkeaa.geos
