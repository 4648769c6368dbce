/- The walk of layer 7's law of cells. -/
import Derived.Test.YtednmidmkjfkeaaGeB
import Derived.BigQuiet
import Derived.WalkSmall
namespace Go.Proofs.Ytednmidmkjfkeaa.geos
open Go.ChangeShapes Go.WideShapes Go.ChangeAt Go.RowKit calls cls
set_option linter.unusedVariables false

/-- Why there is no cell i of page p of a small class that has c cells. -/
def whyNot (p i c : Int) : Prop := p < 0 ∨ 63 < p ∨ (0 ≤ p ∧ p ≤ 63 ∧ i < 0) ∨ (0 ≤ p ∧ p ≤ 63 ∧ 0 ≤ i ∧ decide (c ≤ i) = true)
theorem at_cases (p k i : Int) : (atk p k i = true ∧ ata p k i = p * 32 + i * sz k ∧ 0 ≤ p ∧ p ≤ 63 ∧ 0 ≤ i ∧ i ≤ 15 ∧ decide (cl k ≤ i) = false) ∨ (atk p k i = false ∧ ata p k i = 0 ∧ whyNot p i (cl k)) := by
  have C := cl_wide k
  by_cases h : 0 ≤ p ∧ p ≤ 63 ∧ 0 ≤ i ∧ i < cl k
  · have e := atk_iff.mpr h
    unfold ata
    rw [e, if_pos rfl]
    exact .inl ⟨rfl, rfl, h.1, h.2.1, h.2.2.1, by omega, by simp; omega⟩
  · have e := atk_no h
    unfold ata whyNot
    rw [e, if_neg (by simp)]
    refine .inr ⟨rfl, rfl, ?_⟩
    by_cases h1 : p < 0
    · exact .inl h1
    by_cases h2 : 63 < p
    · exact .inr (.inl h2)
    by_cases h3 : i < 0
    · exact .inr (.inr (.inl (by omega)))
    exact .inr (.inr (.inr ⟨by omega, by omega, by omega, by simp; omega⟩))

theorem mul_room {k i : Int} (h0 : 0 ≤ i) (h : decide (cl k ≤ i) = false) : 0 ≤ sz k * i ∧ sz k * i + sz k ≤ 32 ∧ i * sz k = sz k * i := by
  have h1 : i < cl k := by simpa using h
  rcases cl_small h0 h1 with rfl | rfl | rfl | rfl <;> simp [sz, cl] at h1 ⊢ <;> omega

section
variable (a p n k i j : Int) (w : World)
theorem cells_none (wp : fits p = true) (wk : fits k = true) (hz : sz k = 0) : Calls Try.prog 4 #[.int .i64 p, .int .i64 k, .int .i64 i, .int .i64 a] w fun e w' => e = .returned (.bool true) ∧ Below w.heap.size w w' := by
  have B := Lib.hid (Below.refl w.heap.size w)
  have P := Lib.hid wp
  have K := Lib.hid wk
  clear wp wk
  have hc : cl k = 0 := by
    by_cases c : k < 1 ∨ 4 < k
    · exact cl_no c
    · rcases small (k := k) (by omega) (by omega) with rfl | rfl | rfl | rfl <;> simp [sz] at hz
  have a1 : atk p k i = false := atk_no (by omega)
  have a2 : ata p k i = 0 := by unfold ata; rw [if_neg (by simp [a1])]
  have c1 : cek k a = false := cek_no (by omega)
  have c2 : cei k a = 0 := by unfold cei; rw [if_neg (by simp [c1])]
  have b1 := bsOf_no (a := a) (.inl hz)
  have hp : p < 0 ∨ 63 < p ∨ (0 ≤ p ∧ p ≤ 63) := by omega
  rcases hp with h | h | ⟨h, h'⟩
  all_goals
    go_enter Try.func4, Try.ntmps4
    go_wp2_with (first
      | (go_at_call 6; (with_reducible refine (alive_any _).mono ?_); rintro e w' ⟨rfl, rfl⟩)
      | (go_at_call 10; (with_reducible refine (rSize_any _ _ K.out).mono ?_); rintro e w' ⟨rfl, hb⟩; have B := Lib.hid (B.out.trans (hb.mono B.out.size)); clear hb; rw [hz])
      | (go_at_call 12; (with_reducible refine (rCells_any _ _ K.out).mono ?_); rintro e w' ⟨rfl, hb⟩; have B := Lib.hid (B.out.trans (hb.mono B.out.size)); clear hb)
      | (go_at_call 11; (with_reducible refine (at_any _ _ _ _ P.out K.out).mono ?_); rintro e w' ⟨rfl, rfl⟩; rw [a1, a2])
      | (go_at_call 13; (with_reducible refine (cell_any _ _ _ K.out).mono ?_); rintro e w' ⟨rfl, rfl⟩; rw [c1, c2])
      | (go_at_call 14; (with_reducible refine (base_any _ _ _ K.out).mono ?_); rintro e w' ⟨rfl, rfl⟩; rw [b1]))
    go_ret
    exact ⟨by simp, B.out⟩
theorem low_yes (wp : fits p = true) (wk : fits k = true) (s c : Int) (hs : sz k = s) (hc : cl k = c) (hz : 2 ≤ s ∧ s ≤ 16 ∧ 0 ≤ c ∧ c ≤ 16)
    (c1 : cek k a = false) (c2 : cei k a = 0) (b1 : bsOf k a = -1) (t1 : a < 0)
    (a1 : atk p k i = true) (a2 : ata p k i = p * 32 + s * i) (h0 : 0 ≤ p) (h1 : p ≤ 63) (h2 : 0 ≤ i) (h3 : i ≤ 15) (h4 : decide (c ≤ i) = false) (r0 : 0 ≤ s * i) (r1 : s * i ≤ 32) :
    Calls Try.prog 4 #[.int .i64 p, .int .i64 k, .int .i64 i, .int .i64 a] w fun e w' => e = .returned (.bool true) ∧ Below w.heap.size w w' := by
  have B := Lib.hid (Below.refl w.heap.size w)
  have P := Lib.hid wp
  have K := Lib.hid wk
  clear wp wk
  have s2 : 2 ≤ s := by omega
  have s0 : (s == 0) = false := by simp; omega
  have s1 : ¬ s = 0 := by omega
  have S := Lib.hid hs
  have D := Lib.hid hc
  clear hs hc hz
  have l1 : (p * 32 + s * i != 32 * p + s * i) = false := by simp; omega
  go_enter Try.func4, Try.ntmps4
  go_wp2_with (first
    | (go_at_call 6; (with_reducible refine (alive_any _).mono ?_); rintro e w' ⟨rfl, rfl⟩)
    | (go_at_call 10; (with_reducible refine (rSize_any _ _ K.out).mono ?_); rintro e w' ⟨rfl, hb⟩; have B := Lib.hid (B.out.trans (hb.mono B.out.size)); clear hb; rw [S.out])
    | (go_at_call 12; (with_reducible refine (rCells_any _ _ K.out).mono ?_); rintro e w' ⟨rfl, hb⟩; have B := Lib.hid (B.out.trans (hb.mono B.out.size)); clear hb; rw [D.out])
    | (go_at_call 11; (with_reducible refine (at_any _ _ _ _ P.out K.out).mono ?_); rintro e w' ⟨rfl, rfl⟩; rw [a1, a2])
    | (go_at_call 13; (with_reducible refine (cell_any _ _ _ K.out).mono ?_); rintro e w' ⟨rfl, rfl⟩; rw [c1, c2])
    | (go_at_call 14; (with_reducible refine (base_any _ _ _ K.out).mono ?_); rintro e w' ⟨rfl, rfl⟩; rw [b1]))
  go_ret
  exact ⟨by simp [*], B.out⟩
theorem low_no (wp : fits p = true) (wk : fits k = true) (s c : Int) (hs : sz k = s) (hc : cl k = c) (hz : 2 ≤ s ∧ s ≤ 16 ∧ 0 ≤ c ∧ c ≤ 16)
    (c1 : cek k a = false) (c2 : cei k a = 0) (b1 : bsOf k a = -1) (t1 : a < 0)
    (a1 : atk p k i = false) (a2 : ata p k i = 0) (h : whyNot p i c) :
    Calls Try.prog 4 #[.int .i64 p, .int .i64 k, .int .i64 i, .int .i64 a] w fun e w' => e = .returned (.bool true) ∧ Below w.heap.size w w' := by
  have B := Lib.hid (Below.refl w.heap.size w)
  have P := Lib.hid wp
  have K := Lib.hid wk
  clear wp wk
  have s2 : 2 ≤ s := by omega
  have s0 : (s == 0) = false := by simp; omega
  have s1 : ¬ s = 0 := by omega
  have S := Lib.hid hs
  have D := Lib.hid hc
  clear hs hc hz
  rcases h with h3 | h3 | ⟨h3, h4, h5⟩ | ⟨h3, h4, h5, h6⟩
  all_goals
    go_enter Try.func4, Try.ntmps4
    go_wp2_with (first
      | (go_at_call 6; (with_reducible refine (alive_any _).mono ?_); rintro e w' ⟨rfl, rfl⟩)
      | (go_at_call 10; (with_reducible refine (rSize_any _ _ K.out).mono ?_); rintro e w' ⟨rfl, hb⟩; have B := Lib.hid (B.out.trans (hb.mono B.out.size)); clear hb; rw [S.out])
      | (go_at_call 12; (with_reducible refine (rCells_any _ _ K.out).mono ?_); rintro e w' ⟨rfl, hb⟩; have B := Lib.hid (B.out.trans (hb.mono B.out.size)); clear hb; rw [D.out])
      | (go_at_call 11; (with_reducible refine (at_any _ _ _ _ P.out K.out).mono ?_); rintro e w' ⟨rfl, rfl⟩; rw [a1, a2])
      | (go_at_call 13; (with_reducible refine (cell_any _ _ _ K.out).mono ?_); rintro e w' ⟨rfl, rfl⟩; rw [c1, c2])
      | (go_at_call 14; (with_reducible refine (base_any _ _ _ K.out).mono ?_); rintro e w' ⟨rfl, rfl⟩; rw [b1]))
    go_ret
    exact ⟨by simp [*], B.out⟩
theorem high_yes (wp : fits p = true) (wk : fits k = true) (s c : Int) (hs : sz k = s) (hc : cl k = c) (hz : 2 ≤ s ∧ s ≤ 16 ∧ 0 ≤ c ∧ c ≤ 16)
    (c1 : cek k a = false) (c2 : cei k a = 0) (b1 : bsOf k a = -1) (t1 : 0 ≤ a) (t2 : 2047 < a)
    (a1 : atk p k i = true) (a2 : ata p k i = p * 32 + s * i) (h0 : 0 ≤ p) (h1 : p ≤ 63) (h2 : 0 ≤ i) (h3 : i ≤ 15) (h4 : decide (c ≤ i) = false) (r0 : 0 ≤ s * i) (r1 : s * i ≤ 32) :
    Calls Try.prog 4 #[.int .i64 p, .int .i64 k, .int .i64 i, .int .i64 a] w fun e w' => e = .returned (.bool true) ∧ Below w.heap.size w w' := by
  have B := Lib.hid (Below.refl w.heap.size w)
  have P := Lib.hid wp
  have K := Lib.hid wk
  clear wp wk
  have s2 : 2 ≤ s := by omega
  have s0 : (s == 0) = false := by simp; omega
  have s1 : ¬ s = 0 := by omega
  have S := Lib.hid hs
  have D := Lib.hid hc
  clear hs hc hz
  have l1 : (p * 32 + s * i != 32 * p + s * i) = false := by simp; omega
  go_enter Try.func4, Try.ntmps4
  go_wp2_with (first
    | (go_at_call 6; (with_reducible refine (alive_any _).mono ?_); rintro e w' ⟨rfl, rfl⟩)
    | (go_at_call 10; (with_reducible refine (rSize_any _ _ K.out).mono ?_); rintro e w' ⟨rfl, hb⟩; have B := Lib.hid (B.out.trans (hb.mono B.out.size)); clear hb; rw [S.out])
    | (go_at_call 12; (with_reducible refine (rCells_any _ _ K.out).mono ?_); rintro e w' ⟨rfl, hb⟩; have B := Lib.hid (B.out.trans (hb.mono B.out.size)); clear hb; rw [D.out])
    | (go_at_call 11; (with_reducible refine (at_any _ _ _ _ P.out K.out).mono ?_); rintro e w' ⟨rfl, rfl⟩; rw [a1, a2])
    | (go_at_call 13; (with_reducible refine (cell_any _ _ _ K.out).mono ?_); rintro e w' ⟨rfl, rfl⟩; rw [c1, c2])
    | (go_at_call 14; (with_reducible refine (base_any _ _ _ K.out).mono ?_); rintro e w' ⟨rfl, rfl⟩; rw [b1]))
  go_ret
  exact ⟨by simp [*], B.out⟩
theorem high_no (wp : fits p = true) (wk : fits k = true) (s c : Int) (hs : sz k = s) (hc : cl k = c) (hz : 2 ≤ s ∧ s ≤ 16 ∧ 0 ≤ c ∧ c ≤ 16)
    (c1 : cek k a = false) (c2 : cei k a = 0) (b1 : bsOf k a = -1) (t1 : 0 ≤ a) (t2 : 2047 < a)
    (a1 : atk p k i = false) (a2 : ata p k i = 0) (h : whyNot p i c) :
    Calls Try.prog 4 #[.int .i64 p, .int .i64 k, .int .i64 i, .int .i64 a] w fun e w' => e = .returned (.bool true) ∧ Below w.heap.size w w' := by
  have B := Lib.hid (Below.refl w.heap.size w)
  have P := Lib.hid wp
  have K := Lib.hid wk
  clear wp wk
  have s2 : 2 ≤ s := by omega
  have s0 : (s == 0) = false := by simp; omega
  have s1 : ¬ s = 0 := by omega
  have S := Lib.hid hs
  have D := Lib.hid hc
  clear hs hc hz
  rcases h with h3 | h3 | ⟨h3, h4, h5⟩ | ⟨h3, h4, h5, h6⟩
  all_goals
    go_enter Try.func4, Try.ntmps4
    go_wp2_with (first
      | (go_at_call 6; (with_reducible refine (alive_any _).mono ?_); rintro e w' ⟨rfl, rfl⟩)
      | (go_at_call 10; (with_reducible refine (rSize_any _ _ K.out).mono ?_); rintro e w' ⟨rfl, hb⟩; have B := Lib.hid (B.out.trans (hb.mono B.out.size)); clear hb; rw [S.out])
      | (go_at_call 12; (with_reducible refine (rCells_any _ _ K.out).mono ?_); rintro e w' ⟨rfl, hb⟩; have B := Lib.hid (B.out.trans (hb.mono B.out.size)); clear hb; rw [D.out])
      | (go_at_call 11; (with_reducible refine (at_any _ _ _ _ P.out K.out).mono ?_); rintro e w' ⟨rfl, rfl⟩; rw [a1, a2])
      | (go_at_call 13; (with_reducible refine (cell_any _ _ _ K.out).mono ?_); rintro e w' ⟨rfl, rfl⟩; rw [c1, c2])
      | (go_at_call 14; (with_reducible refine (base_any _ _ _ K.out).mono ?_); rintro e w' ⟨rfl, rfl⟩; rw [b1]))
    go_ret
    exact ⟨by simp [*], B.out⟩
theorem amid_yes (wp : fits p = true) (wk : fits k = true) (s c : Int) (hs : sz k = s) (hc : cl k = c) (hz : 2 ≤ s ∧ s ≤ 16 ∧ 0 ≤ c ∧ c ≤ 16)
    (c1 : cek k a = false) (c2 : cei k a = 0) (b1 : bsOf k a = a - a % s) (t1 : 0 ≤ a) (t2 : a ≤ 2047) (m0 : 0 ≤ a % s) (m1 : a % s ≤ 15) (m2 : (a % s != 0) = true)
    (a1 : atk p k i = true) (a2 : ata p k i = p * 32 + s * i) (h0 : 0 ≤ p) (h1 : p ≤ 63) (h2 : 0 ≤ i) (h3 : i ≤ 15) (h4 : decide (c ≤ i) = false) (r0 : 0 ≤ s * i) (r1 : s * i ≤ 32) :
    Calls Try.prog 4 #[.int .i64 p, .int .i64 k, .int .i64 i, .int .i64 a] w fun e w' => e = .returned (.bool true) ∧ Below w.heap.size w w' := by
  have B := Lib.hid (Below.refl w.heap.size w)
  have P := Lib.hid wp
  have K := Lib.hid wk
  clear wp wk
  have s2 : 2 ≤ s := by omega
  have s0 : (s == 0) = false := by simp; omega
  have s1 : ¬ s = 0 := by omega
  have S := Lib.hid hs
  have D := Lib.hid hc
  have bb : ∀ w, Calls Try.prog 14 #[.int .i64 k, .int .i64 a] w fun e w' => e = .returned (.int .i64 (a - a % s)) ∧ w' = w := by
    intro w
    have := base_any k a w K.out
    rw [b1] at this
    exact this.mono fun e w' h => ⟨h.1, h.2.symm⟩
  have BB := Lib.hid bb
  clear bb
  clear hs hc hz
  have l1 : (p * 32 + s * i != 32 * p + s * i) = false := by simp; omega
  go_enter Try.func4, Try.ntmps4
  go_wp2_with (first
    | (go_at_call 6; (with_reducible refine (alive_any _).mono ?_); rintro e w' ⟨rfl, rfl⟩)
    | (go_at_call 10; (with_reducible refine (rSize_any _ _ K.out).mono ?_); rintro e w' ⟨rfl, hb⟩; have B := Lib.hid (B.out.trans (hb.mono B.out.size)); clear hb; rw [S.out])
    | (go_at_call 12; (with_reducible refine (rCells_any _ _ K.out).mono ?_); rintro e w' ⟨rfl, hb⟩; have B := Lib.hid (B.out.trans (hb.mono B.out.size)); clear hb; rw [D.out])
    | (go_at_call 11; (with_reducible refine (at_any _ _ _ _ P.out K.out).mono ?_); rintro e w' ⟨rfl, rfl⟩; rw [a1, a2])
    | (go_at_call 13; (with_reducible refine (cell_any _ _ _ K.out).mono ?_); rintro e w' ⟨rfl, rfl⟩; rw [c1, c2])
    | (go_at_call 14; (with_reducible refine (base_any _ _ _ K.out).mono ?_); rintro e w' ⟨rfl, rfl⟩; rw [b1]))
  go_quiet (first | (go_at_call 14; refine Calls.quiet_of_same (BB.out _)))
  go_wp2
  go_ret
  exact ⟨by simp [*], below_drewN B.out _⟩
theorem amid_no (wp : fits p = true) (wk : fits k = true) (s c : Int) (hs : sz k = s) (hc : cl k = c) (hz : 2 ≤ s ∧ s ≤ 16 ∧ 0 ≤ c ∧ c ≤ 16)
    (c1 : cek k a = false) (c2 : cei k a = 0) (b1 : bsOf k a = a - a % s) (t1 : 0 ≤ a) (t2 : a ≤ 2047) (m0 : 0 ≤ a % s) (m1 : a % s ≤ 15) (m2 : (a % s != 0) = true)
    (a1 : atk p k i = false) (a2 : ata p k i = 0) (h : whyNot p i c) :
    Calls Try.prog 4 #[.int .i64 p, .int .i64 k, .int .i64 i, .int .i64 a] w fun e w' => e = .returned (.bool true) ∧ Below w.heap.size w w' := by
  have B := Lib.hid (Below.refl w.heap.size w)
  have P := Lib.hid wp
  have K := Lib.hid wk
  clear wp wk
  have s2 : 2 ≤ s := by omega
  have s0 : (s == 0) = false := by simp; omega
  have s1 : ¬ s = 0 := by omega
  have S := Lib.hid hs
  have D := Lib.hid hc
  have bb : ∀ w, Calls Try.prog 14 #[.int .i64 k, .int .i64 a] w fun e w' => e = .returned (.int .i64 (a - a % s)) ∧ w' = w := by
    intro w
    have := base_any k a w K.out
    rw [b1] at this
    exact this.mono fun e w' h => ⟨h.1, h.2.symm⟩
  have BB := Lib.hid bb
  clear bb
  clear hs hc hz
  rcases h with h3 | h3 | ⟨h3, h4, h5⟩ | ⟨h3, h4, h5, h6⟩
  all_goals
    go_enter Try.func4, Try.ntmps4
    go_wp2_with (first
      | (go_at_call 6; (with_reducible refine (alive_any _).mono ?_); rintro e w' ⟨rfl, rfl⟩)
      | (go_at_call 10; (with_reducible refine (rSize_any _ _ K.out).mono ?_); rintro e w' ⟨rfl, hb⟩; have B := Lib.hid (B.out.trans (hb.mono B.out.size)); clear hb; rw [S.out])
      | (go_at_call 12; (with_reducible refine (rCells_any _ _ K.out).mono ?_); rintro e w' ⟨rfl, hb⟩; have B := Lib.hid (B.out.trans (hb.mono B.out.size)); clear hb; rw [D.out])
      | (go_at_call 11; (with_reducible refine (at_any _ _ _ _ P.out K.out).mono ?_); rintro e w' ⟨rfl, rfl⟩; rw [a1, a2])
      | (go_at_call 13; (with_reducible refine (cell_any _ _ _ K.out).mono ?_); rintro e w' ⟨rfl, rfl⟩; rw [c1, c2])
      | (go_at_call 14; (with_reducible refine (base_any _ _ _ K.out).mono ?_); rintro e w' ⟨rfl, rfl⟩; rw [b1]))
    go_quiet (first | (go_at_call 14; refine Calls.quiet_of_same (BB.out _)))
    go_wp2
    go_ret
    exact ⟨by simp [*], below_drewN B.out _⟩
theorem start_yes (wp : fits p = true) (wk : fits k = true) (s c : Int) (hs : sz k = s) (hc : cl k = c) (hz : 2 ≤ s ∧ s ≤ 16 ∧ 0 ≤ c ∧ c ≤ 16)
    (c1 : cek k a = true) (c2 : cei k a = a % 32 / s) (b1 : bsOf k a = a) (t1 : 0 ≤ a) (t2 : a ≤ 2047) (m2 : (a % s != 0) = false) (m3 : 0 ≤ a % 32 / s) (m4 : a % 32 / s ≤ 31)
    (a1 : atk p k i = true) (a2 : ata p k i = p * 32 + s * i) (h0 : 0 ≤ p) (h1 : p ≤ 63) (h2 : 0 ≤ i) (h3 : i ≤ 15) (h4 : decide (c ≤ i) = false) (r0 : 0 ≤ s * i) (r1 : s * i ≤ 32) :
    Calls Try.prog 4 #[.int .i64 p, .int .i64 k, .int .i64 i, .int .i64 a] w fun e w' => e = .returned (.bool true) ∧ Below w.heap.size w w' := by
  have B := Lib.hid (Below.refl w.heap.size w)
  have P := Lib.hid wp
  have K := Lib.hid wk
  clear wp wk
  have s2 : 2 ≤ s := by omega
  have s0 : (s == 0) = false := by simp; omega
  have s1 : ¬ s = 0 := by omega
  have S := Lib.hid hs
  have D := Lib.hid hc
  clear hs hc hz
  have l1 : (p * 32 + s * i != 32 * p + s * i) = false := by simp; omega
  go_enter Try.func4, Try.ntmps4
  go_wp2_with (first
    | (go_at_call 6; (with_reducible refine (alive_any _).mono ?_); rintro e w' ⟨rfl, rfl⟩)
    | (go_at_call 10; (with_reducible refine (rSize_any _ _ K.out).mono ?_); rintro e w' ⟨rfl, hb⟩; have B := Lib.hid (B.out.trans (hb.mono B.out.size)); clear hb; rw [S.out])
    | (go_at_call 12; (with_reducible refine (rCells_any _ _ K.out).mono ?_); rintro e w' ⟨rfl, hb⟩; have B := Lib.hid (B.out.trans (hb.mono B.out.size)); clear hb; rw [D.out])
    | (go_at_call 11; (with_reducible refine (at_any _ _ _ _ P.out K.out).mono ?_); rintro e w' ⟨rfl, rfl⟩; rw [a1, a2])
    | (go_at_call 13; (with_reducible refine (cell_any _ _ _ K.out).mono ?_); rintro e w' ⟨rfl, rfl⟩; rw [c1, c2])
    | (go_at_call 14; (with_reducible refine (base_any _ _ _ K.out).mono ?_); rintro e w' ⟨rfl, rfl⟩; rw [b1]))
  go_ret
  exact ⟨by simp [*], B.out⟩
theorem start_no (wp : fits p = true) (wk : fits k = true) (s c : Int) (hs : sz k = s) (hc : cl k = c) (hz : 2 ≤ s ∧ s ≤ 16 ∧ 0 ≤ c ∧ c ≤ 16)
    (c1 : cek k a = true) (c2 : cei k a = a % 32 / s) (b1 : bsOf k a = a) (t1 : 0 ≤ a) (t2 : a ≤ 2047) (m2 : (a % s != 0) = false) (m3 : 0 ≤ a % 32 / s) (m4 : a % 32 / s ≤ 31)
    (a1 : atk p k i = false) (a2 : ata p k i = 0) (h : whyNot p i c) :
    Calls Try.prog 4 #[.int .i64 p, .int .i64 k, .int .i64 i, .int .i64 a] w fun e w' => e = .returned (.bool true) ∧ Below w.heap.size w w' := by
  have B := Lib.hid (Below.refl w.heap.size w)
  have P := Lib.hid wp
  have K := Lib.hid wk
  clear wp wk
  have s2 : 2 ≤ s := by omega
  have s0 : (s == 0) = false := by simp; omega
  have s1 : ¬ s = 0 := by omega
  have S := Lib.hid hs
  have D := Lib.hid hc
  clear hs hc hz
  rcases h with h3 | h3 | ⟨h3, h4, h5⟩ | ⟨h3, h4, h5, h6⟩
  all_goals
    go_enter Try.func4, Try.ntmps4
    go_wp2_with (first
      | (go_at_call 6; (with_reducible refine (alive_any _).mono ?_); rintro e w' ⟨rfl, rfl⟩)
      | (go_at_call 10; (with_reducible refine (rSize_any _ _ K.out).mono ?_); rintro e w' ⟨rfl, hb⟩; have B := Lib.hid (B.out.trans (hb.mono B.out.size)); clear hb; rw [S.out])
      | (go_at_call 12; (with_reducible refine (rCells_any _ _ K.out).mono ?_); rintro e w' ⟨rfl, hb⟩; have B := Lib.hid (B.out.trans (hb.mono B.out.size)); clear hb; rw [D.out])
      | (go_at_call 11; (with_reducible refine (at_any _ _ _ _ P.out K.out).mono ?_); rintro e w' ⟨rfl, rfl⟩; rw [a1, a2])
      | (go_at_call 13; (with_reducible refine (cell_any _ _ _ K.out).mono ?_); rintro e w' ⟨rfl, rfl⟩; rw [c1, c2])
      | (go_at_call 14; (with_reducible refine (base_any _ _ _ K.out).mono ?_); rintro e w' ⟨rfl, rfl⟩; rw [b1]))
    go_ret
    exact ⟨by simp [*], B.out⟩

theorem cells_walk (wp : fits p = true) (wk : fits k = true) : Calls Try.prog 4 #[.int .i64 p, .int .i64 k, .int .i64 i, .int .i64 a] w fun e w' => e = .returned (.bool true) ∧ Below w.heap.size w w' := by
  by_cases hz : sz k = 0
  · exact cells_none a p k i w wp wk hz
  have W := sz_wide k
  have V := cl_wide k
  have h2 : 2 ≤ sz k := by rcases sz_small hz with rfl | rfl | rfl | rfl <;> simp [sz]
  have hs : 2 ≤ sz k ∧ sz k ≤ 16 ∧ 0 ≤ cl k ∧ cl k ≤ 16 := ⟨h2, W.2, V⟩
  have at1 := at_cases p k i
  have yes : decide (cl k ≤ i) = false → 0 ≤ i → (0 ≤ sz k * i ∧ sz k * i ≤ 32 ∧ p * 32 + i * sz k = p * 32 + sz k * i) := fun h h0 => by
    have := mul_room h0 h
    refine ⟨by omega, by omega, by omega⟩
  by_cases t1 : a < 0
  · have c1 : cek k a = false := cek_no (by omega)
    have c2 : cei k a = 0 := by unfold cei; rw [if_neg (by simp [c1])]
    have b1 := bsOf_no (k := k) (a := a) (.inr (.inl t1))
    rcases at1 with ⟨a1, a2, h0, h1, h2, h3, h4⟩ | ⟨a1, a2, h⟩
    · obtain ⟨r0, r1, r2⟩ := yes h4 h2
      exact low_yes a p k i w wp wk _ _ rfl rfl hs c1 c2 b1 t1 a1 (a2.trans r2) h0 h1 h2 h3 h4 r0 r1
    · exact low_no a p k i w wp wk _ _ rfl rfl hs c1 c2 b1 t1 a1 a2 h
  by_cases t2 : 2047 < a
  · have c1 : cek k a = false := cek_no (by omega)
    have c2 : cei k a = 0 := by unfold cei; rw [if_neg (by simp [c1])]
    have b1 := bsOf_no (k := k) (a := a) (.inr (.inr t2))
    rcases at1 with ⟨a1, a2, h0, h1, h2, h3, h4⟩ | ⟨a1, a2, h⟩
    · obtain ⟨r0, r1, r2⟩ := yes h4 h2
      exact high_yes a p k i w wp wk _ _ rfl rfl hs c1 c2 b1 (by omega) t2 a1 (a2.trans r2) h0 h1 h2 h3 h4 r0 r1
    · exact high_no a p k i w wp wk _ _ rfl rfl hs c1 c2 b1 (by omega) t2 a1 a2 h
  have t1 : 0 ≤ a := by omega
  have t2 : a ≤ 2047 := by omega
  have b1 := bsOf_yes hz t1 t2
  by_cases m : a % sz k = 0
  · have c1 : cek k a = true := cek_iff.mpr ⟨hz, t1, t2, m⟩
    have c2 : cei k a = a % 32 / sz k := by unfold cei; rw [if_pos c1]
    rw [m, Int.sub_zero] at b1
    have m2 : (a % sz k != 0) = false := by simp [m]
    have m3 : 0 ≤ a % 32 / sz k := Int.ediv_nonneg (by omega) (by omega)
    have m4 : a % 32 / sz k ≤ 31 := Int.le_trans (Int.ediv_le_self _ (by omega)) (by omega)
    rcases at1 with ⟨a1, a2, h0, h1, h2, h3, h4⟩ | ⟨a1, a2, h⟩
    · obtain ⟨r0, r1, r2⟩ := yes h4 h2
      exact start_yes a p k i w wp wk _ _ rfl rfl hs c1 c2 b1 t1 t2 m2 m3 m4 a1 (a2.trans r2) h0 h1 h2 h3 h4 r0 r1
    · exact start_no a p k i w wp wk _ _ rfl rfl hs c1 c2 b1 t1 t2 m2 m3 m4 a1 a2 h
  · have c1 : cek k a = false := cek_no (by omega)
    have c2 : cei k a = 0 := by unfold cei; rw [if_neg (by simp [c1])]
    have m2 : (a % sz k != 0) = true := by simp [m]
    have m0 : 0 ≤ a % sz k := Int.emod_nonneg _ (by omega)
    have m1 : a % sz k ≤ 15 := by have := Int.emod_lt_of_pos a (show 0 < sz k by omega); omega
    rcases at1 with ⟨a1, a2, h0, h1, h2, h3, h4⟩ | ⟨a1, a2, h⟩
    · obtain ⟨r0, r1, r2⟩ := yes h4 h2
      exact amid_yes a p k i w wp wk _ _ rfl rfl hs c1 c2 b1 t1 t2 m0 m1 m2 a1 (a2.trans r2) h0 h1 h2 h3 h4 r0 r1
    · exact amid_no a p k i w wp wk _ _ rfl rfl hs c1 c2 b1 t1 t2 m0 m1 m2 a1 a2 h
end
end Go.Proofs.Ytednmidmkjfkeaa.geos
