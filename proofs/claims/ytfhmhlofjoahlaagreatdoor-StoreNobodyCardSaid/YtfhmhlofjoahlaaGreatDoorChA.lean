/- A page of free cells, one behind the other: what a cell tells, and what layer 8's small functions, Take and Give do when they are called. -/
import Derived.Test.YtfhmhlofjoahlaaGreatDoorGeA
import Derived.Test.YtfhmhlofjoahlaaGreatDoorMmQ
import Derived.Test.YtfhmhlofjoahlaaGreatDoorLiA
namespace Go.Proofs.YtfhmhlofjoahlaaGreatDoor.ch
open Go.ChangeShapes Go.WideShapes Go.ChangeAt Go.RowKit gen calls cls geos mm
set_option linter.unusedVariables false

/-- The words fit. -/
def Bd (xs : List Int) : Prop := ∀ i, -9223372036854775808 ≤ xs.getD i 0 ∧ xs.getD i 0 ≤ 9223372036854775807
/-- Whether class k is small, and of n words all of page p are there. -/
def thk (n : Nat) (p k : Int) : Bool := decide (0 ≤ p) && decide (p ≤ 63) && decide (1 ≤ k) && decide (k ≤ 4) && decide (p * 32 + 32 ≤ n)
theorem thk_iff {n : Nat} {p k : Int} : thk n p k = true ↔ (0 ≤ p ∧ p ≤ 63 ∧ 1 ≤ k ∧ k ≤ 4 ∧ p * 32 + 32 ≤ n) := by simp [thk, and_assoc]
theorem thk_no {n : Nat} {p k : Int} (h : ¬ (0 ≤ p ∧ p ≤ 63 ∧ 1 ≤ k ∧ k ≤ 4 ∧ p * 32 + 32 ≤ n)) : thk n p k = false := by rw [← Bool.not_eq_true, thk_iff]; exact h
/-- The first word of cell i. -/
def wd (xs : List Int) (p k i : Int) : Int := xs.getD (p * 32 + i * sz k).toNat 0
/-- What cell i tells: a cell, or how many the page has; -1: neither, or there is no cell i. -/
def lk (xs : List Int) (p k i : Int) : Int := if 0 ≤ i ∧ i < cl k ∧ 0 ≤ -1 - wd xs p k i ∧ -1 - wd xs p k i ≤ cl k then -1 - wd xs p k i else -1
theorem lk_yes {xs : List Int} {p k i : Int} (h : 0 ≤ lk xs p k i) : 0 ≤ i ∧ i < cl k ∧ 0 ≤ -1 - wd xs p k i ∧ -1 - wd xs p k i ≤ cl k ∧ lk xs p k i = -1 - wd xs p k i := by
  unfold lk at h ⊢
  split at h
  · rename_i c
    rw [if_pos c]
    exact ⟨c.1, c.2.1, c.2.2.1, c.2.2.2, rfl⟩
  · omega
theorem lk_no {xs : List Int} {p k i : Int} (h : ¬ (0 ≤ i ∧ i < cl k ∧ 0 ≤ -1 - wd xs p k i ∧ -1 - wd xs p k i ≤ cl k)) : lk xs p k i = -1 := by unfold lk; rw [if_neg h]
theorem lk_wide (xs : List Int) (p k i : Int) : -1 ≤ lk xs p k i ∧ lk xs p k i ≤ cl k := by
  have := cl_wide k
  unfold lk; split <;> omega
/-- What a page's cells are, of a small class. -/
theorem sz_cl {k : Int} (h1 : 1 ≤ k) (h2 : k ≤ 4) : ∃ s c : Nat, sz k = s ∧ cl k = c ∧ s * c = 32 ∧ 2 ≤ c ∧ c ≤ 16 ∧ 2 ≤ s ∧ s ≤ 16 := by
  rcases small h1 h2 with rfl | rfl | rfl | rfl
  · exact ⟨2, 16, rfl, rfl, by omega⟩
  · exact ⟨4, 8, rfl, rfl, by omega⟩
  · exact ⟨8, 4, rfl, rfl, by omega⟩
  · exact ⟨16, 2, rfl, rfl, by omega⟩
/-- A cell's address. -/
theorem at_nat {p k i : Int} (h0 : 0 ≤ p) (h1 : p ≤ 63) (h2 : 0 ≤ i) (h3 : i < cl k) : atk p k i = true ∧ ∃ a : Nat, ata p k i = a ∧ (p * 32 + i * sz k).toNat = a ∧ (a : Int) = p * 32 + i * sz k ∧ (a : Int) < p * 32 + 32 ∧ p * 32 ≤ a := by
  have c : atk p k i = true := atk_iff.mpr (by omega)
  refine ⟨c, ?_⟩
  unfold ata
  rw [c, if_pos rfl]
  obtain ⟨s, c', e1, e2, e3, e4, e5, e6, e7⟩ := sz_cl (k := k) (by have := cl_small h2 h3; omega) (by have := cl_small h2 h3; omega)
  rw [e2] at h3
  rw [e1]
  obtain ⟨j, rfl⟩ : ∃ j : Nat, i = j := ⟨i.toNat, by omega⟩
  have hj : (j : Int) * s + s ≤ 32 := by
    have : (j + 1) * s ≤ c' * s := Nat.mul_le_mul_right _ (by omega)
    have h4 : (j + 1) * s = j * s + s := by rw [Nat.add_mul, Nat.one_mul]
    have h5 : c' * s = 32 := by rw [Nat.mul_comm]; exact e3
    have : j * s + s ≤ 32 := by omega
    exact_mod_cast this
  have hj0 : (0 : Int) ≤ (j : Int) * s := by exact_mod_cast Nat.zero_le (j * s)
  generalize (j : Int) * s = q at hj hj0
  exact ⟨(p * 32 + q).toNat, by omega, rfl, by omega, by omega, by omega⟩

/-- The two cells of a chain that lies at the head of block B. -/
abbrev Two (w : World) (B : Nat) (k n : Int) : Prop := w.cell? ⟨B, 0, none⟩ = some (.int .i64 k) ∧ w.cell? ⟨B, 1, none⟩ = some (.int .i64 n) ∧ w.frozen? ⟨B, 0, none⟩ = false ∧ w.frozen? ⟨B, 1, none⟩ = false
theorem Two.lt {w : World} {B : Nat} {k n : Int} (h : Two w B k n) : B < w.heap.size := World.block_lt_of_cell? w _ h.1
theorem Two.kept {w w' : World} {B : Nat} {k n : Int} {row : Option Nat} (h : Two w B k n) (hg : w.grownBy w' row) (hr : some B ≠ row) : Two w' B k n :=
  ⟨hg.cell h.1 hr, hg.cell h.2.1 hr, (hg.frozen_far _ h.lt hr).trans h.2.2.1, (hg.frozen_far _ h.lt hr).trans h.2.2.2⟩
theorem Two.new (w : World) (t : TypeId) (k n : Int) {B : Nat} (h : w.heap.size = B) : Two (w.alloc (.cells #[.int .i64 k, .int .i64 n] t)) B k n := by
  subst h
  unfold Two
  refine ⟨?_, ?_, ?_, ?_⟩ <;> simp [go_sem]

theorem there_any {g r : Nat} {xs : List Int} {w : World} (h : MemAt w g r xs) (p k : Int) (hp : fits p = true) (hk : fits k = true) :
    Calls Tryz.prog 89 #[.pointer (some ⟨g, 0, none⟩), .int .i64 p, .int .i64 k] w fun e w' => e = .returned (.bool (thk xs.length p k)) ∧ w = w' := by
  have H := Lib.hid h
  have HP := Lib.hid hp
  have HK := Lib.hid hk
  have hl := h.2.2
  have F1 : Hid (fits 1 = true) := by simp [Lib.hid, fits]
  obtain ⟨n, hn⟩ : ∃ n, n = xs.length := ⟨_, rfl⟩
  have HN := Lib.hid hn
  rw [← hn] at hl ⊢
  clear h hp hk hn
  by_cases h1 : 0 ≤ p ∧ p ≤ 63
  · have q : enk p 1 = true := enk_iff.mpr (by omega)
    have q1 : enf p 1 = p * 32 := by unfold enf; rw [if_pos q]
    have q2 : enl p 1 = p * 32 + 1 * 32 - 1 := by unfold enl; rw [if_pos q]
    obtain ⟨p0, p1⟩ := h1
    by_cases h2 : 1 ≤ k ∧ k ≤ 4
    · have c1 : decide (0 < cl k) = true := by obtain ⟨s, c, e1, e2, e3, e4, _⟩ := sz_cl h2.1 h2.2; rw [e2]; simp; omega
      by_cases h3 : p * 32 + 32 ≤ n
      · have t : thk n p k = true := thk_iff.mpr (by omega)
        have d : decide (p * 32 + 32 - 1 < (n : Int)) = true := by simp; omega
        rw [t]
        clear t h2
        go_enter Tryz.func89, Tryz.ntmps89
        go_wp2_with (first
          | (go_at_call 93; (with_reducible refine (ends_any _ _ _ HP.out F1.out).mono ?_); rintro e w' ⟨rfl, rfl⟩; rw [q, q1, q2])
          | (go_at_call 48; (with_reducible refine (cells_any _ _ HK.out).mono ?_); rintro e w' ⟨rfl, rfl⟩)
          | (go_at_call 108; (with_reducible refine (Len_yes H.out).mono ?_); rintro e w' ⟨rfl, rfl⟩; rw [← HN.out]))
        go_ret
        exact ⟨rfl, rfl⟩
      · have t : thk n p k = false := thk_no (by omega)
        have d : decide (p * 32 + 32 - 1 < (n : Int)) = false := by simp; omega
        rw [t]
        clear t h2
        go_enter Tryz.func89, Tryz.ntmps89
        go_wp2_with (first
          | (go_at_call 93; (with_reducible refine (ends_any _ _ _ HP.out F1.out).mono ?_); rintro e w' ⟨rfl, rfl⟩; rw [q, q1, q2])
          | (go_at_call 48; (with_reducible refine (cells_any _ _ HK.out).mono ?_); rintro e w' ⟨rfl, rfl⟩)
          | (go_at_call 108; (with_reducible refine (Len_yes H.out).mono ?_); rintro e w' ⟨rfl, rfl⟩; rw [← HN.out]))
        go_ret
        exact ⟨rfl, rfl⟩
    · have t : thk n p k = false := thk_no (by omega)
      have c0 : cl k = 0 := cl_no (by omega)
      rw [t]
      clear t h2
      go_enter Tryz.func89, Tryz.ntmps89
      go_wp2_with (first
        | (go_at_call 93; (with_reducible refine (ends_any _ _ _ HP.out F1.out).mono ?_); rintro e w' ⟨rfl, rfl⟩; rw [q, q1, q2])
        | (go_at_call 48; (with_reducible refine (cells_any _ _ HK.out).mono ?_); rintro e w' ⟨rfl, rfl⟩; rw [c0]))
      go_ret
      exact ⟨rfl, rfl⟩
  · have t : thk n p k = false := thk_no (by omega)
    have q : enk p 1 = false := enk_no (by omega)
    have q1 : enf p 1 = 0 := by unfold enf; rw [if_neg (by simp [q])]
    have q2 : enl p 1 = 0 := by unfold enl; rw [if_neg (by simp [q])]
    rw [t]
    clear t h1
    go_enter Tryz.func89, Tryz.ntmps89
    go_wp2_with (first
      | (go_at_call 93; (with_reducible refine (ends_any _ _ _ HP.out F1.out).mono ?_); rintro e w' ⟨rfl, rfl⟩; rw [q, q1, q2]))
    go_ret
    exact ⟨rfl, rfl⟩

theorem tell_any (n : Int) (w : World) (h0 : 0 ≤ n) (h1 : n ≤ 100) : Calls Tryz.prog 90 #[.int .i64 n] w fun e w' => e = .returned (.int .i64 (-1 - n)) ∧ w = w' := by
  go_enter Tryz.func90, Tryz.ntmps90
  go_wp2
  go_ret
  exact ⟨rfl, rfl⟩

/-- What told answers. -/
theorem told_any {g r : Nat} {xs : List Int} {w : World} (h : MemAt w g r xs) (hb : Bd xs) (p k i : Int) (ht : thk xs.length p k = true) (hp : fits p = true) (hk : fits k = true) :
    Calls Tryz.prog 100 #[.pointer (some ⟨g, 0, none⟩), .int .i64 p, .int .i64 k, .int .i64 i] w fun e w' => e = .returned (.tuple #[.int .i64 (if 0 ≤ lk xs p k i then lk xs p k i else 0), .bool (decide (0 ≤ lk xs p k i))]) ∧ w = w' := by
  obtain ⟨p0, p1, k0, k1, hn⟩ := thk_iff.mp ht
  have H := Lib.hid h
  have HP := Lib.hid hp
  have HK := Lib.hid hk
  have C := cl_wide k
  clear ht hp hk
  by_cases hi : 0 ≤ i ∧ i < cl k
  · obtain ⟨e1, a, e2, e3, e4, e5, e6⟩ := at_nat p0 p1 hi.1 hi.2
    have hy : a < xs.length := by omega
    have HY := Lib.hid hy
    have hw : wd xs p k i = xs.getD a 0 := by unfold wd; rw [e3]
    have LD := Lib.hid (Load_yes h a hy)
    have hba := hb a
    by_cases hl : 0 ≤ lk xs p k i
    · obtain ⟨f1, f2, f3, f4, f5⟩ := lk_yes hl
      rw [if_pos hl, decide_eq_true hl]
      rw [f5]
      rw [hw] at f3 f4 ⊢
      generalize xs.getD a 0 = x at LD hba f3 f4
      clear hb h hl f5 hw e3 e4 e5 e6 hy hn hi
      go_enter Tryz.func100, Tryz.ntmps100
      go_wp2_with (first
        | (go_at_call 74; (with_reducible refine (at_any _ _ _ _ HP.out HK.out).mono ?_); rintro e w' ⟨rfl, rfl⟩; rw [e1, e2])
        | (go_at_call 53; (with_reducible refine LD.out.mono ?_); rintro e w' ⟨rfl, rfl⟩)
        | (go_at_call 48; (with_reducible refine (cells_any _ _ HK.out).mono ?_); rintro e w' ⟨rfl, rfl⟩))
      go_ret2
      exact ⟨rfl, rfl⟩
    · rw [if_neg hl, decide_eq_false hl]
      have hx : ¬ (0 ≤ -1 - xs.getD a 0 ∧ -1 - xs.getD a 0 ≤ cl k) := by
        intro hh
        apply hl
        unfold lk
        rw [hw, if_pos ⟨hi.1, hi.2, hh.1, hh.2⟩]
        exact hh.1
      generalize xs.getD a 0 = x at LD hba hx
      clear hb h hl hw e3 e4 e5 e6 hy hn hi
      by_cases hx1 : -1 - x < 0
      · clear hx
        go_enter Tryz.func100, Tryz.ntmps100
        go_wp2_with (first
          | (go_at_call 74; (with_reducible refine (at_any _ _ _ _ HP.out HK.out).mono ?_); rintro e w' ⟨rfl, rfl⟩; rw [e1, e2])
          | (go_at_call 53; (with_reducible refine LD.out.mono ?_); rintro e w' ⟨rfl, rfl⟩))
        go_ret2
        exact ⟨rfl, rfl⟩
      · have hx2 : cl k < -1 - x := by omega
        clear hx
        go_enter Tryz.func100, Tryz.ntmps100
        go_wp2_with (first
          | (go_at_call 74; (with_reducible refine (at_any _ _ _ _ HP.out HK.out).mono ?_); rintro e w' ⟨rfl, rfl⟩; rw [e1, e2])
          | (go_at_call 53; (with_reducible refine LD.out.mono ?_); rintro e w' ⟨rfl, rfl⟩)
          | (go_at_call 48; (with_reducible refine (cells_any _ _ HK.out).mono ?_); rintro e w' ⟨rfl, rfl⟩))
        go_ret2
        exact ⟨rfl, rfl⟩
  · have e0 : lk xs p k i = -1 := lk_no (by omega)
    have e1 : atk p k i = false := atk_no (by omega)
    rw [e0]
    clear hb h hi hn
    go_enter Tryz.func100, Tryz.ntmps100
    go_wp2_with (first
      | (go_at_call 74; (with_reducible refine (at_any _ _ _ _ HP.out HK.out).mono ?_); rintro e w' ⟨rfl, rfl⟩; rw [e1]))
    go_ret2
    exact ⟨rfl, rfl⟩
end Go.Proofs.YtfhmhlofjoahlaaGreatDoor.ch
