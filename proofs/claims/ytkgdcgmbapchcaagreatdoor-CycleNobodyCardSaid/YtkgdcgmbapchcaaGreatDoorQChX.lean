/- Texts that this claim stands on. -/
import Derived.Deep.RegionHeld3
import Derived.Deep.RegionWith
import Derived.RegionTactic
import Derived.Test.YtkgdcgmbapchcaaGreatDoorQCsQ
import Derived.Test.YtkgdcgmbapchcaaGreatDoorQMmQ
import Derived.Test.YtkgdcgmbapchcaaGreatDoorQGnQ
namespace Go.Proofs.YtkgdcgmbapchcaaGreatDoor.ch
open Go.ChangeShapes Go.WideShapes Go.ChangeAt Go.RowKit gen calls cls geos mm
set_option linter.unusedVariables false
def Bd (xs : List Int) : Prop := ∀ i, -9223372036854775808 ≤ xs.getD i 0 ∧ xs.getD i 0 ≤ 9223372036854775807
def thk (n : Nat) (p k : Int) : Bool := decide (0 ≤ p) && decide (p ≤ 63) && decide (1 ≤ k) && decide (k ≤ 4) && decide (p * 32 + 32 ≤ n)
theorem thk_iff {n : Nat} {p k : Int} : thk n p k = true ↔ (0 ≤ p ∧ p ≤ 63 ∧ 1 ≤ k ∧ k ≤ 4 ∧ p * 32 + 32 ≤ n) := by simp [thk, and_assoc]
theorem thk_no {n : Nat} {p k : Int} (h : ¬ (0 ≤ p ∧ p ≤ 63 ∧ 1 ≤ k ∧ k ≤ 4 ∧ p * 32 + 32 ≤ n)) : thk n p k = false := by rw [← Bool.not_eq_true, thk_iff]; exact h
def wd (xs : List Int) (p k i : Int) : Int := xs.getD (p * 32 + i * sz k).toNat 0
def lk (xs : List Int) (p k i : Int) : Int := if 0 ≤ i ∧ i < cl k ∧ 0 ≤ -1 - wd xs p k i ∧ -1 - wd xs p k i ≤ cl k then -1 - wd xs p k i else -1
theorem lk_yes {xs : List Int} {p k i : Int} (h : 0 ≤ lk xs p k i) : 0 ≤ i ∧ i < cl k ∧ 0 ≤ -1 - wd xs p k i ∧ -1 - wd xs p k i ≤ cl k ∧ lk xs p k i = -1 - wd xs p k i := by
  unfold lk at h ⊢
  split at h
  · rename_i c
    rw [if_pos c]
    exact ⟨c.1, c.2.1, c.2.2.1, c.2.2.2, rfl⟩
  · omega
theorem lk_no {xs : List Int} {p k i : Int} (h : ¬ (0 ≤ i ∧ i < cl k ∧ 0 ≤ -1 - wd xs p k i ∧ -1 - wd xs p k i ≤ cl k)) : lk xs p k i = -1 := by unfold lk; rw [if_neg h]
theorem sz_cl {k : Int} (h1 : 1 ≤ k) (h2 : k ≤ 4) : ∃ s c : Nat, sz k = s ∧ cl k = c ∧ s * c = 32 ∧ 2 ≤ c ∧ c ≤ 16 ∧ 2 ≤ s ∧ s ≤ 16 := by
  rcases small h1 h2 with rfl | rfl | rfl | rfl
  · exact ⟨2, 16, rfl, rfl, by omega⟩
  · exact ⟨4, 8, rfl, rfl, by omega⟩
  · exact ⟨8, 4, rfl, rfl, by omega⟩
  · exact ⟨16, 2, rfl, rfl, by omega⟩
theorem at_nat {p k i : Int} (h0 : 0 ≤ p) (h1 : p ≤ 63) (h2 : 0 ≤ i) (h3 : i < cl k) : atk p k i = true ∧ ∃ a : Nat, ata p k i = a ∧ (p * 32 + i * sz k).toNat = a ∧ (a : Int) = p * 32 + i * sz k ∧ (a : Int) < p * 32 + 32 ∧ p * 32 ≤ a := by
  have c : atk p k i = true := atk_iff.mpr (by omega)
  refine ⟨c, ?_⟩
  unfold ata
  rw [c, if_pos rfl]
  obtain ⟨s, c', e1, e2, e3, e4, e5, e6, e7⟩ := sz_cl (k := k) (by have := cl_small h2 h3; omega) (by have := cl_small h2 h3; omega)
  rw [e2] at h3
  rw [e1]
  obtain ⟨j, rfl⟩ : ∃ j : Nat, i = j := ⟨i.toNat, by omega⟩
  have hj : (j : Int) * s + s ≤ 32 := by
    have : (j + 1) * s ≤ c' * s := Nat.mul_le_mul_right _ (by omega)
    have h4 : (j + 1) * s = j * s + s := by rw [Nat.add_mul, Nat.one_mul]
    have h5 : c' * s = 32 := by rw [Nat.mul_comm]; exact e3
    have : j * s + s ≤ 32 := by omega
    exact_mod_cast this
  have hj0 : (0 : Int) ≤ (j : Int) * s := by exact_mod_cast Nat.zero_le (j * s)
  generalize (j : Int) * s = q at hj hj0
  exact ⟨(p * 32 + q).toNat, by omega, rfl, by omega, by omega, by omega⟩
abbrev Two (w : World) (B : Nat) (k n : Int) : Prop := w.cell? ⟨B, 0, none⟩ = some (.int .i64 k) ∧ w.cell? ⟨B, 1, none⟩ = some (.int .i64 n) ∧ w.frozen? ⟨B, 0, none⟩ = false ∧ w.frozen? ⟨B, 1, none⟩ = false
theorem Two.lt {w : World} {B : Nat} {k n : Int} (h : Two w B k n) : B < w.heap.size := World.block_lt_of_cell? w _ h.1
theorem Two.kept {w w' : World} {B : Nat} {k n : Int} {row : Option Nat} (h : Two w B k n) (hg : w.grownBy w' row) (hr : some B ≠ row) : Two w' B k n :=
  ⟨hg.cell h.1 hr, hg.cell h.2.1 hr, (hg.frozen_far _ h.lt hr).trans h.2.2.1, (hg.frozen_far _ h.lt hr).trans h.2.2.2⟩
theorem Two.new (w : World) (t : TypeId) (k n : Int) {B : Nat} (h : w.heap.size = B) : Two (w.alloc (.cells #[.int .i64 k, .int .i64 n] t)) B k n := by
  subst h
  unfold Two
  refine ⟨?_, ?_, ?_, ?_⟩ <;> simp [go_sem]
theorem there_any {g r : Nat} {xs : List Int} {w : World} (h : MemAt w g r xs) (p k : Int) (hp : fits p = true) (hk : fits k = true) :
    Calls Tryz.prog 294 #[.pointer (some ⟨g, 0, none⟩), .int .i64 p, .int .i64 k] w fun e w' => e = .returned (.bool (thk xs.length p k)) ∧ w = w' := by
  have H := Lib.hid h
  have HP := Lib.hid hp
  have HK := Lib.hid hk
  have hl := h.2.2
  have F1 : Hid (fits 1 = true) := by simp [Lib.hid, fits]
  obtain ⟨n, hn⟩ : ∃ n, n = xs.length := ⟨_, rfl⟩
  have HN := Lib.hid hn
  rw [← hn] at hl ⊢
  clear h hp hk hn
  by_cases h1 : 0 ≤ p ∧ p ≤ 63
  · have q : enk p 1 = true := enk_iff.mpr (by omega)
    have q1 : enf p 1 = p * 32 := by unfold enf; rw [if_pos q]
    have q2 : enl p 1 = p * 32 + 1 * 32 - 1 := by unfold enl; rw [if_pos q]
    obtain ⟨p0, p1⟩ := h1
    by_cases h2 : 1 ≤ k ∧ k ≤ 4
    · have c1 : decide (0 < cl k) = true := by obtain ⟨s, c, e1, e2, e3, e4, _⟩ := sz_cl h2.1 h2.2; rw [e2]; simp; omega
      by_cases h3 : p * 32 + 32 ≤ n
      · have t : thk n p k = true := thk_iff.mpr (by omega)
        have d : decide (p * 32 + 32 - 1 < (n : Int)) = true := by simp; omega
        rw [t]
        clear t h2
        go_enter Tryz.func294, Tryz.ntmps294
        go_wp2_with (first
          | (go_at_call 279; (with_reducible refine (ends_any _ _ _ HP.out F1.out).mono ?_); rintro e w' ⟨rfl, rfl⟩; rw [q, q1, q2])
          | (go_at_call 223; (with_reducible refine (cells_any _ _ HK.out).mono ?_); rintro e w' ⟨rfl, rfl⟩)
          | (go_at_call 318; (with_reducible refine (Len_yes H.out).mono ?_); rintro e w' ⟨rfl, rfl⟩; rw [← HN.out]))
        go_ret
        exact ⟨rfl, rfl⟩
      · have t : thk n p k = false := thk_no (by omega)
        have d : decide (p * 32 + 32 - 1 < (n : Int)) = false := by simp; omega
        rw [t]
        clear t h2
        go_enter Tryz.func294, Tryz.ntmps294
        go_wp2_with (first
          | (go_at_call 279; (with_reducible refine (ends_any _ _ _ HP.out F1.out).mono ?_); rintro e w' ⟨rfl, rfl⟩; rw [q, q1, q2])
          | (go_at_call 223; (with_reducible refine (cells_any _ _ HK.out).mono ?_); rintro e w' ⟨rfl, rfl⟩)
          | (go_at_call 318; (with_reducible refine (Len_yes H.out).mono ?_); rintro e w' ⟨rfl, rfl⟩; rw [← HN.out]))
        go_ret
        exact ⟨rfl, rfl⟩
    · have t : thk n p k = false := thk_no (by omega)
      have c0 : cl k = 0 := cl_no (by omega)
      rw [t]
      clear t h2
      go_enter Tryz.func294, Tryz.ntmps294
      go_wp2_with (first
        | (go_at_call 279; (with_reducible refine (ends_any _ _ _ HP.out F1.out).mono ?_); rintro e w' ⟨rfl, rfl⟩; rw [q, q1, q2])
        | (go_at_call 223; (with_reducible refine (cells_any _ _ HK.out).mono ?_); rintro e w' ⟨rfl, rfl⟩; rw [c0]))
      go_ret
      exact ⟨rfl, rfl⟩
  · have t : thk n p k = false := thk_no (by omega)
    have q : enk p 1 = false := enk_no (by omega)
    have q1 : enf p 1 = 0 := by unfold enf; rw [if_neg (by simp [q])]
    have q2 : enl p 1 = 0 := by unfold enl; rw [if_neg (by simp [q])]
    rw [t]
    clear t h1
    go_enter Tryz.func294, Tryz.ntmps294
    go_wp2_with (first
      | (go_at_call 279; (with_reducible refine (ends_any _ _ _ HP.out F1.out).mono ?_); rintro e w' ⟨rfl, rfl⟩; rw [q, q1, q2]))
    go_ret
    exact ⟨rfl, rfl⟩
theorem tell_any (n : Int) (w : World) (h0 : 0 ≤ n) (h1 : n ≤ 100) : Calls Tryz.prog 317 #[.int .i64 n] w fun e w' => e = .returned (.int .i64 (-1 - n)) ∧ w = w' := by
  go_enter Tryz.func317, Tryz.ntmps317
  go_wp2
  go_ret
  exact ⟨rfl, rfl⟩
theorem told_any {g r : Nat} {xs : List Int} {w : World} (h : MemAt w g r xs) (hb : Bd xs) (p k i : Int) (ht : thk xs.length p k = true) (hp : fits p = true) (hk : fits k = true) :
    Calls Tryz.prog 295 #[.pointer (some ⟨g, 0, none⟩), .int .i64 p, .int .i64 k, .int .i64 i] w fun e w' => e = .returned (.tuple #[.int .i64 (if 0 ≤ lk xs p k i then lk xs p k i else 0), .bool (decide (0 ≤ lk xs p k i))]) ∧ w = w' := by
  obtain ⟨p0, p1, k0, k1, hn⟩ := thk_iff.mp ht
  have H := Lib.hid h
  have HP := Lib.hid hp
  have HK := Lib.hid hk
  have C := cl_wide k
  clear ht hp hk
  by_cases hi : 0 ≤ i ∧ i < cl k
  · obtain ⟨e1, a, e2, e3, e4, e5, e6⟩ := at_nat p0 p1 hi.1 hi.2
    have hy : a < xs.length := by omega
    have HY := Lib.hid hy
    have hw : wd xs p k i = xs.getD a 0 := by unfold wd; rw [e3]
    have LD := Lib.hid (Load_yes h a hy)
    have hba := hb a
    by_cases hl : 0 ≤ lk xs p k i
    · obtain ⟨f1, f2, f3, f4, f5⟩ := lk_yes hl
      rw [if_pos hl, decide_eq_true hl]
      rw [f5]
      rw [hw] at f3 f4 ⊢
      generalize xs.getD a 0 = x at LD hba f3 f4
      clear hb h hl f5 hw e3 e4 e5 e6 hy hn hi
      go_enter Tryz.func295, Tryz.ntmps295
      go_wp2_with (first
        | (go_at_call 263; (with_reducible refine (at_any _ _ _ _ HP.out HK.out).mono ?_); rintro e w' ⟨rfl, rfl⟩; rw [e1, e2])
        | (go_at_call 227; (with_reducible refine LD.out.mono ?_); rintro e w' ⟨rfl, rfl⟩)
        | (go_at_call 223; (with_reducible refine (cells_any _ _ HK.out).mono ?_); rintro e w' ⟨rfl, rfl⟩))
      go_ret2
      exact ⟨rfl, rfl⟩
    · rw [if_neg hl, decide_eq_false hl]
      have hx : ¬ (0 ≤ -1 - xs.getD a 0 ∧ -1 - xs.getD a 0 ≤ cl k) := by
        intro hh
        apply hl
        unfold lk
        rw [hw, if_pos ⟨hi.1, hi.2, hh.1, hh.2⟩]
        exact hh.1
      generalize xs.getD a 0 = x at LD hba hx
      clear hb h hl hw e3 e4 e5 e6 hy hn hi
      by_cases hx1 : -1 - x < 0
      · clear hx
        go_enter Tryz.func295, Tryz.ntmps295
        go_wp2_with (first
          | (go_at_call 263; (with_reducible refine (at_any _ _ _ _ HP.out HK.out).mono ?_); rintro e w' ⟨rfl, rfl⟩; rw [e1, e2])
          | (go_at_call 227; (with_reducible refine LD.out.mono ?_); rintro e w' ⟨rfl, rfl⟩))
        go_ret2
        exact ⟨rfl, rfl⟩
      · have hx2 : cl k < -1 - x := by omega
        clear hx
        go_enter Tryz.func295, Tryz.ntmps295
        go_wp2_with (first
          | (go_at_call 263; (with_reducible refine (at_any _ _ _ _ HP.out HK.out).mono ?_); rintro e w' ⟨rfl, rfl⟩; rw [e1, e2])
          | (go_at_call 227; (with_reducible refine LD.out.mono ?_); rintro e w' ⟨rfl, rfl⟩)
          | (go_at_call 223; (with_reducible refine (cells_any _ _ HK.out).mono ?_); rintro e w' ⟨rfl, rfl⟩))
        go_ret2
        exact ⟨rfl, rfl⟩
  · have e0 : lk xs p k i = -1 := lk_no (by omega)
    have e1 : atk p k i = false := atk_no (by omega)
    rw [e0]
    clear hb h hi hn
    go_enter Tryz.func295, Tryz.ntmps295
    go_wp2_with (first
      | (go_at_call 263; (with_reducible refine (at_any _ _ _ _ HP.out HK.out).mono ?_); rintro e w' ⟨rfl, rfl⟩; rw [e1]))
    go_ret2
    exact ⟨rfl, rfl⟩
end Go.Proofs.YtkgdcgmbapchcaaGreatDoor.ch
namespace Go.Proofs.YtkgdcgmbapchcaaGreatDoor.ch
open Go.ChangeShapes Go.WideShapes Go.ChangeAt Go.RowKit gen calls cls geos mm
set_option linter.unusedVariables false
abbrev ansT (i f n : Int) (b : Bool) : Ending := .returned (.tuple #[.int .i64 i, .agg #[.int .i64 f, .int .i64 n], .bool b])
abbrev ansC (f n : Int) (b : Bool) : Ending := .returned (.tuple #[.agg #[.int .i64 f, .int .i64 n], .bool b])
theorem grown_two (w : World) (a b : Obj) : w.grownBy ((w.alloc a).alloc b) none := (World.grownBy_alloc w a none).trans (World.grownBy_alloc _ b none)
theorem grown_setc {w w' : World} {row : Option Nat} {B : Nat} (h : w.grownBy w' row) (hB : w.heap.size ≤ B) (k : Nat) (v : Value) : w.grownBy (w'.setCell ⟨B, k, none⟩ v) row :=
  ⟨h.os, h.tape, h.output, by simpa using h.size, fun i hi hne => (heap_setCell_other w' ⟨B, k, none⟩ i v (by simp; omega)).trans (h.block i hi hne)⟩
theorem _root_.Go.Proofs.YtkgdcgmbapchcaaGreatDoor.mm.MemAt.setc {w : World} {g r B : Nat} {xs : List Int} (h : MemAt w g r xs) (h1 : g ≠ B) (h2 : r ≠ B) (k : Nat) (v : Value) : MemAt (w.setCell ⟨B, k, none⟩ v) g r xs :=
  ⟨(heap_setCell_other w ⟨B, k, none⟩ g v h1).trans h.1, (heap_setCell_other w ⟨B, k, none⟩ r v h2).trans h.2.1, h.2.2⟩
theorem grown_drew (w : World) (row : Option Nat) : w.grownBy w.drew row := ⟨rfl, rfl, rfl, Nat.le_refl _, fun _ _ _ => rfl⟩
def tk (xs : List Int) (p k f n : Int) : Bool := thk xs.length p k && decide (1 ≤ n) && decide (0 ≤ lk xs p k f)
theorem tk_iff {xs : List Int} {p k f n : Int} : tk xs p k f n = true ↔ (thk xs.length p k = true ∧ 1 ≤ n ∧ 0 ≤ lk xs p k f) := by simp [tk, and_assoc]
theorem tk_no {xs : List Int} {p k f n : Int} (h : ¬ (thk xs.length p k = true ∧ 1 ≤ n ∧ 0 ≤ lk xs p k f)) : tk xs p k f n = false := by rw [← Bool.not_eq_true, tk_iff]; exact h
theorem Take_yes {g r : Nat} {xs : List Int} {w : World} (h : MemAt w g r xs) (hb : Bd xs) (p k f n : Int) (hp : fits p = true) (hk : fits k = true) (hn : fits n = true) (hy : tk xs p k f n = true) :
    Calls Tryz.prog 262 #[.pointer (some ⟨g, 0, none⟩), .int .i64 p, .int .i64 k, .agg #[.int .i64 f, .int .i64 n]] w fun e w' => e = ansT f (lk xs p k f) (n - 1) true ∧ w.grownBy w' none := by
  obtain ⟨t1, t2, t3⟩ := tk_iff.mp hy
  obtain ⟨n1, n2⟩ := fits_iff.mp hn
  have HP := Lib.hid hp
  have HK := Lib.hid hk
  have HB := Lib.hid hb
  have T1 := Lib.hid t1
  have G0 := Lib.hid (grown_two w (.cells #[.int .i64 f, .int .i64 n] 194) (.cells #[.int .i64 0, .int .i64 0] 194))
  have H := Lib.hid (h.kept G0.out (by simp) (by simp))
  have C0 := Lib.hid ((Two.new w 194 f n rfl).kept (World.grownBy_alloc _ (.cells #[.int .i64 0, .int .i64 0] 194) none) (by simp))
  have D0 := Lib.hid (Two.new (w.alloc (.cells #[.int .i64 f, .int .i64 n] 194)) 194 0 0 (B := w.heap.size + 1) (by simp))
  obtain ⟨c0, c1, c2, c3⟩ := C0.out
  obtain ⟨d0, d1, d2, d3⟩ := D0.out
  have L1 := Lib.hid (if_pos t3 : (if 0 ≤ lk xs p k f then lk xs p k f else 0) = lk xs p k f)
  have L2 := Lib.hid (decide_eq_true t3)
  obtain ⟨q, hq⟩ : ∃ q, q = lk xs p k f := ⟨_, rfl⟩
  rw [← hq] at L1 ⊢
  have HQ := Lib.hid hq
  clear hp hk hn hb hy t1 h t3 hq
  go_enter Tryz.func262, Tryz.ntmps262
  go_wp2_with (first
    | (go_at_call 294; (with_reducible refine (there_any H.out _ _ HP.out HK.out).mono ?_); rintro e w' ⟨rfl, rfl⟩; rw [T1.out])
    | (go_at_call 295; (with_reducible refine (told_any H.out HB.out _ _ _ T1.out HP.out HK.out).mono ?_); rintro e w' ⟨rfl, rfl⟩; rw [L2.out, ← HQ.out, L1.out]))
  go_region
  go_wp2
  refine bodyPost_ret (v := .tuple #[.int .i64 f, .agg #[.int .i64 q, .int .i64 (n - 1)], .bool true]) ?_ rfl ⟨rfl, li.grown_more (grown_two _ _ _) (grown_drew _ _)⟩
  simp [results, Tryz.results262, go_sem, *]
section
variable {g r : Nat} {xs : List Int} {w : World} (p k f n : Int)
theorem Take_not (h : MemAt w g r xs) (hp : fits p = true) (hk : fits k = true) (hy : thk xs.length p k = false) :
    Calls Tryz.prog 262 #[.pointer (some ⟨g, 0, none⟩), .int .i64 p, .int .i64 k, .agg #[.int .i64 f, .int .i64 n]] w fun e w' => e = ansT 0 0 0 false ∧ w.grownBy w' none := by
  have HP := Lib.hid hp
  have HK := Lib.hid hk
  have G0 := Lib.hid (grown_two w (.cells #[.int .i64 f, .int .i64 n] 194) (.cells #[.int .i64 0, .int .i64 0] 194))
  have H := Lib.hid (h.kept G0.out (by simp) (by simp))
  clear hp hk h
  go_enter Tryz.func262, Tryz.ntmps262
  go_wp2_with (first
    | (go_at_call 294; (with_reducible refine (there_any H.out _ _ HP.out HK.out).mono ?_); rintro e w' ⟨rfl, rfl⟩; rw [hy]))
  refine bodyPost_ret (v := .tuple #[.int .i64 0, .agg #[.int .i64 0, .int .i64 0], .bool false]) ?_ rfl ⟨rfl, grown_two _ _ _⟩
  simp [results, Tryz.results262, go_sem, *]
theorem Take_few (h : MemAt w g r xs) (hp : fits p = true) (hk : fits k = true) (ht : thk xs.length p k = true) (hy : n < 1) :
    Calls Tryz.prog 262 #[.pointer (some ⟨g, 0, none⟩), .int .i64 p, .int .i64 k, .agg #[.int .i64 f, .int .i64 n]] w fun e w' => e = ansT 0 0 0 false ∧ w.grownBy w' none := by
  have HP := Lib.hid hp
  have HK := Lib.hid hk
  have G0 := Lib.hid (grown_two w (.cells #[.int .i64 f, .int .i64 n] 194) (.cells #[.int .i64 0, .int .i64 0] 194))
  have H := Lib.hid (h.kept G0.out (by simp) (by simp))
  clear hp hk h
  go_enter Tryz.func262, Tryz.ntmps262
  go_wp2_with (first
    | (go_at_call 294; (with_reducible refine (there_any H.out _ _ HP.out HK.out).mono ?_); rintro e w' ⟨rfl, rfl⟩; rw [ht]))
  refine bodyPost_ret (v := .tuple #[.int .i64 0, .agg #[.int .i64 0, .int .i64 0], .bool false]) ?_ rfl ⟨rfl, grown_two _ _ _⟩
  simp [results, Tryz.results262, go_sem, *]
theorem Take_none (h : MemAt w g r xs) (hb : Bd xs) (hp : fits p = true) (hk : fits k = true) (hn : fits n = true) (ht : thk xs.length p k = true) (hy : ¬ 0 ≤ lk xs p k f) :
    Calls Tryz.prog 262 #[.pointer (some ⟨g, 0, none⟩), .int .i64 p, .int .i64 k, .agg #[.int .i64 f, .int .i64 n]] w fun e w' => e = ansT 0 0 0 false ∧ w.grownBy w' none := by
  by_cases hn1 : n < 1
  · exact Take_few p k f n h hp hk ht hn1
  obtain ⟨n1, n2⟩ := fits_iff.mp hn
  have HP := Lib.hid hp
  have HK := Lib.hid hk
  have HB := Lib.hid hb
  have T1 := Lib.hid ht
  have G0 := Lib.hid (grown_two w (.cells #[.int .i64 f, .int .i64 n] 194) (.cells #[.int .i64 0, .int .i64 0] 194))
  have H := Lib.hid (h.kept G0.out (by simp) (by simp))
  have L1 := Lib.hid (if_neg hy : (if 0 ≤ lk xs p k f then lk xs p k f else 0) = 0)
  have L2 := Lib.hid (decide_eq_false hy)
  clear hp hk hn hb h ht hy
  go_enter Tryz.func262, Tryz.ntmps262
  go_wp2_with (first
    | (go_at_call 294; (with_reducible refine (there_any H.out _ _ HP.out HK.out).mono ?_); rintro e w' ⟨rfl, rfl⟩; rw [T1.out])
    | (go_at_call 295; (with_reducible refine (told_any H.out HB.out _ _ _ T1.out HP.out HK.out).mono ?_); rintro e w' ⟨rfl, rfl⟩; rw [L2.out, L1.out]))
  refine bodyPost_ret (v := .tuple #[.int .i64 0, .agg #[.int .i64 0, .int .i64 0], .bool false]) ?_ rfl ⟨rfl, grown_two _ _ _⟩
  simp [results, Tryz.results262, go_sem, *]
theorem Take_no (h : MemAt w g r xs) (hb : Bd xs) (hp : fits p = true) (hk : fits k = true) (hn : fits n = true) (hy : tk xs p k f n = false) :
    Calls Tryz.prog 262 #[.pointer (some ⟨g, 0, none⟩), .int .i64 p, .int .i64 k, .agg #[.int .i64 f, .int .i64 n]] w fun e w' => e = ansT 0 0 0 false ∧ w.grownBy w' none := by
  cases ht : thk xs.length p k with
  | false => exact Take_not p k f n h hp hk ht
  | true =>
    by_cases hl : 0 ≤ lk xs p k f
    · refine Take_few p k f n h hp hk ht ?_
      rcases Int.lt_or_le n 1 with h1 | h1
      · exact h1
      · rw [tk_iff.mpr ⟨ht, h1, hl⟩] at hy; cases hy
    · exact Take_none p k f n h hb hp hk hn ht hl
end
def gv (m : Nat) (p k f n i : Int) : Bool := thk m p k && decide (0 ≤ i) && decide (i < cl k) && decide (0 ≤ n) && decide (n < cl k) && decide (0 ≤ f) && decide (f ≤ cl k)
theorem gv_iff {m : Nat} {p k f n i : Int} : gv m p k f n i = true ↔ (thk m p k = true ∧ 0 ≤ i ∧ i < cl k ∧ 0 ≤ n ∧ n < cl k ∧ 0 ≤ f ∧ f ≤ cl k) := by simp [gv, and_assoc]
section
variable {g r : Nat} {xs : List Int} {w : World} (p k f n i : Int)
theorem Give_yes (h : MemAt w g r xs) (hp : fits p = true) (hk : fits k = true) (hy : gv xs.length p k f n i = true) :
    Calls Tryz.prog 293 #[.pointer (some ⟨g, 0, none⟩), .int .i64 p, .int .i64 k, .agg #[.int .i64 f, .int .i64 n], .int .i64 i] w fun e w' =>
      e = ansC i (n + 1) true ∧ MemAt w' g r (xs.set (p * 32 + i * sz k).toNat (-1 - f)) ∧ w.grownBy w' (some r) := by
  obtain ⟨t1, i0, i1, n0, n1, f0, f1⟩ := gv_iff.mp hy
  obtain ⟨p0, p1, k0, k1, hl⟩ := thk_iff.mp t1
  obtain ⟨e1, a, e2, e3, e4, e5, e6⟩ := at_nat p0 p1 i0 i1
  have C := cl_wide k
  have HP := Lib.hid hp
  have HK := Lib.hid hk
  have T1 := Lib.hid t1
  have HA := Lib.hid (show a < xs.length by omega)
  have G0 := Lib.hid (grown_two w (.cells #[.int .i64 f, .int .i64 n] 194) (.cells #[.int .i64 0, .int .i64 0] 194))
  have HR := Lib.hid h.lt
  have H := Lib.hid (h.kept G0.out (by simp) (by simp))
  have C0 := Lib.hid ((Two.new w 194 f n rfl).kept (World.grownBy_alloc _ (.cells #[.int .i64 0, .int .i64 0] 194) none) (by simp))
  have D0 := Lib.hid (Two.new (w.alloc (.cells #[.int .i64 f, .int .i64 n] 194)) 194 0 0 (B := w.heap.size + 1) (by simp))
  obtain ⟨c0, c1, c2, c3⟩ := C0.out
  obtain ⟨d0, d1, d2, d3⟩ := D0.out
  rw [e3]
  clear hp hk hy t1 h e3 e4 e5 e6 p0 p1 k0 k1 hl
  go_enter Tryz.func293, Tryz.ntmps293
  go_wp2_with (first
    | (go_at_call 294; (with_reducible refine (there_any H.out _ _ HP.out HK.out).mono ?_); rintro e w' ⟨rfl, rfl⟩; rw [T1.out])
    | (go_at_call 263; (with_reducible refine (at_any _ _ _ _ HP.out HK.out).mono ?_); rintro e w' ⟨rfl, rfl⟩; rw [e1, e2])
    | (go_at_call 223; (with_reducible refine (cells_any _ _ HK.out).mono ?_); rintro e w' ⟨rfl, rfl⟩)
    | (go_at_call 317; (with_reducible refine (tell_any _ _ f0 (by omega)).mono ?_); rintro e w' ⟨rfl, rfl⟩)
    | (go_at_call 235; (with_reducible refine (Store_yes H.out a _ HA.out).mono ?_); rintro e w2 ⟨rfl, hm, hg⟩; have M2 := Lib.hid hm; have G2 := Lib.hid hg; obtain ⟨c0, c1, c2, c3⟩ := C0.out.kept hg (by have := HR.out.2; simp; omega); obtain ⟨d0, d1, d2, d3⟩ := D0.out.kept hg (by have := HR.out.2; simp; omega); clear hm hg))
  refine bodyPost_ret (v := .tuple #[.agg #[.int .i64 i, .int .i64 (n + 1)], .bool true]) ?_ rfl ⟨rfl, ?_, ?_⟩
  · simp [results, Tryz.results293, go_sem, *]
  · exact (M2.out.setc (by have := HR.out.1; omega) (by have := HR.out.2; omega) _ _).setc (by have := HR.out.1; omega) (by have := HR.out.2; omega) _ _
  · exact grown_setc (grown_setc (grown_then G0.out G2.out) (by omega) _ _) (by omega) _ _
end
end Go.Proofs.YtkgdcgmbapchcaaGreatDoor.ch
