/- Layer 8's Take and Give: what they do when they are called. -/
import Derived.Test.YtfhmhlofjoahlaaGreatDoorChA
import Derived.Deep.RegionHeld3
import Derived.Deep.RegionWith
import Derived.RegionTactic
namespace Go.Proofs.YtfhmhlofjoahlaaGreatDoor.ch
open Go.ChangeShapes Go.WideShapes Go.ChangeAt Go.RowKit gen calls cls geos mm
set_option linter.unusedVariables false

abbrev ansT (i f n : Int) (b : Bool) : Ending := .returned (.tuple #[.int .i64 i, .agg #[.int .i64 f, .int .i64 n], .bool b])
abbrev ansC (f n : Int) (b : Bool) : Ending := .returned (.tuple #[.agg #[.int .i64 f, .int .i64 n], .bool b])
theorem grown_two (w : World) (a b : Obj) : w.grownBy ((w.alloc a).alloc b) none := (World.grownBy_alloc w a none).trans (World.grownBy_alloc _ b none)
theorem fits_bd {xs : List Int} (h : Bd xs) (i : Nat) : fits (xs.getD i 0) = true := fits_iff.mpr (h i)

theorem grown_setc {w w' : World} {row : Option Nat} {B : Nat} (h : w.grownBy w' row) (hB : w.heap.size ≤ B) (k : Nat) (v : Value) : w.grownBy (w'.setCell ⟨B, k, none⟩ v) row :=
  ⟨h.os, h.tape, h.output, by simpa using h.size, fun i hi hne => (heap_setCell_other w' ⟨B, k, none⟩ i v (by simp; omega)).trans (h.block i hi hne)⟩
theorem _root_.Go.Proofs.YtfhmhlofjoahlaaGreatDoor.mm.MemAt.setc {w : World} {g r B : Nat} {xs : List Int} (h : MemAt w g r xs) (h1 : g ≠ B) (h2 : r ≠ B) (k : Nat) (v : Value) : MemAt (w.setCell ⟨B, k, none⟩ v) g r xs :=
  ⟨(heap_setCell_other w ⟨B, k, none⟩ g v h1).trans h.1, (heap_setCell_other w ⟨B, k, none⟩ r v h2).trans h.2.1, h.2.2⟩
theorem grown_drew (w : World) (row : Option Nat) : w.grownBy w.drew row := ⟨rfl, rfl, rfl, Nat.le_refl _, fun _ _ _ => rfl⟩

/-- Whether there is a first one to take. -/
def tk (xs : List Int) (p k f n : Int) : Bool := thk xs.length p k && decide (1 ≤ n) && decide (0 ≤ lk xs p k f)
theorem tk_iff {xs : List Int} {p k f n : Int} : tk xs p k f n = true ↔ (thk xs.length p k = true ∧ 1 ≤ n ∧ 0 ≤ lk xs p k f) := by simp [tk, and_assoc]
theorem tk_no {xs : List Int} {p k f n : Int} (h : ¬ (thk xs.length p k = true ∧ 1 ≤ n ∧ 0 ≤ lk xs p k f)) : tk xs p k f n = false := by rw [← Bool.not_eq_true, tk_iff]; exact h

theorem Take_yes {g r : Nat} {xs : List Int} {w : World} (h : MemAt w g r xs) (hb : Bd xs) (p k f n : Int) (hp : fits p = true) (hk : fits k = true) (hn : fits n = true) (hy : tk xs p k f n = true) :
    Calls Tryz.prog 73 #[.pointer (some ⟨g, 0, none⟩), .int .i64 p, .int .i64 k, .agg #[.int .i64 f, .int .i64 n]] w fun e w' => e = ansT f (lk xs p k f) (n - 1) true ∧ w.grownBy w' none := by
  obtain ⟨t1, t2, t3⟩ := tk_iff.mp hy
  obtain ⟨n1, n2⟩ := fits_iff.mp hn
  have HP := Lib.hid hp
  have HK := Lib.hid hk
  have HB := Lib.hid hb
  have T1 := Lib.hid t1
  have G0 := Lib.hid (grown_two w (.cells #[.int .i64 f, .int .i64 n] 74) (.cells #[.int .i64 0, .int .i64 0] 74))
  have H := Lib.hid (h.kept G0.out (by simp) (by simp))
  have C0 := Lib.hid ((Two.new w 74 f n rfl).kept (World.grownBy_alloc _ (.cells #[.int .i64 0, .int .i64 0] 74) none) (by simp))
  have D0 := Lib.hid (Two.new (w.alloc (.cells #[.int .i64 f, .int .i64 n] 74)) 74 0 0 (B := w.heap.size + 1) (by simp))
  obtain ⟨c0, c1, c2, c3⟩ := C0.out
  obtain ⟨d0, d1, d2, d3⟩ := D0.out
  have L1 := Lib.hid (if_pos t3 : (if 0 ≤ lk xs p k f then lk xs p k f else 0) = lk xs p k f)
  have L2 := Lib.hid (decide_eq_true t3)
  obtain ⟨q, hq⟩ : ∃ q, q = lk xs p k f := ⟨_, rfl⟩
  rw [← hq] at L1 ⊢
  have HQ := Lib.hid hq
  clear hp hk hn hb hy t1 h t3 hq
  go_enter Tryz.func73, Tryz.ntmps73
  go_wp2_with (first
    | (go_at_call 89; (with_reducible refine (there_any H.out _ _ HP.out HK.out).mono ?_); rintro e w' ⟨rfl, rfl⟩; rw [T1.out])
    | (go_at_call 100; (with_reducible refine (told_any H.out HB.out _ _ _ T1.out HP.out HK.out).mono ?_); rintro e w' ⟨rfl, rfl⟩; rw [L2.out, ← HQ.out, L1.out]))
  go_region
  go_wp2
  refine bodyPost_ret (v := .tuple #[.int .i64 f, .agg #[.int .i64 q, .int .i64 (n - 1)], .bool true]) ?_ rfl ⟨rfl, li.grown_more (grown_two _ _ _) (grown_drew _ _)⟩
  simp [results, Tryz.results73, go_sem, *]

section
variable {g r : Nat} {xs : List Int} {w : World} (p k f n : Int)
theorem Take_not (h : MemAt w g r xs) (hp : fits p = true) (hk : fits k = true) (hy : thk xs.length p k = false) :
    Calls Tryz.prog 73 #[.pointer (some ⟨g, 0, none⟩), .int .i64 p, .int .i64 k, .agg #[.int .i64 f, .int .i64 n]] w fun e w' => e = ansT 0 0 0 false ∧ w.grownBy w' none := by
  have HP := Lib.hid hp
  have HK := Lib.hid hk
  have G0 := Lib.hid (grown_two w (.cells #[.int .i64 f, .int .i64 n] 74) (.cells #[.int .i64 0, .int .i64 0] 74))
  have H := Lib.hid (h.kept G0.out (by simp) (by simp))
  clear hp hk h
  go_enter Tryz.func73, Tryz.ntmps73
  go_wp2_with (first
    | (go_at_call 89; (with_reducible refine (there_any H.out _ _ HP.out HK.out).mono ?_); rintro e w' ⟨rfl, rfl⟩; rw [hy]))
  refine bodyPost_ret (v := .tuple #[.int .i64 0, .agg #[.int .i64 0, .int .i64 0], .bool false]) ?_ rfl ⟨rfl, grown_two _ _ _⟩
  simp [results, Tryz.results73, go_sem, *]
theorem Take_few (h : MemAt w g r xs) (hp : fits p = true) (hk : fits k = true) (ht : thk xs.length p k = true) (hy : n < 1) :
    Calls Tryz.prog 73 #[.pointer (some ⟨g, 0, none⟩), .int .i64 p, .int .i64 k, .agg #[.int .i64 f, .int .i64 n]] w fun e w' => e = ansT 0 0 0 false ∧ w.grownBy w' none := by
  have HP := Lib.hid hp
  have HK := Lib.hid hk
  have G0 := Lib.hid (grown_two w (.cells #[.int .i64 f, .int .i64 n] 74) (.cells #[.int .i64 0, .int .i64 0] 74))
  have H := Lib.hid (h.kept G0.out (by simp) (by simp))
  clear hp hk h
  go_enter Tryz.func73, Tryz.ntmps73
  go_wp2_with (first
    | (go_at_call 89; (with_reducible refine (there_any H.out _ _ HP.out HK.out).mono ?_); rintro e w' ⟨rfl, rfl⟩; rw [ht]))
  refine bodyPost_ret (v := .tuple #[.int .i64 0, .agg #[.int .i64 0, .int .i64 0], .bool false]) ?_ rfl ⟨rfl, grown_two _ _ _⟩
  simp [results, Tryz.results73, go_sem, *]
theorem Take_none (h : MemAt w g r xs) (hb : Bd xs) (hp : fits p = true) (hk : fits k = true) (hn : fits n = true) (ht : thk xs.length p k = true) (hy : ¬ 0 ≤ lk xs p k f) :
    Calls Tryz.prog 73 #[.pointer (some ⟨g, 0, none⟩), .int .i64 p, .int .i64 k, .agg #[.int .i64 f, .int .i64 n]] w fun e w' => e = ansT 0 0 0 false ∧ w.grownBy w' none := by
  by_cases hn1 : n < 1
  · exact Take_few p k f n h hp hk ht hn1
  obtain ⟨n1, n2⟩ := fits_iff.mp hn
  have HP := Lib.hid hp
  have HK := Lib.hid hk
  have HB := Lib.hid hb
  have T1 := Lib.hid ht
  have G0 := Lib.hid (grown_two w (.cells #[.int .i64 f, .int .i64 n] 74) (.cells #[.int .i64 0, .int .i64 0] 74))
  have H := Lib.hid (h.kept G0.out (by simp) (by simp))
  have L1 := Lib.hid (if_neg hy : (if 0 ≤ lk xs p k f then lk xs p k f else 0) = 0)
  have L2 := Lib.hid (decide_eq_false hy)
  clear hp hk hn hb h ht hy
  go_enter Tryz.func73, Tryz.ntmps73
  go_wp2_with (first
    | (go_at_call 89; (with_reducible refine (there_any H.out _ _ HP.out HK.out).mono ?_); rintro e w' ⟨rfl, rfl⟩; rw [T1.out])
    | (go_at_call 100; (with_reducible refine (told_any H.out HB.out _ _ _ T1.out HP.out HK.out).mono ?_); rintro e w' ⟨rfl, rfl⟩; rw [L2.out, L1.out]))
  refine bodyPost_ret (v := .tuple #[.int .i64 0, .agg #[.int .i64 0, .int .i64 0], .bool false]) ?_ rfl ⟨rfl, grown_two _ _ _⟩
  simp [results, Tryz.results73, go_sem, *]
theorem Take_no (h : MemAt w g r xs) (hb : Bd xs) (hp : fits p = true) (hk : fits k = true) (hn : fits n = true) (hy : tk xs p k f n = false) :
    Calls Tryz.prog 73 #[.pointer (some ⟨g, 0, none⟩), .int .i64 p, .int .i64 k, .agg #[.int .i64 f, .int .i64 n]] w fun e w' => e = ansT 0 0 0 false ∧ w.grownBy w' none := by
  cases ht : thk xs.length p k with
  | false => exact Take_not p k f n h hp hk ht
  | true =>
    by_cases hl : 0 ≤ lk xs p k f
    · refine Take_few p k f n h hp hk ht ?_
      rcases Int.lt_or_le n 1 with h1 | h1
      · exact h1
      · rw [tk_iff.mpr ⟨ht, h1, hl⟩] at hy; cases hy
    · exact Take_none p k f n h hb hp hk hn ht hl
end

/-- Whether cell i may be given. -/
def gv (m : Nat) (p k f n i : Int) : Bool := thk m p k && decide (0 ≤ i) && decide (i < cl k) && decide (0 ≤ n) && decide (n < cl k) && decide (0 ≤ f) && decide (f ≤ cl k)
theorem gv_iff {m : Nat} {p k f n i : Int} : gv m p k f n i = true ↔ (thk m p k = true ∧ 0 ≤ i ∧ i < cl k ∧ 0 ≤ n ∧ n < cl k ∧ 0 ≤ f ∧ f ≤ cl k) := by simp [gv, and_assoc]
section
variable {g r : Nat} {xs : List Int} {w : World} (p k f n i : Int)
theorem Give_yes (h : MemAt w g r xs) (hp : fits p = true) (hk : fits k = true) (hy : gv xs.length p k f n i = true) :
    Calls Tryz.prog 59 #[.pointer (some ⟨g, 0, none⟩), .int .i64 p, .int .i64 k, .agg #[.int .i64 f, .int .i64 n], .int .i64 i] w fun e w' =>
      e = ansC i (n + 1) true ∧ MemAt w' g r (xs.set (p * 32 + i * sz k).toNat (-1 - f)) ∧ w.grownBy w' (some r) := by
  obtain ⟨t1, i0, i1, n0, n1, f0, f1⟩ := gv_iff.mp hy
  obtain ⟨p0, p1, k0, k1, hl⟩ := thk_iff.mp t1
  obtain ⟨e1, a, e2, e3, e4, e5, e6⟩ := at_nat p0 p1 i0 i1
  have C := cl_wide k
  have HP := Lib.hid hp
  have HK := Lib.hid hk
  have T1 := Lib.hid t1
  have HA := Lib.hid (show a < xs.length by omega)
  have G0 := Lib.hid (grown_two w (.cells #[.int .i64 f, .int .i64 n] 74) (.cells #[.int .i64 0, .int .i64 0] 74))
  have HR := Lib.hid h.lt
  have H := Lib.hid (h.kept G0.out (by simp) (by simp))
  have C0 := Lib.hid ((Two.new w 74 f n rfl).kept (World.grownBy_alloc _ (.cells #[.int .i64 0, .int .i64 0] 74) none) (by simp))
  have D0 := Lib.hid (Two.new (w.alloc (.cells #[.int .i64 f, .int .i64 n] 74)) 74 0 0 (B := w.heap.size + 1) (by simp))
  obtain ⟨c0, c1, c2, c3⟩ := C0.out
  obtain ⟨d0, d1, d2, d3⟩ := D0.out
  rw [e3]
  clear hp hk hy t1 h e3 e4 e5 e6 p0 p1 k0 k1 hl
  go_enter Tryz.func59, Tryz.ntmps59
  go_wp2_with (first
    | (go_at_call 89; (with_reducible refine (there_any H.out _ _ HP.out HK.out).mono ?_); rintro e w' ⟨rfl, rfl⟩; rw [T1.out])
    | (go_at_call 74; (with_reducible refine (at_any _ _ _ _ HP.out HK.out).mono ?_); rintro e w' ⟨rfl, rfl⟩; rw [e1, e2])
    | (go_at_call 48; (with_reducible refine (cells_any _ _ HK.out).mono ?_); rintro e w' ⟨rfl, rfl⟩)
    | (go_at_call 90; (with_reducible refine (tell_any _ _ f0 (by omega)).mono ?_); rintro e w' ⟨rfl, rfl⟩)
    | (go_at_call 62; (with_reducible refine (Store_yes H.out a _ HA.out).mono ?_); rintro e w2 ⟨rfl, hm, hg⟩; have M2 := Lib.hid hm; have G2 := Lib.hid hg; obtain ⟨c0, c1, c2, c3⟩ := C0.out.kept hg (by have := HR.out.2; simp; omega); obtain ⟨d0, d1, d2, d3⟩ := D0.out.kept hg (by have := HR.out.2; simp; omega); clear hm hg))
  refine bodyPost_ret (v := .tuple #[.agg #[.int .i64 i, .int .i64 (n + 1)], .bool true]) ?_ rfl ⟨rfl, ?_, ?_⟩
  · simp [results, Tryz.results59, go_sem, *]
  · exact (M2.out.setc (by have := HR.out.1; omega) (by have := HR.out.2; omega) _ _).setc (by have := HR.out.1; omega) (by have := HR.out.2; omega) _ _
  · exact grown_setc (grown_setc (grown_then G0.out G2.out) (by omega) _ _) (by omega) _ _
theorem Give_not (h : MemAt w g r xs) (hp : fits p = true) (hk : fits k = true) (hy : ¬ (atk p k i = true ∧ thk xs.length p k = true)) :
    Calls Tryz.prog 59 #[.pointer (some ⟨g, 0, none⟩), .int .i64 p, .int .i64 k, .agg #[.int .i64 f, .int .i64 n], .int .i64 i] w fun e w' => e = ansC 0 0 false ∧ w.grownBy w' none := by
  have HP := Lib.hid hp
  have HK := Lib.hid hk
  have G0 := Lib.hid (grown_two w (.cells #[.int .i64 f, .int .i64 n] 74) (.cells #[.int .i64 0, .int .i64 0] 74))
  have H := Lib.hid (h.kept G0.out (by simp) (by simp))
  cases ea : atk p k i with
  | true =>
    have et : thk xs.length p k = false := by rw [← Bool.not_eq_true]; exact fun e => hy ⟨ea, e⟩
    have EA := Lib.hid ea
    have ET := Lib.hid et
    clear hp hk h hy ea et
    go_enter Tryz.func59, Tryz.ntmps59
    go_wp2_with (first
      | (go_at_call 89; (with_reducible refine (there_any H.out _ _ HP.out HK.out).mono ?_); rintro e w' ⟨rfl, rfl⟩; rw [ET.out])
      | (go_at_call 74; (with_reducible refine (at_any _ _ _ _ HP.out HK.out).mono ?_); rintro e w' ⟨rfl, rfl⟩; rw [EA.out]))
    refine bodyPost_ret (v := .tuple #[.agg #[.int .i64 0, .int .i64 0], .bool false]) ?_ rfl ⟨rfl, grown_two _ _ _⟩
    simp [results, Tryz.results59, go_sem, *]
  | false =>
    have EA := Lib.hid ea
    clear hp hk h hy ea
    go_enter Tryz.func59, Tryz.ntmps59
    go_wp2_with (first
      | (go_at_call 74; (with_reducible refine (at_any _ _ _ _ HP.out HK.out).mono ?_); rintro e w' ⟨rfl, rfl⟩; rw [EA.out]))
    refine bodyPost_ret (v := .tuple #[.agg #[.int .i64 0, .int .i64 0], .bool false]) ?_ rfl ⟨rfl, grown_two _ _ _⟩
    simp [results, Tryz.results59, go_sem, *]
theorem Give_bad (h : MemAt w g r xs) (hp : fits p = true) (hk : fits k = true) (ha : atk p k i = true) (ht : thk xs.length p k = true) (hy : n < 0 ∨ cl k ≤ n ∨ f < 0 ∨ cl k < f) :
    Calls Tryz.prog 59 #[.pointer (some ⟨g, 0, none⟩), .int .i64 p, .int .i64 k, .agg #[.int .i64 f, .int .i64 n], .int .i64 i] w fun e w' => e = ansC 0 0 false ∧ w.grownBy w' none := by
  have HP := Lib.hid hp
  have HK := Lib.hid hk
  have G0 := Lib.hid (grown_two w (.cells #[.int .i64 f, .int .i64 n] 74) (.cells #[.int .i64 0, .int .i64 0] 74))
  have H := Lib.hid (h.kept G0.out (by simp) (by simp))
  have EA := Lib.hid ha
  have ET := Lib.hid ht
  have HY := Lib.hid hy
  clear hp hk h ha ht hy
  go_enter Tryz.func59, Tryz.ntmps59
  go_wp2_with (first
    | (go_at_call 89; (with_reducible refine (there_any H.out _ _ HP.out HK.out).mono ?_); rintro e w' ⟨rfl, rfl⟩; rw [ET.out])
    | (go_at_call 74; (with_reducible refine (at_any _ _ _ _ HP.out HK.out).mono ?_); rintro e w' ⟨rfl, rfl⟩; rw [EA.out])
    | (go_at_call 48; (with_reducible refine (cells_any _ _ HK.out).mono ?_); rintro e w' ⟨rfl, rfl⟩; generalize cl k = c at HY ⊢; rcases HY.out with y | y | y | y))
  all_goals
    refine bodyPost_ret (v := .tuple #[.agg #[.int .i64 0, .int .i64 0], .bool false]) ?_ rfl ⟨rfl, grown_two _ _ _⟩
    simp [results, Tryz.results59, go_sem, *]
theorem Give_no (h : MemAt w g r xs) (hp : fits p = true) (hk : fits k = true) (hy : gv xs.length p k f n i = false) :
    Calls Tryz.prog 59 #[.pointer (some ⟨g, 0, none⟩), .int .i64 p, .int .i64 k, .agg #[.int .i64 f, .int .i64 n], .int .i64 i] w fun e w' => e = ansC 0 0 false ∧ w.grownBy w' none := by
  by_cases h1 : atk p k i = true ∧ thk xs.length p k = true
  · refine Give_bad p k f n i h hp hk h1.1 h1.2 ?_
    have h2 := atk_iff.mp h1.1
    by_cases h3 : n < 0 ∨ cl k ≤ n ∨ f < 0 ∨ cl k < f
    · exact h3
    · rw [gv_iff.mpr ⟨h1.2, by omega⟩] at hy; cases hy
  · exact Give_not p k f n i h hp hk h1
end
end Go.Proofs.YtfhmhlofjoahlaaGreatDoor.ch
