/- Texts that this claim stands on. -/
import Derived.Test.YtkgdcgmbapchcaaGreatDoorRows
import Derived.WalkKit
import Derived.ProofKit
import Derived.OpenShut
import Derived.Outline
import Derived.Lib.Hide
import Derived.IntWalk
import Derived.Deep.AppendLies
import Derived.Maps.Range
import Derived.Deep.Draws
import Derived.Laws.Cover3
import Derived.Laws.CopyOwn
import Derived.Deep.QuietTactic
import Derived.BigQuiet
import Derived.Laws.AppendOwnNone
import Derived.Deep.RegionHeld3
import Derived.Deep.RegionHeldLaw
import Derived.Deep.RegionLaw
import Derived.Lib.SliceRun
import Derived.OwnWalk
import Derived.Test.YtkgdcgmbapchcaaGreatDoorQGnQ
namespace Go.Proofs.YtkgdcgmbapchcaaGreatDoor.mm
open Go.ChangeShapes Go.WideShapes Go.ChangeAt Go.RowKit
set_option linter.unusedVariables false
def ints (xs : List Int) : List Value := xs.map (Value.int .i64)
def MemAt (w : World) (g r : Nat) (xs : List Int) : Prop :=
  w.heap[g]? = some (.cells #[.slice (some ⟨r, 0, none⟩) xs.length xs.length] 256 (0, 0)) ∧ w.heap[r]? = some (.cells (ints xs).toArray 2 (0, 0)) ∧ xs.length ≤ 2048
theorem lt_of_heap {w : World} {g : Nat} {o : Obj} (h : w.heap[g]? = some o) : g < w.heap.size := (Array.getElem?_eq_some_iff.1 h).1
theorem MemAt.ne {w : World} {g r : Nat} {xs : List Int} (h : MemAt w g r xs) : g ≠ r := by
  rintro rfl
  have := h.1.symm.trans h.2.1
  simp at this
theorem MemAt.lt {w : World} {g r : Nat} {xs : List Int} (h : MemAt w g r xs) : g < w.heap.size ∧ r < w.heap.size := ⟨lt_of_heap h.1, lt_of_heap h.2.1⟩
theorem MemAt.kept {w w' : World} {g r : Nat} {xs : List Int} {row : Option Nat} (h : MemAt w g r xs) (hg : w.grownBy w' row) (h1 : some g ≠ row) (h2 : some r ≠ row) : MemAt w' g r xs :=
  ⟨(hg.block g h.lt.1 h1).trans h.1, (hg.block r h.lt.2 h2).trans h.2.1, h.2.2⟩
theorem MemAt.field {w : World} {g r : Nat} {xs : List Int} (h : MemAt w g r xs) : w.cell? ⟨g, 0, none⟩ = some (.slice (some ⟨r, 0, none⟩) xs.length xs.length) := by
  rw [cell_of_row w g 0 _ _ _ h.1]; rfl
theorem MemAt.word {w : World} {g r : Nat} {xs : List Int} (h : MemAt w g r xs) {k : Nat} (hk : k < xs.length) : w.cell? ⟨r, k, none⟩ = some (.int .i64 (xs.getD k 0)) := by
  rw [cell_of_row w r k _ _ _ h.2.1]
  simp [ints, hk]
theorem MemAt.free {w : World} {g r : Nat} {xs : List Int} (h : MemAt w g r xs) (k : Nat) : w.frozen? ⟨r, k, none⟩ = false := frozen_of_row w r k _ _ h.2.1
theorem MemAt.set {w : World} {g r : Nat} {xs : List Int} (h : MemAt w g r xs) (k : Nat) (v : Int) : MemAt (w.setCell ⟨r, k, none⟩ (.int .i64 v)) g r (xs.set k v) ∧ w.grownBy (w.setCell ⟨r, k, none⟩ (.int .i64 v)) (some r) := by
  refine ⟨⟨?_, ?_, by simpa using h.2.2⟩, ⟨rfl, rfl, rfl, by simp, fun i _ hi => heap_setCell_other w ⟨r, k, none⟩ i _ (fun e => hi (by simp [e]))⟩⟩
  · rw [heap_setCell_other w ⟨r, k, none⟩ g _ h.ne, h.1]; simp
  · rw [heap_setCell_same w r k _ _ _ h.2.1]
    simp [ints, List.map_set]
theorem made_yes (g : Nat) (A : Addr) (n c : Nat) (w : World) (h : w.cell? ⟨g, 0, none⟩ = some (.slice (some A) n c)) :
    Calls Tryz.prog 300 #[.pointer (some ⟨g, 0, none⟩)] w fun e w' => e = .returned (.bool true) ∧ w = w' := by
  go_enter Tryz.func300, Tryz.ntmps300
  go_wp2
  go_ret
  exact ⟨rfl, rfl⟩
theorem Len_yes {g r : Nat} {xs : List Int} {w : World} (h : MemAt w g r xs) :
    Calls Tryz.prog 318 #[.pointer (some ⟨g, 0, none⟩)] w fun e w' => e = .returned (.int .i64 xs.length) ∧ w = w' := by
  have f := h.field
  generalize xs.length = n at f
  clear h
  go_enter Tryz.func318, Tryz.ntmps318
  go_wp2_with (go_at_call 300; (with_reducible refine (made_yes _ _ _ _ _ f).mono ?_); rintro e w' ⟨rfl, rfl⟩)
  go_ret
  exact ⟨rfl, rfl⟩
def PartAns (r a n : Nat) (e : Ending) : Prop := ∃ A : Addr, e = .returned (.tuple #[.slice (some A) n n, .bool true]) ∧ (0 < n → A = ⟨r, a, none⟩)
theorem part_yes {g r : Nat} {xs : List Int} {w : World} (h : MemAt w g r xs) (a n : Nat) (hyes : a + n ≤ xs.length) :
    Calls Tryz.prog 273 #[.pointer (some ⟨g, 0, none⟩), .int .i64 a, .int .i64 n] w fun e w' => PartAns r a n e ∧ w = w' := by
  have f := h.field
  have hl := h.2.2
  generalize xs.length = m at f hl hyes
  clear h
  have h3 : ¬ ((m : Int) - n < a) := by omega
  go_enter Tryz.func273, Tryz.ntmps273
  go_wp2_with (go_at_call 300; (with_reducible refine (made_yes _ _ _ _ _ f).mono ?_); rintro e w' ⟨rfl, rfl⟩)
  · rename_i hz
    obtain rfl : n = 0 := by omega
    go_ret2
    exact ⟨⟨_, rfl, fun h => absurd h (by omega)⟩, rfl⟩
  · go_ret2
    exact ⟨⟨_, rfl, fun _ => rfl⟩, rfl⟩
theorem part_one {g r : Nat} {xs : List Int} {w : World} (h : MemAt w g r xs) (a : Nat) (hyes : a < xs.length) :
    Calls Tryz.prog 273 #[.pointer (some ⟨g, 0, none⟩), .int .i64 a, .int .i64 1] w fun e w' => e = .returned (.tuple #[.slice (some ⟨r, a, none⟩) 1 1, .bool true]) ∧ w = w' :=
  (part_yes h a 1 hyes).mono fun _ _ ⟨⟨A, he, hA⟩, hw⟩ => ⟨by rw [he, hA (by omega)], hw⟩
theorem Load_yes {g r : Nat} {xs : List Int} {w : World} (h : MemAt w g r xs) (a : Nat) (hyes : a < xs.length) :
    Calls Tryz.prog 227 #[.pointer (some ⟨g, 0, none⟩), .int .i64 a] w fun e w' => e = .returned (.tuple #[.int .i64 (xs.getD a 0), .bool true]) ∧ w = w' := by
  have f := h.word hyes
  have H := Lib.hid h
  have HY := Lib.hid hyes
  generalize xs.getD a 0 = x at f
  clear h hyes
  go_enter Tryz.func227, Tryz.ntmps227
  go_wp2_with (go_at_call 273; (with_reducible refine (part_one H.out a HY.out).mono ?_); rintro e w' ⟨rfl, rfl⟩)
  go_ret2
  exact ⟨rfl, rfl⟩
end Go.Proofs.YtkgdcgmbapchcaaGreatDoor.mm
namespace Go.Proofs.YtkgdcgmbapchcaaGreatDoor.mm
open Go.ChangeShapes Go.WideShapes Go.ChangeAt Go.RowKit gen
set_option linter.unusedVariables false
def fillN (xs : List Int) (a : Nat) (v : Int) : Nat → List Int
  | 0 => xs
  | k + 1 => (fillN xs a v k).set (a + k) v
theorem fillN_length (xs : List Int) (a : Nat) (v : Int) (k : Nat) : (fillN xs a v k).length = xs.length := by
  induction k with
  | zero => rfl
  | succ k ih => simp [fillN, ih]
theorem grown_refl (w : World) (row : Option Nat) : w.grownBy w row := ⟨rfl, rfl, rfl, Nat.le_refl _, fun _ _ _ => rfl⟩
theorem grown_then {a b c : World} {row : Option Nat} (h : a.grownBy b none) (k : b.grownBy c row) : a.grownBy c row :=
  ⟨k.os.trans h.os, k.tape.trans h.tape, k.output.trans h.output, Nat.le_trans h.size k.size, fun i hi hne => (k.block i (Nat.lt_of_lt_of_le hi h.size) hne).trans (h.block i hi (by simp))⟩
end Go.Proofs.YtkgdcgmbapchcaaGreatDoor.mm
namespace Go.Proofs.YtkgdcgmbapchcaaGreatDoor.mm
open Go.ChangeShapes Go.WideShapes Go.ChangeAt Go.RowKit gen
set_option linter.unusedVariables false
theorem Fill_yes {g r : Nat} {xs : List Int} {w : World} (h : MemAt w g r xs) (a n : Nat) (v : Int) (hyes : a + n ≤ xs.length) :
    Calls Tryz.prog 281 #[.pointer (some ⟨g, 0, none⟩), .int .i64 a, .int .i64 n, .int .i64 v] w fun e w' => e = .returned (.bool true) ∧ MemAt w' g r (fillN xs a v n) ∧ w.grownBy w' (some r) := by
  have H := Lib.hid h
  have HY := Lib.hid hyes
  have hs : n ≤ 2048 := by have := h.2.2; omega
  have ha : a ≤ 2048 := by have := h.2.2; omega
  clear h hyes
  go_enter Tryz.func281, Tryz.ntmps281
  go_wp2_with (go_at_call 273; (with_reducible refine (part_yes H.out a n HY.out).mono ?_); rintro e w' ⟨⟨A, rfl, hA⟩, rfl⟩; have HA := Lib.hid hA; clear hA)
  go_loopw [21] (fun i wr => ∃ k : Nat, k ≤ n ∧ i = .int .i64 k ∧ MemAt wr g r (fillN xs a v k) ∧ w.grownBy wr (some r)) (fun i _ => n - (intOf i).toNat)
  case atStart => exact ⟨0, Nat.zero_le _, rfl, H.out, grown_refl _ _⟩
  case round =>
    obtain ⟨k, hk, rfl, hm, hg⟩ := hrel
    have HM := Lib.hid hm
    have HG := Lib.hid hg
    clear hm hg
    by_cases hlt : k < n
    · obtain rfl := HA.out (by omega)
      have hc := HM.out.word (k := a + k) (by rw [fillN_length]; have := HY.out; omega)
      have hf := HM.out.free (a + k)
      go_wp2
      go_roundw
      case rel => exact ⟨k + 1, by omega, by go_num, (HM.out.set (a + k) v).1, HG.out.trans (HM.out.set (a + k) v).2⟩
      case measure => simp [intOf]; omega
    · obtain rfl : k = n := by omega
      go_wp2
      go_ret
      exact ⟨rfl, HM.out, HG.out⟩
theorem Fill_one {g r : Nat} {xs : List Int} {w : World} (h : MemAt w g r xs) (a : Nat) (v : Int) (hyes : a < xs.length) :
    Calls Tryz.prog 281 #[.pointer (some ⟨g, 0, none⟩), .int .i64 a, .int .i64 1, .int .i64 v] w fun e w' => e = .returned (.bool true) ∧ MemAt w' g r (xs.set a v) ∧ w.grownBy w' (some r) :=
  Fill_yes h a 1 v hyes
theorem Store_yes {g r : Nat} {xs : List Int} {w : World} (h : MemAt w g r xs) (a : Nat) (v : Int) (hyes : a < xs.length) :
    Calls Tryz.prog 235 #[.pointer (some ⟨g, 0, none⟩), .int .i64 a, .int .i64 v] w fun e w' => e = .returned (.bool true) ∧ MemAt w' g r (xs.set a v) ∧ w.grownBy w' (some r) := by
  have H := Lib.hid (Fill_one h a v hyes)
  clear h hyes
  go_enter Tryz.func235, Tryz.ntmps235
  go_wp2_with (go_at_call 281; (with_reducible refine H.out.mono ?_); rintro e w' ⟨rfl, hm, hg⟩; have HM := Lib.hid hm; have HG := Lib.hid hg; clear hm hg)
  go_ret
  exact ⟨rfl, HM.out, HG.out⟩
end Go.Proofs.YtkgdcgmbapchcaaGreatDoor.mm
namespace Go.Proofs.YtkgdcgmbapchcaaGreatDoor.mm
open Go.ChangeShapes Go.WideShapes Go.ChangeAt Go.RowKit gen
set_option linter.unusedVariables false
def near (n a b : Int) : Int := if n < a then a else if b < n then b else n
theorem ret_int {a b : Int} (h : a = b) : Ending.returned (.int .i64 a) = .returned (.int .i64 b) := by rw [h]
theorem Clamp_any (n a b : Int) (w : World) : Calls Tryz.prog 104 #[.int .i64 n, .int .i64 a, .int .i64 b] w fun e w' => e = .returned (.int .i64 (near n a b)) ∧ w = w' := by
  by_cases h : n < a
  · go_enter Tryz.func104, Tryz.ntmps104
    go_wp2
    go_ret
    exact ⟨by simp [near, h], rfl⟩
  by_cases h2 : b < n
  all_goals
    go_enter Tryz.func104, Tryz.ntmps104
    go_wp2
    go_ret
    exact ⟨ret_int (by unfold near; repeat' split
                       all_goals omega), rfl⟩
theorem info2' : (Tryz.prog.info? 2).map (fun i => (i.zero, i.size, i.bytes)) = some (some (.int .i64 0), 1, 8) := by kernel_rfl
theorem make_words (n : Nat) (hn : n ≤ 2048) (w : World) :
    (Instr.makeSlice 244 (.int .i64 (n : Int)) (.int .i64 (n : Int))).run Tryz.prog w = .ok (.slice (some ⟨w.heap.size, 0, none⟩) n n) (w.alloc (.cells (ints (List.replicate n 0)).toArray 2)) := by
  obtain ⟨i0, hi, hz0, hz1, hz2⟩ := info_parts info2'
  have h := run_make (P := Tryz.prog) w 244 2 i0 _ Tryz.underlying244 hi hz0 .i64 .i64 n n (by omega) (Int.le_refl _) (by rw [hz2]; omega) (by omega)
  rw [h]
  simp only [Int.toNat_natCast, hz1, Nat.mul_one]
  have e : madeCells (Value.cells (.int .i64 0)) n = (ints (List.replicate n 0)).toArray := by
    apply Array.ext'
    rw [show Value.cells (.int .i64 0) = #[.int .i64 0] from rfl, toList_madeCells_one]
    simp [ints]
  rw [e]
def NewAns (xs : List Int) (w : World) (e : Ending) (w' : World) : Prop := ∃ g r, e = .returned (.pointer (some ⟨g, 0, none⟩)) ∧ MemAt w' g r xs ∧ w.heap.size ≤ g ∧ w.heap.size ≤ r ∧ w.grownBy w' none
theorem New_any (n : Int) (k : Nat) (hk : near n 0 2048 = k) (w : World) :
    Calls Tryz.prog 240 #[.int .i64 n] w (NewAns (List.replicate k 0) w) := by
  have h2 : k ≤ 2048 := by unfold near at hk; repeat' split at hk
                           all_goals omega
  have HK := Lib.hid hk
  have mk := make_words k h2
  clear hk
  obtain ⟨cs, hcs⟩ : ∃ cs, cs = (ints (List.replicate k 0)).toArray := ⟨_, rfl⟩
  rw [← hcs] at mk
  have HC := Lib.hid hcs
  clear hcs
  go_enter Tryz.func240, Tryz.ntmps240
  go_wp2_with (go_at_call 104; (with_reducible refine (Clamp_any _ _ _ _).mono ?_); rintro e w' ⟨rfl, rfl⟩; rw [HK.out])
  go_ret
  have hs : (w.alloc (.cells cs 2)).heap.size = w.heap.size + 1 := by simp
  refine ⟨_, w.heap.size, rfl, ⟨?_, ?_, by simpa using h2⟩, by omega, Nat.le_refl _, (World.grownBy_alloc _ _ _).trans (World.grownBy_alloc _ _ _)⟩
  · rw [← hs, heap_alloc_new]
    simp
  · rw [Below.heap_alloc _ _ _ (by omega), heap_alloc_new, HC.out]
end Go.Proofs.YtkgdcgmbapchcaaGreatDoor.mm
namespace Go.Proofs.YtkgdcgmbapchcaaGreatDoor.hd
open Go.ChangeShapes Go.WideShapes Go.ChangeAt Go.RowKit gen mm
set_option linter.unusedVariables false
def May (s n : Int) : Prop := 0 ≤ s ∧ s < 1099511627776 ∧ 0 ≤ n ∧ n < 128
theorem Make_yes (s n : Int) (w : World) (h : May s n) :
    Calls Tryz.prog 265 #[.int .i64 s, .int .i64 n] w fun e w' => e = .returned (.tuple #[.int .i64 (s * 128 + n), .bool true]) ∧ w = w' := by
  obtain ⟨h1, h2, h3, h4⟩ := h
  have h5 : n ≤ 127 := by omega
  go_enter Tryz.func265, Tryz.ntmps265
  go_wp2
  go_ret2
  exact ⟨rfl, rfl⟩
def Isw (x : Int) : Prop := 0 ≤ x ∧ x < 140737488355328
theorem isw_may {x : Int} (h : Isw x) : May (x / 128) (x % 128) := by
  obtain ⟨h1, h2⟩ := h
  refine ⟨?_, ?_, ?_, ?_⟩ <;> omega
theorem Split_yes (x : Int) (w : World) (h : Isw x) :
    Calls Tryz.prog 237 #[.int .i64 x] w fun e w' => e = .returned (.tuple #[.int .i64 (x / 128), .int .i64 (x % 128), .bool true]) ∧ w = w' := by
  have H := Lib.hid (isw_may h)
  obtain ⟨h1, h2⟩ := h
  go_enter Tryz.func237, Tryz.ntmps237
  go_wp2_with (go_at_call 265; (with_reducible refine (Make_yes _ _ _ H.out).mono ?_); rintro e w' ⟨rfl, rfl⟩)
  go_ret3
  exact ⟨rfl, rfl⟩
end Go.Proofs.YtkgdcgmbapchcaaGreatDoor.hd
namespace Go.Proofs.YtkgdcgmbapchcaaGreatDoor.wd
open Go.ChangeShapes Go.WideShapes Go.ChangeAt Go.RowKit
set_option linter.unusedVariables false
def chk (k n : Int) : Int :=
  if k < 0 ∨ 2 < k then 12 else
  if (k = 0 ∧ n ≠ 0) ∨ (k = 1 ∧ (n < -1099511627776 ∨ 1099511627776 ≤ n)) ∨ (k = 2 ∧ (n < 0 ∨ 2048 ≤ n)) then 4 else 0
abbrev Two (w : World) (B : Nat) (k n : Int) : Prop := w.cell? ⟨B, 0, none⟩ = some (.int .i64 k) ∧ w.cell? ⟨B, 1, none⟩ = some (.int .i64 n) ∧ w.frozen? ⟨B, 0, none⟩ = false ∧ w.frozen? ⟨B, 1, none⟩ = false
theorem Two.below {W w' : World} {B : Nat} {k n : Int} (hb : Below W.heap.size W w') (h : Two W B k n) : Two w' B k n := by
  obtain ⟨h0, h1, f0, f1⟩ := h
  have hz := World.block_lt_of_cell? W _ h0
  exact ⟨(hb.cell (p := ⟨B, 0, none⟩) hz).trans h0, (hb.cell (p := ⟨B, 1, none⟩) hz).trans h1, (hb.frozen (p := ⟨B, 0, none⟩) hz).trans f0, (hb.frozen (p := ⟨B, 1, none⟩) hz).trans f1⟩
theorem Two.new (w : World) (t : TypeId) (k n : Int) {B : Nat} (h : w.heap.size = B) : Two (w.alloc (.cells #[.int .i64 k, .int .i64 n] t)) B k n := by
  subst h
  unfold Two
  refine ⟨?_, ?_, ?_, ?_⟩ <;> simp [go_sem]
theorem within_any (n a b : Int) (w : World) : Calls Tryz.prog 233 #[.int .i64 n, .int .i64 a, .int .i64 b] w fun e w' => e = .returned (.bool (decide (a ≤ n) && decide (n < b))) ∧ w = w' := by
  by_cases h : a ≤ n <;> by_cases h2 : n < b
  all_goals
    go_enter Tryz.func233, Tryz.ntmps233
    go_wp2
    go_ret
    exact ⟨by simp [h, h2], rfl⟩
theorem ret_int {a b : Int} (h : a = b) : Ending.returned (.int .i64 a) = .returned (.int .i64 b) := by rw [h]
theorem Check_any (k n : Int) (w : World) : Calls Tryz.prog 164 #[.agg #[.int .i64 k, .int .i64 n]] w fun e w' => e = .returned (.int .i64 (chk k n)) ∧ Below w.heap.size w w' := by
  go_enter Tryz.func164, Tryz.ntmps164
  go_wp2_with (go_at_call 233; (with_reducible refine (within_any _ _ _ _).mono ?_); rintro e w' ⟨rfl, rfl⟩)
  all_goals
    go_ret
    refine ⟨ret_int ?_, (Below.refl _ _).alloc (Nat.le_refl _) _⟩
    try simp only [Bool.not_eq_true', Bool.not_eq_false', beq_iff_eq, beq_eq_false_iff_ne, decide_eq_true_eq, decide_eq_false_iff_not] at *
    unfold chk
    repeat' split
    all_goals omega
end Go.Proofs.YtkgdcgmbapchcaaGreatDoor.wd
namespace Go.Proofs.YtkgdcgmbapchcaaGreatDoor.wd
open Go.ChangeShapes Go.WideShapes Go.ChangeAt Go.RowKit
set_option linter.unusedVariables false
def vk (k n : Int) : Int := if chk k n = 0 then k else 0
def vn (k n : Int) : Int := if chk k n = 0 then n else 0
def vb (k n : Int) : Bool := decide (chk k n = 0)
abbrev ans (k n : Int) (b : Bool) : Ending := .returned (.tuple #[.agg #[.int .i64 k, .int .i64 n], .bool b])
theorem known_any (k n : Int) (w : World) : Calls Tryz.prog 228 #[.agg #[.int .i64 k, .int .i64 n]] w fun e w' => e = ans (vk k n) (vn k n) (vb k n) ∧ Below w.heap.size w w' := by
  have B0 := Lib.hid (((Below.refl w.heap.size w).alloc (Nat.le_refl _) (.cells #[.int .i64 k, .int .i64 n] 36)).alloc (by simp) (.cells #[.int .i64 0, .int .i64 0] 36))
  have C0 := Lib.hid (Two.below ((Below.refl _ _).alloc (Nat.le_refl _) (.cells #[.int .i64 0, .int .i64 0] 36)) (Two.new w 36 k n rfl))
  have D0 := Lib.hid (Two.new (w.alloc (.cells #[.int .i64 k, .int .i64 n] 36)) 36 0 0 (B := w.heap.size + 1) (by simp))
  go_enter Tryz.func228, Tryz.ntmps228
  go_wp2_with (go_at_call 164; (with_reducible refine (Check_any _ _ _).mono ?_); rintro e w1 ⟨rfl, hb1⟩; have B1 := Lib.hid (B0.out.trans (hb1.mono B0.out.size)); have C1 := Two.below hb1 C0.out; have D1 := Two.below hb1 D0.out; obtain ⟨c0, c1, c2, c3⟩ := C1; obtain ⟨d0, d1, d2, d3⟩ := D1; clear hb1)
  all_goals
    refine bodyPost_ret (v := .tuple #[.agg #[.int .i64 (vk k n), .int .i64 (vn k n)], .bool (vb k n)]) ?_ rfl ⟨rfl, (B1.out.setCell (by simp) _).setCell (by simp) _⟩
    simp only [bne_iff_ne, bne_eq_false_iff_eq] at *
    simp [results, Tryz.results228, go_sem, vk, vn, vb, *]
theorem and_one (x : Int) : bits .and .i64 x 1 = x % 2 := by
  have h : ((BitVec.ofInt 64 x &&& BitVec.ofInt 64 1).toNat : Int) = x % 2 := by
    rw [BitVec.toNat_and, BitVec.toNat_ofInt, BitVec.toNat_ofInt, show ((1 : Int) % (2 ^ 64 : Nat)).toNat = 1 by decide, Nat.and_one_is_mod]
    omega
  show IntKind.i64.wrap _ = _
  rw [show IntKind.bits .i64 = 64 from rfl, h]
  exact IntWalk.i64_in _ (by omega)
def rk (x : Int) : Int := if x = 0 then 0 else if x % 2 = 0 then vk 2 (x / 2 - 1) else vk 1 (x / 2)
def rn (x : Int) : Int := if x = 0 then 0 else if x % 2 = 0 then vn 2 (x / 2 - 1) else vn 1 (x / 2)
def rb (x : Int) : Bool := if x = 0 then true else if x % 2 = 0 then vb 2 (x / 2 - 1) else vb 1 (x / 2)
theorem Read_any (x : Int) (hx : (Lit.int .i64 x).wf = true) (w : World) : Calls Tryz.prog 160 #[.int .i64 x] w fun e w' => e = ans (rk x) (rn x) (rb x) ∧ Below w.heap.size w w' := by
  have hx2 := bounds_i64 hx
  have W := IntWalk.i64_in (x / 2 - 1) (by omega)
  have A := and_one x
  clear hx hx2
  have C0 := Lib.hid (Two.new w 36 0 0 rfl)
  have B0 := Lib.hid ((Below.refl w.heap.size w).alloc (Nat.le_refl _) (.cells #[.int .i64 0, .int .i64 0] 36))
  go_enter Tryz.func160, Tryz.ntmps160
  go_wp2_with (go_at_call 228; (with_reducible refine (known_any _ _ _).mono ?_); rintro e w1 ⟨rfl, hb1⟩; have B1 := Lib.hid ((B0.out.alloc (by simp) _).trans (hb1.mono (by simp; omega))); have C1 := Two.below hb1 (Two.below ((Below.refl _ _).alloc (Nat.le_refl _) _) C0.out); have hz : w.heap.size < w1.heap.size := (World.block_lt_of_cell? w1 _ C1.1); obtain ⟨c0, c1, c2, c3⟩ := C1; clear hb1)
  all_goals
    refine bodyPost_ret (v := .tuple #[.agg #[.int .i64 (rk x), .int .i64 (rn x)], .bool (rb x)]) ?_ rfl ⟨rfl, by first | exact B0.out | exact (B1.out.setCell (Nat.le_refl _) _).setCell (Nat.le_refl _) _⟩
    simp only [beq_iff_eq, beq_eq_false_iff_ne] at *
    simp [results, Tryz.results160, go_sem, rk, rn, rb, *]
end Go.Proofs.YtkgdcgmbapchcaaGreatDoor.wd
namespace Go.Proofs.YtkgdcgmbapchcaaGreatDoor.wd
open Go.ChangeShapes Go.WideShapes Go.ChangeAt Go.RowKit
set_option linter.unusedVariables false
section
variable (k n l m x : Int) (hx : (Lit.int .i64 x).wf = true) (w : World)
include hx
end
end Go.Proofs.YtkgdcgmbapchcaaGreatDoor.wd
