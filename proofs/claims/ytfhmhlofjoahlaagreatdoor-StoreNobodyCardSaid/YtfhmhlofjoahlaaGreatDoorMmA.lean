/- Words in memory: an object whose one field is a row of numbers known whole; what layer 4's small functions do with it. -/
import Derived.Test.YtfhmhlofjoahlaaGreatDoorRows
import Derived.WalkKit
import Derived.ProofKit
import Derived.OpenShut
import Derived.Outline
import Derived.Lib.Hide
import Derived.IntWalk
import Derived.Deep.AppendLies
import Derived.Maps.Range
import Derived.Deep.Draws
import Derived.Laws.Cover3
namespace Go.Proofs.YtfhmhlofjoahlaaGreatDoor.mm
open Go.ChangeShapes Go.WideShapes Go.ChangeAt Go.RowKit
set_option linter.unusedVariables false

def ints (xs : List Int) : List Value := xs.map (Value.int .i64)
theorem ints_length (xs : List Int) : (ints xs).length = xs.length := by simp [ints]
theorem ints_one (xs : List Int) : ∀ v ∈ ints xs, v.oneCell' = true := by
  intro v hv; obtain ⟨_, _, rfl⟩ := List.mem_map.1 hv; rfl
/-- The words xs lie in row r, whole; the object at g has it. -/
def MemAt (w : World) (g r : Nat) (xs : List Int) : Prop :=
  w.heap[g]? = some (.cells #[.slice (some ⟨r, 0, none⟩) xs.length xs.length] 119 (0, 0)) ∧ w.heap[r]? = some (.cells (ints xs).toArray 2 (0, 0)) ∧ xs.length ≤ 2048
theorem lt_of_heap {w : World} {g : Nat} {o : Obj} (h : w.heap[g]? = some o) : g < w.heap.size := (Array.getElem?_eq_some_iff.1 h).1
theorem MemAt.ne {w : World} {g r : Nat} {xs : List Int} (h : MemAt w g r xs) : g ≠ r := by
  rintro rfl
  have := h.1.symm.trans h.2.1
  simp at this
theorem MemAt.lt {w : World} {g r : Nat} {xs : List Int} (h : MemAt w g r xs) : g < w.heap.size ∧ r < w.heap.size := ⟨lt_of_heap h.1, lt_of_heap h.2.1⟩
theorem MemAt.kept {w w' : World} {g r : Nat} {xs : List Int} {row : Option Nat} (h : MemAt w g r xs) (hg : w.grownBy w' row) (h1 : some g ≠ row) (h2 : some r ≠ row) : MemAt w' g r xs :=
  ⟨(hg.block g h.lt.1 h1).trans h.1, (hg.block r h.lt.2 h2).trans h.2.1, h.2.2⟩
theorem MemAt.drewN {w : World} {g r : Nat} {xs : List Int} (h : MemAt w g r xs) (n : Nat) : MemAt (w.drewN n) g r xs := h
theorem MemAt.field {w : World} {g r : Nat} {xs : List Int} (h : MemAt w g r xs) : w.cell? ⟨g, 0, none⟩ = some (.slice (some ⟨r, 0, none⟩) xs.length xs.length) := by
  rw [cell_of_row w g 0 _ _ _ h.1]; rfl
theorem MemAt.word {w : World} {g r : Nat} {xs : List Int} (h : MemAt w g r xs) {k : Nat} (hk : k < xs.length) : w.cell? ⟨r, k, none⟩ = some (.int .i64 (xs.getD k 0)) := by
  rw [cell_of_row w r k _ _ _ h.2.1]
  simp [ints, hk]
theorem MemAt.free {w : World} {g r : Nat} {xs : List Int} (h : MemAt w g r xs) (k : Nat) : w.frozen? ⟨r, k, none⟩ = false := frozen_of_row w r k _ _ h.2.1
/-- One word written. -/
theorem MemAt.set {w : World} {g r : Nat} {xs : List Int} (h : MemAt w g r xs) (k : Nat) (v : Int) : MemAt (w.setCell ⟨r, k, none⟩ (.int .i64 v)) g r (xs.set k v) ∧ w.grownBy (w.setCell ⟨r, k, none⟩ (.int .i64 v)) (some r) := by
  refine ⟨⟨?_, ?_, by simpa using h.2.2⟩, ⟨rfl, rfl, rfl, by simp, fun i _ hi => heap_setCell_other w ⟨r, k, none⟩ i _ (fun e => hi (by simp [e]))⟩⟩
  · rw [heap_setCell_other w ⟨r, k, none⟩ g _ h.ne, h.1]; simp
  · rw [heap_setCell_same w r k _ _ _ h.2.1]
    simp [ints, List.map_set]

/-! ### The small functions -/
theorem made_yes (g : Nat) (A : Addr) (n c : Nat) (w : World) (h : w.cell? ⟨g, 0, none⟩ = some (.slice (some A) n c)) :
    Calls Tryz.prog 106 #[.pointer (some ⟨g, 0, none⟩)] w fun e w' => e = .returned (.bool true) ∧ w = w' := by
  go_enter Tryz.func106, Tryz.ntmps106
  go_wp2
  go_ret
  exact ⟨rfl, rfl⟩
theorem made_nil (w : World) : Calls Tryz.prog 106 #[.pointer none] w fun e w' => e = .returned (.bool false) ∧ w = w' := by
  go_enter Tryz.func106, Tryz.ntmps106
  go_wp2
  go_ret
  exact ⟨rfl, rfl⟩
theorem made_no (g : Nat) (w : World) (h : w.cell? ⟨g, 0, none⟩ = some (.slice none 0 0)) :
    Calls Tryz.prog 106 #[.pointer (some ⟨g, 0, none⟩)] w fun e w' => e = .returned (.bool false) ∧ w = w' := by
  go_enter Tryz.func106, Tryz.ntmps106
  go_wp2
  go_ret
  exact ⟨rfl, rfl⟩
theorem Len_yes {g r : Nat} {xs : List Int} {w : World} (h : MemAt w g r xs) :
    Calls Tryz.prog 108 #[.pointer (some ⟨g, 0, none⟩)] w fun e w' => e = .returned (.int .i64 xs.length) ∧ w = w' := by
  have f := h.field
  generalize xs.length = n at f
  clear h
  go_enter Tryz.func108, Tryz.ntmps108
  go_wp2_with (go_at_call 106; (with_reducible refine (made_yes _ _ _ _ _ f).mono ?_); rintro e w' ⟨rfl, rfl⟩)
  go_ret
  exact ⟨rfl, rfl⟩
/-- A pointer to nothing that New made: nil, or an object with no row. -/
def Nobody (w : World) (p : Option Addr) : Prop := p = none ∨ ∃ g, p = some ⟨g, 0, none⟩ ∧ w.cell? ⟨g, 0, none⟩ = some (.slice none 0 0)
theorem made_nobody {p : Option Addr} {w : World} (h : Nobody w p) : Calls Tryz.prog 106 #[.pointer p] w fun e w' => e = .returned (.bool false) ∧ w = w' := by
  rcases h with rfl | ⟨g, rfl, h⟩
  · exact made_nil w
  · exact made_no g w h
theorem Len_nobody {p : Option Addr} {w : World} (h : Nobody w p) : Calls Tryz.prog 108 #[.pointer p] w fun e w' => e = .returned (.int .i64 0) ∧ w = w' := by
  have H := Lib.hid h
  clear h
  go_enter Tryz.func108, Tryz.ntmps108
  go_wp2_with (go_at_call 106; (with_reducible refine (made_nobody H.out).mono ?_); rintro e w' ⟨rfl, rfl⟩)
  go_ret
  exact ⟨rfl, rfl⟩
abbrev none2 : Ending := .returned (.tuple #[.slice none 0 0, .bool false])
theorem part_nobody {p : Option Addr} {w : World} (h : Nobody w p) (a n : Int) : Calls Tryz.prog 83 #[.pointer p, .int .i64 a, .int .i64 n] w fun e w' => e = none2 ∧ w = w' := by
  have H := Lib.hid h
  clear h
  go_enter Tryz.func83, Tryz.ntmps83
  go_wp2_with (go_at_call 106; (with_reducible refine (made_nobody H.out).mono ?_); rintro e w' ⟨rfl, rfl⟩)
  go_ret2
  exact ⟨rfl, rfl⟩
theorem part_no {g r : Nat} {xs : List Int} {w : World} (h : MemAt w g r xs) (a n : Int) (hn : n ≤ 9223372036854775807) (hno : ¬ (0 ≤ a ∧ 0 ≤ n ∧ a + n ≤ xs.length)) :
    Calls Tryz.prog 83 #[.pointer (some ⟨g, 0, none⟩), .int .i64 a, .int .i64 n] w fun e w' => e = none2 ∧ w = w' := by
  have f := h.field
  have hl := h.2.2
  generalize xs.length = m at f hl hno
  clear h
  by_cases h1 : n < 0
  · go_enter Tryz.func83, Tryz.ntmps83
    go_wp2_with (go_at_call 106; (with_reducible refine (made_yes _ _ _ _ _ f).mono ?_); rintro e w' ⟨rfl, rfl⟩)
    go_ret2
    exact ⟨rfl, rfl⟩
  by_cases h2 : a < 0
  · go_enter Tryz.func83, Tryz.ntmps83
    go_wp2_with (go_at_call 106; (with_reducible refine (made_yes _ _ _ _ _ f).mono ?_); rintro e w' ⟨rfl, rfl⟩)
    go_ret2
    exact ⟨rfl, rfl⟩
  have h3 : (m : Int) - n < a := by omega
  go_enter Tryz.func83, Tryz.ntmps83
  go_wp2_with (go_at_call 106; (with_reducible refine (made_yes _ _ _ _ _ f).mono ?_); rintro e w' ⟨rfl, rfl⟩)
  go_ret2
  exact ⟨rfl, rfl⟩
/-- A part: where it lies matters only if it has a word. -/
def PartAns (r a n : Nat) (e : Ending) : Prop := ∃ A : Addr, e = .returned (.tuple #[.slice (some A) n n, .bool true]) ∧ (0 < n → A = ⟨r, a, none⟩)
theorem part_yes {g r : Nat} {xs : List Int} {w : World} (h : MemAt w g r xs) (a n : Nat) (hyes : a + n ≤ xs.length) :
    Calls Tryz.prog 83 #[.pointer (some ⟨g, 0, none⟩), .int .i64 a, .int .i64 n] w fun e w' => PartAns r a n e ∧ w = w' := by
  have f := h.field
  have hl := h.2.2
  generalize xs.length = m at f hl hyes
  clear h
  have h3 : ¬ ((m : Int) - n < a) := by omega
  go_enter Tryz.func83, Tryz.ntmps83
  go_wp2_with (go_at_call 106; (with_reducible refine (made_yes _ _ _ _ _ f).mono ?_); rintro e w' ⟨rfl, rfl⟩)
  · rename_i hz
    obtain rfl : n = 0 := by omega
    go_ret2
    exact ⟨⟨_, rfl, fun h => absurd h (by omega)⟩, rfl⟩
  · go_ret2
    exact ⟨⟨_, rfl, fun _ => rfl⟩, rfl⟩
theorem part_one {g r : Nat} {xs : List Int} {w : World} (h : MemAt w g r xs) (a : Nat) (hyes : a < xs.length) :
    Calls Tryz.prog 83 #[.pointer (some ⟨g, 0, none⟩), .int .i64 a, .int .i64 1] w fun e w' => e = .returned (.tuple #[.slice (some ⟨r, a, none⟩) 1 1, .bool true]) ∧ w = w' :=
  (part_yes h a 1 hyes).mono fun _ _ ⟨⟨A, he, hA⟩, hw⟩ => ⟨by rw [he, hA (by omega)], hw⟩
theorem Load_yes {g r : Nat} {xs : List Int} {w : World} (h : MemAt w g r xs) (a : Nat) (hyes : a < xs.length) :
    Calls Tryz.prog 53 #[.pointer (some ⟨g, 0, none⟩), .int .i64 a] w fun e w' => e = .returned (.tuple #[.int .i64 (xs.getD a 0), .bool true]) ∧ w = w' := by
  have f := h.word hyes
  have H := Lib.hid h
  have HY := Lib.hid hyes
  generalize xs.getD a 0 = x at f
  clear h hyes
  go_enter Tryz.func53, Tryz.ntmps53
  go_wp2_with (go_at_call 83; (with_reducible refine (part_one H.out a HY.out).mono ?_); rintro e w' ⟨rfl, rfl⟩)
  go_ret2
  exact ⟨rfl, rfl⟩
theorem Load_no {g r : Nat} {xs : List Int} {w : World} (h : MemAt w g r xs) (a : Int) (hno : ¬ (0 ≤ a ∧ a < xs.length)) :
    Calls Tryz.prog 53 #[.pointer (some ⟨g, 0, none⟩), .int .i64 a] w fun e w' => e = .returned (.tuple #[.int .i64 0, .bool false]) ∧ w = w' := by
  have H := Lib.hid (part_no h a 1 (by omega) (by omega))
  clear h hno
  go_enter Tryz.func53, Tryz.ntmps53
  go_wp2_with (go_at_call 83; (with_reducible refine H.out.mono ?_); rintro e w' ⟨rfl, rfl⟩)
  go_ret2
  exact ⟨rfl, rfl⟩
theorem Load_nobody {p : Option Addr} {w : World} (h : Nobody w p) (a : Int) :
    Calls Tryz.prog 53 #[.pointer p, .int .i64 a] w fun e w' => e = .returned (.tuple #[.int .i64 0, .bool false]) ∧ w = w' := by
  have H := Lib.hid (part_nobody h a 1)
  clear h
  go_enter Tryz.func53, Tryz.ntmps53
  go_wp2_with (go_at_call 83; (with_reducible refine H.out.mono ?_); rintro e w' ⟨rfl, rfl⟩)
  go_ret2
  exact ⟨rfl, rfl⟩
end Go.Proofs.YtfhmhlofjoahlaaGreatDoor.mm
