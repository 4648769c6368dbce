/- The program's cache in memory; New, made, has, Page, Owner. -/
import Derived.Test.YtfhmhlofjoahlaaGreatDoorCaP
import Derived.Test.YtfhmhlofjoahlaaGreatDoorBmQ
import Derived.Maps.OwnOps
import Derived.Maps.OwnSet
import Derived.Maps.RangeWalk
import Derived.OwnWalk
namespace Go.Proofs.YtfhmhlofjoahlaaGreatDoor.ca
open Go.ChangeShapes Go.WideShapes Go.ChangeAt Go.RowKit Go.Maps gen calls cls
set_option linter.unusedVariables false
set_option maxHeartbeats 2000000
abbrev Own (w : World) (mb N : Nat) (D : DataW Unit) : Prop := w.ownsMap Tryz.prog 69 (plainElem Tryz.prog 3) mb N D
theorem zeroE (w : World) : (zeroValue 3).run Tryz.prog w = .ok (.int .i64 0) w := by kernel_rfl
/-- A cache at c, of n threads, its map in block mb, tells the list m. -/
structure At (w : World) (c mb n : Nat) (m : List Ow) (D : DataW Unit) : Prop where
  box : w.heap[c]? = some (.cells #[.int .i64 n, .map (some mb)] 66 (0, 0))
  own : Own w mb m.length D
  tells : Tells D m
  good : Good n m
  few : n ≤ 9
section
variable {w w' : World} {c mb n : Nat} {m : List Ow} {D : DataW Unit}
theorem At.c0 (C : At w c mb n m D) : w.cell? ⟨c, 0, none⟩ = some (.int .i64 n) := by rw [cell_of_row w c 0 _ _ _ C.box]; rfl
theorem At.c1 (C : At w c mb n m D) : w.cell? ⟨c, 1, none⟩ = some (.map (some mb)) := by rw [cell_of_row w c 1 _ _ _ C.box]; rfl
theorem At.lt (C : At w c mb n m D) : c < w.heap.size ∧ mb < w.heap.size := ⟨(Array.getElem?_eq_some_iff.1 C.box).1, C.own.lt⟩
theorem At.ne (C : At w c mb n m D) : mb ≠ c := fun e => by
  obtain ⟨es, clock, hb, _⟩ := C.own
  rw [e, C.box] at hb
  cases hb
theorem At.kept {row : Option Nat} (C : At w c mb n m D) (hg : w.grownBy w' row) (h1 : some c ≠ row) (h2 : some mb ≠ row) : At w' c mb n m D :=
  ⟨(hg.block c C.lt.1 h1).trans C.box, C.own.kept hg h2, C.tells, C.good, C.few⟩
theorem At.new (C : At w c mb n m D) (hg : w.grownBy w' none) : At w' c mb n m D := C.kept hg (by simp) (by simp)
theorem At.tidy (C : At w c mb n m D) : Maps.Tidy D := C.own.tidy klaw
/-- The map's bound is its size. -/
theorem own_tight {N : Nat} (h : Own w mb N D) : Own w mb (Maps.size D) D := by
  obtain ⟨es, clock, hb, F, hs, hD⟩ := h
  refine ⟨es, clock, hb, F, ?_, hD⟩
  rw [hD, Maps.size_eq, length_sorted]
  simp
theorem made_yes (C : At w c mb n m D) :
    Calls Tryz.prog 45 #[.pointer (some ⟨c, 0, none⟩)] w fun e w' => e = .returned (.agg #[.int .i64 n, .map (some mb)]) ∧ w.grownBy w' none := by
  have c0 := fun o => (C.new (World.grownBy_alloc w o none)).c0
  have c1 := fun o => (C.new (World.grownBy_alloc w o none)).c1
  clear C
  go_enter Tryz.func45, Tryz.ntmps45
  go_wp2
  refine bodyPost_ret (v := .agg #[.int .i64 n, .map (some mb)]) ?_ rfl ⟨rfl, World.grownBy_alloc _ _ _⟩
  simp [results, Tryz.results45, go_sem]
theorem New_any (z : Int) (n : Nat) (hn : bm.near z 0 9 = n) (h9 : n ≤ 9) (w : World) :
    Calls Tryz.prog 41 #[.int .i64 z] w fun e w' => ∃ c mb, e = .returned (.pointer (some ⟨c, 0, none⟩)) ∧ At w' c mb n [] (.map []) ∧ (w.heap.size ≤ c ∧ w.heap.size ≤ mb) ∧ w.grownBy w' none := by
  have hmm := @run_makeMap Tryz.prog
  have CL := Lib.hid (bm.Clamp_any z 0 9)
  have HN := Lib.hid hn
  clear hn
  go_enter Tryz.func41, Tryz.ntmps41
  go_wp2_with (first
    | (go_at_call 42; (with_reducible refine (CL.out _).mono ?_); rintro e w' ⟨rfl, rfl⟩; rw [HN.out]))
  go_ret
  have h0 := World.ownsMap_made (H := Unit) w Tryz.prog 69 (plainElem Tryz.prog 3)
  refine ⟨w.heap.size + 1, w.heap.size, rfl, ⟨?_, h0.alloc _, .nil, .nil n, h9⟩, ⟨by omega, by omega⟩, (World.grownBy_alloc _ _ none).trans (World.grownBy_alloc _ _ none)⟩
  have e := heap_alloc_new (w.alloc (.map #[] 0)) (.cells #[.int .i64 n, .map (some w.heap.size)] 66)
  simpa using e
end
end Go.Proofs.YtfhmhlofjoahlaaGreatDoor.ca
