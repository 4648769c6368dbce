/- Texts that this claim stands on. -/
import Derived.Test.YtkgdcgmbapchcaaGreatDoorRows
import Derived.WalkKit
import Derived.ProofKit
import Derived.OpenShut
import Derived.Outline
import Derived.Lib.Hide
import Derived.IntWalk
import Derived.Laws.Bits64b
import Derived.Laws.BitsAllLaws
import Derived.Laws.Shifts
import Derived.Laws.ShiftsVarLaws
import Derived.Laws.Cover3
import Derived.Deep.QuietTactic
import Derived.BigQuiet
import Derived.BigRegion
import Derived.RegionTactic
import Derived.Deep.Draws
import Derived.Maps.Range
import Derived.OwnWalk
import Derived.Maps.AppendAt
import Derived.Laws.OwnMore
import Derived.Laws.AppendOwn
import Derived.Lib.SliceRun
import Derived.ChangeKeysEq
import Derived.Deep.MidRow
import Derived.Test.YtkgdcgmbapchcaaGreatDoorQBmY
namespace Go.Proofs.YtkgdcgmbapchcaaGreatDoor.bm
open Go.ChangeShapes Go.WideShapes Go.ChangeAt Go.RowKit
set_option linter.unusedVariables false
def vals (ws : List Nat) : List Value := ws.map fun x : Nat => .int .u64 x
def SetAt (w : World) (g : Nat) (b : Bool) (n : Nat) (ws : List Nat) : Prop :=
  w.heap[g]? = some (.cells (.bool b :: .int .i64 n :: vals ws).toArray 230 (0, 0)) ∧ Fine n ws
theorem lt_of_heap {w : World} {g : Nat} {o : Obj} (h : w.heap[g]? = some o) : g < w.heap.size := (Array.getElem?_eq_some_iff.1 h).1
section
variable {w w' : World} {g n : Nat} {b : Bool} {ws : List Nat}
theorem SetAt.lt (h : SetAt w g b n ws) : g < w.heap.size := lt_of_heap h.1
theorem SetAt.kept {row : Option Nat} (h : SetAt w g b n ws) (hg : w.grownBy w' row) (h1 : some g ≠ row) : SetAt w' g b n ws := ⟨(hg.block g h.lt h1).trans h.1, h.2⟩
theorem SetAt.drewN (h : SetAt w g b n ws) (k : Nat) : SetAt (w.drewN k) g b n ws := h
theorem SetAt.size (h : SetAt w g b n ws) : w.cell? ⟨g, 1, none⟩ = some (.int .i64 n) := by rw [cell_of_row w g 1 _ _ _ h.1]; rfl
theorem SetAt.word (h : SetAt w g b n ws) {k : Nat} (hk : k < 32) : w.cell? ⟨g, 2 + k, none⟩ = some (.int .u64 (ws.getD k 0 : Nat)) := by
  have hl := h.2.1
  rw [cell_of_row w g (2 + k) _ _ _ h.1, Nat.add_comm]
  simp [vals, show k < ws.length by omega]
theorem SetAt.free (h : SetAt w g b n ws) (k : Nat) : w.frozen? ⟨g, k, none⟩ = false := frozen_of_row w g k _ _ h.1
theorem SetAt.lt_word (h : SetAt w g b n ws) (k : Nat) : ws.getD k 0 < 18446744073709551616 := h.2.2.1 k
theorem SetAt.set (h : SetAt w g b n ws) (k v : Nat) (hf : Fine n (ws.set k v)) : SetAt (w.setCell ⟨g, 2 + k, none⟩ (.int .u64 v)) g b n (ws.set k v) ∧ w.grownBy (w.setCell ⟨g, 2 + k, none⟩ (.int .u64 v)) (some g) := by
  refine ⟨⟨?_, hf⟩, ⟨rfl, rfl, rfl, by simp, fun i _ hi => heap_setCell_other w ⟨g, 2 + k, none⟩ i _ (fun e => hi (by simp [e]))⟩⟩
  rw [heap_setCell_same w g (2 + k) _ _ _ h.1, Nat.add_comm 2 k]
  simp [vals, List.map_set]
end
abbrev none3 : Ending := .returned (.tuple #[.int .i64 0, .int .u64 0, .bool false])
theorem place_nil (i : Int) (w : World) : Calls Tryz.prog 248 #[.pointer none, .int .i64 i] w fun e w' => e = none3 ∧ w' = w := by
  go_enter Tryz.func248, Tryz.ntmps248
  go_wp2
  go_ret3
  exact ⟨rfl, rfl⟩
theorem place_no {w : World} {g n : Nat} {b : Bool} {ws : List Nat} (h : SetAt w g b n ws) (i : Int) (hi : ¬ (0 ≤ i ∧ i < n)) : Calls Tryz.prog 248 #[.pointer (some ⟨g, 0, none⟩), .int .i64 i] w fun e w' => e = none3 ∧ w' = w := by
  have c1 := h.size
  clear h
  by_cases h0 : i < 0
  · clear hi
    go_enter Tryz.func248, Tryz.ntmps248
    go_wp2
    go_ret3
    exact ⟨rfl, rfl⟩
  have h1 : (n : Int) ≤ i := by omega
  go_enter Tryz.func248, Tryz.ntmps248
  go_wp2
  go_ret3
  exact ⟨rfl, rfl⟩
theorem wrap_pow (i : Nat) : IntKind.u64.wrap ((2 : Int) ^ (i % 64)) = ((2 ^ (i % 64) : Nat) : Int) := by
  have := pow_lt i
  have e : ((2 : Int) ^ (i % 64)) = ((2 ^ (i % 64) : Nat) : Int) := by simp
  rw [e, IntKind.wrap_u64]
  generalize 2 ^ (i % 64) = p at this
  omega
theorem place_yes {w : World} {g n : Nat} {b : Bool} {ws : List Nat} (h : SetAt w g b n ws) (i q p : Nat) (hi : i < n) (hq : i / 64 = q) (hp : 2 ^ (i % 64) = p) : Calls Tryz.prog 248 #[.pointer (some ⟨g, 0, none⟩), .int .i64 i] w
    fun e w' => e = .returned (.tuple #[.int .i64 q, .int .u64 p, .bool true]) ∧ ∃ k, w' = w.drewN k := by
  have c1 := h.size
  have hn := h.2.2.2.2
  clear h
  have h1 : (i : Int) < n := by omega
  have h2 : ¬ ((n : Int) ≤ i) := by omega
  have h3 : (0 : Int) ≤ ((i % 64 : Nat) : Int) := by omega
  have q1 : ((i : Int)).tdiv 64 = ((i / 64 : Nat) : Int) := by rw [Int.tdiv_eq_ediv_of_nonneg (by omega)]; omega
  have q2 : ((i : Int)).tmod 64 = ((i % 64 : Nat) : Int) := by rw [Int.tmod_eq_emod_of_nonneg (by omega)]; omega
  have q3 := Lib.hid (wrap_pow i)
  have HQ := Lib.hid hq
  have HP := Lib.hid hp
  clear hq hp
  go_enter Tryz.func248, Tryz.ntmps248
  go_wp2
  go_quiet (fail)
  go_wp2
  go_ret3
  refine ⟨?_, _, rfl⟩
  show Ending.returned (.tuple #[.int .i64 ((i : Int) / 64), .int .u64 (IntKind.u64.wrap (2 ^ (i % 64))), .bool true]) = _
  rw [q3.out, ← HQ.out, ← HP.out]
  rfl
def Tab (w : World) : Prop := 1 < w.heap.size ∧ ∀ j, j < 64 → w.cell? ⟨1, j, none⟩ = some (.int .u8 (Lib.deBruijn64tab.getD j 0 : Nat))
theorem Tab.kept {w w' : World} {row : Option Nat} (h : Tab w) (hg : w.grownBy w' row) (hr : some 1 ≠ row) : Tab w' := ⟨Nat.lt_of_lt_of_le h.1 hg.size, fun j hj => hg.cell (h.2 j hj) hr⟩
theorem Tab.drewN {w : World} (h : Tab w) (k : Nat) : Tab (w.drewN k) := h
theorem tz_walk {x rest lowest prod place k : Nat} {w : World} (h0 : ((x : Int) == 0) = false) (k1 : IntKind.u64.wrap (-(x : Int)) = (rest : Int)) (k2 : bits .and .u64 (x : Int) (rest : Int) = (lowest : Int))
    (k3 : IntKind.u64.wrap ((lowest : Int) * 285870213051353865) = (prod : Int)) (k4 : (prod : Int) / 288230376151711744 = (place : Int)) (hi : place < 64) (hk : k < 64)
    (cell : w.cell? ⟨1, place, none⟩ = some (.int .u8 k)) :
    Calls Tryz.prog 284 #[.int .u64 x] w fun e w' => e = .returned (.int .i64 k) ∧ w' = w := by
  go_enter Tryz.func284, Tryz.ntmps284
  go_wp2_with (simp only [k4])
  go_ret
  exact ⟨rfl, rfl⟩
theorem low_product (a : Nat) : IntKind.u64.wrap ((a : Int) * 285870213051353865) = ((a * 285870213051353865 % 18446744073709551616 : Nat) : Int) := by rw [IntKind.wrap_u64]; omega
theorem high_six (a : Nat) : (a : Int) / 288230376151711744 = ((a / 288230376151711744 : Nat) : Int) := by omega
theorem neg_word (x : Nat) (hx : x < 18446744073709551616) (hx0 : x ≠ 0) : IntKind.u64.wrap (-(x : Int)) = ((18446744073709551616 - x : Nat) : Int) := by rw [IntKind.wrap_u64]; omega
theorem tz_any (x : Nat) (hx : x < 18446744073709551616) (hx0 : x ≠ 0) {w : World} (hT : Tab w) :
    Calls Tryz.prog 284 #[.int .u64 x] w fun e w' => e = .returned (.int .i64 (Lib.ctz 64 x)) ∧ w' = w := by
  obtain ⟨low, hk⟩ := Lib.lowest_bit 64 x hx0 hx
  obtain ⟨hi, hnum⟩ := Lib.deBruijn64_at _ hk
  have cell := hT.2 _ hi
  rw [hnum] at cell
  refine tz_walk (by simp; omega) (neg_word x hx hx0) ((u64_and_nat _ _ hx (by omega)).trans (congrArg Nat.cast low)) (low_product _) (high_six _) hi hk cell
end Go.Proofs.YtkgdcgmbapchcaaGreatDoor.bm
namespace Go.Proofs.YtkgdcgmbapchcaaGreatDoor.bm
open Go.ChangeShapes Go.WideShapes Go.ChangeAt Go.RowKit
set_option linter.unusedVariables false
theorem grown_refl (w : World) (row : Option Nat) : w.grownBy w row := ⟨rfl, rfl, rfl, Nat.le_refl _, fun _ _ _ => rfl⟩
theorem grown_drewN (w : World) (n : Nat) (row : Option Nat) : w.grownBy (w.drewN n) row := ⟨rfl, rfl, rfl, Nat.le_refl _, fun _ _ _ => rfl⟩
def Drew (w w' : World) : Prop := ∃ k, w' = w.drewN k
section
variable {w : World} {g n : Nat} {b : Bool} {ws : List Nat}
theorem word_look (h : SetAt w g b n ws) {i q p : Nat} (hi : i < n) (hq : i / 64 = q) (hp : 2 ^ (i % 64) = p) (hb : bit ws i = true) :
    bits .and .u64 ((ws.getD q 0 : Nat) : Int) (p : Int) = (p : Int) ∧ p ≠ 0 := by
  subst hq hp
  rw [bits_and_u64_nat _ _ (h.lt_word _) (pow_lt i), look_yes _ _ hb]
  exact ⟨rfl, by have := Nat.two_pow_pos (i % 64); omega⟩
theorem word_look_no (h : SetAt w g b n ws) {i q p : Nat} (hi : i < n) (hq : i / 64 = q) (hp : 2 ^ (i % 64) = p) (hb : bit ws i = false) :
    bits .and .u64 ((ws.getD q 0 : Nat) : Int) (p : Int) = 0 := by
  subst hq hp
  rw [bits_and_u64_nat _ _ (h.lt_word _) (pow_lt i), look_no _ _ hb]
  rfl
theorem Has_yes (h : SetAt w g b n ws) (i : Nat) (hi : i < n) (hb : bit ws i = true) : Calls Tryz.prog 200 #[.pointer (some ⟨g, 0, none⟩), .int .i64 i] w fun e w' => e = .returned (.bool true) ∧ Drew w w' := by
  obtain ⟨q, hq⟩ : ∃ q, i / 64 = q := ⟨_, rfl⟩
  obtain ⟨p, hp⟩ : ∃ p, 2 ^ (i % 64) = p := ⟨_, rfl⟩
  have P := Lib.hid (place_yes h i q p hi hq hp)
  have q32 : q < 32 := by have := h.2.2.2.2; omega
  have c := h.word q32
  obtain ⟨e1, e2⟩ := word_look h hi hq hp hb
  have e3 : ((p : Int) == 0) = false := by simpa using e2
  have e4 : ((p : Int) != 0) = true := by simpa using e2
  generalize ws.getD q 0 = x at c e1
  clear h hi hq hp hb
  go_enter Tryz.func200, Tryz.ntmps200
  go_wp2_with (go_at_call 248; (with_reducible refine P.out.mono ?_); rintro e w' ⟨rfl, k, rfl⟩)
  go_ret
  exact ⟨rfl, _, rfl⟩
theorem Has_no (h : SetAt w g b n ws) (i : Nat) (hi : i < n) (hb : bit ws i = false) : Calls Tryz.prog 200 #[.pointer (some ⟨g, 0, none⟩), .int .i64 i] w fun e w' => e = .returned (.bool false) ∧ Drew w w' := by
  obtain ⟨q, hq⟩ : ∃ q, i / 64 = q := ⟨_, rfl⟩
  obtain ⟨p, hp⟩ : ∃ p, 2 ^ (i % 64) = p := ⟨_, rfl⟩
  have P := Lib.hid (place_yes h i q p hi hq hp)
  have q32 : q < 32 := by have := h.2.2.2.2; omega
  have c := h.word q32
  have e1 := word_look_no h hi hq hp hb
  generalize ws.getD q 0 = x at c e1
  clear h hi hq hp hb
  go_enter Tryz.func200, Tryz.ntmps200
  go_wp2_with (go_at_call 248; (with_reducible refine P.out.mono ?_); rintro e w' ⟨rfl, k, rfl⟩)
  go_ret
  exact ⟨rfl, _, rfl⟩
theorem Add_in (h : SetAt w g b n ws) (i : Nat) (hi : i < n) (hb : bit ws i = true) : Calls Tryz.prog 222 #[.pointer (some ⟨g, 0, none⟩), .int .i64 i] w fun e w' => e = .returned (.bool false) ∧ Drew w w' := by
  obtain ⟨q, hq⟩ : ∃ q, i / 64 = q := ⟨_, rfl⟩
  obtain ⟨p, hp⟩ : ∃ p, 2 ^ (i % 64) = p := ⟨_, rfl⟩
  have P := Lib.hid (place_yes h i q p hi hq hp)
  have q32 : q < 32 := by have := h.2.2.2.2; omega
  have c := h.word q32
  obtain ⟨e1, e2⟩ := word_look h hi hq hp hb
  have e3 : ((p : Int) == 0) = false := by simpa using e2
  have e4 : ((p : Int) != 0) = true := by simpa using e2
  generalize ws.getD q 0 = x at c e1
  clear h hi hq hp hb
  go_enter Tryz.func222, Tryz.ntmps222
  go_wp2_with (go_at_call 248; (with_reducible refine P.out.mono ?_); rintro e w' ⟨rfl, k, rfl⟩)
  go_ret
  exact ⟨rfl, _, rfl⟩
theorem Remove_no (h : SetAt w g b n ws) (i : Nat) (hi : i < n) (hb : bit ws i = false) : Calls Tryz.prog 259 #[.pointer (some ⟨g, 0, none⟩), .int .i64 i] w fun e w' => e = .returned (.bool false) ∧ Drew w w' := by
  obtain ⟨q, hq⟩ : ∃ q, i / 64 = q := ⟨_, rfl⟩
  obtain ⟨p, hp⟩ : ∃ p, 2 ^ (i % 64) = p := ⟨_, rfl⟩
  have P := Lib.hid (place_yes h i q p hi hq hp)
  have q32 : q < 32 := by have := h.2.2.2.2; omega
  have c := h.word q32
  have e1 := word_look_no h hi hq hp hb
  generalize ws.getD q 0 = x at c e1
  clear h hi hq hp hb
  go_enter Tryz.func259, Tryz.ntmps259
  go_wp2_with (go_at_call 248; (with_reducible refine P.out.mono ?_); rintro e w' ⟨rfl, k, rfl⟩)
  go_ret
  exact ⟨rfl, _, rfl⟩
theorem Has_out (v : Value) (i : Int) (w : World) (h : Calls Tryz.prog 248 #[v, .int .i64 i] w fun e w' => e = none3 ∧ w' = w) : Calls Tryz.prog 200 #[v, .int .i64 i] w fun e w' => e = .returned (.bool false) ∧ w' = w := by
  have P := Lib.hid h
  clear h
  go_enter Tryz.func200, Tryz.ntmps200
  go_wp2_with (go_at_call 248; (with_reducible refine P.out.mono ?_); rintro e w' ⟨rfl, rfl⟩)
  go_ret
  exact ⟨rfl, rfl⟩
theorem Add_out (v : Value) (i : Int) (w : World) (h : Calls Tryz.prog 248 #[v, .int .i64 i] w fun e w' => e = none3 ∧ w' = w) : Calls Tryz.prog 222 #[v, .int .i64 i] w fun e w' => e = .returned (.bool false) ∧ w' = w := by
  have P := Lib.hid h
  clear h
  go_enter Tryz.func222, Tryz.ntmps222
  go_wp2_with (go_at_call 248; (with_reducible refine P.out.mono ?_); rintro e w' ⟨rfl, rfl⟩)
  go_ret
  exact ⟨rfl, rfl⟩
theorem Remove_out (v : Value) (i : Int) (w : World) (h : Calls Tryz.prog 248 #[v, .int .i64 i] w fun e w' => e = none3 ∧ w' = w) : Calls Tryz.prog 259 #[v, .int .i64 i] w fun e w' => e = .returned (.bool false) ∧ w' = w := by
  have P := Lib.hid h
  clear h
  go_enter Tryz.func259, Tryz.ntmps259
  go_wp2_with (go_at_call 248; (with_reducible refine P.out.mono ?_); rintro e w' ⟨rfl, rfl⟩)
  go_ret
  exact ⟨rfl, rfl⟩
theorem put_word (h : SetAt w g b n ws) {i q p : Nat} (hi : i < n) (hq : i / 64 = q) (hp : 2 ^ (i % 64) = p) :
    ∃ y : Nat, bits .or .u64 ((ws.getD q 0 : Nat) : Int) (p : Int) = (y : Int) ∧ ws.set q y = put ws i := by
  subst hq hp
  exact ⟨_, bits_or_u64_nat _ _ (h.lt_word _) (pow_lt i), rfl⟩
theorem cut_word (h : SetAt w g b n ws) {i q p : Nat} (hi : i < n) (hq : i / 64 = q) (hp : 2 ^ (i % 64) = p) :
    ∃ y : Nat, bits .andNot .u64 ((ws.getD q 0 : Nat) : Int) (p : Int) = (y : Int) ∧ ws.set q y = cut ws i := by
  subst hq hp
  exact ⟨_, u64_andNot_nat _ _ (h.lt_word _) (pow_lt i), rfl⟩
theorem Add_yes (h : SetAt w g b n ws) (i : Nat) (hi : i < n) (hb : bit ws i = false) : Calls Tryz.prog 222 #[.pointer (some ⟨g, 0, none⟩), .int .i64 i] w fun e w' => e = .returned (.bool true) ∧ SetAt w' g b n (put ws i) ∧ w.grownBy w' (some g) := by
  obtain ⟨q, hq⟩ : ∃ q, i / 64 = q := ⟨_, rfl⟩
  obtain ⟨p, hp⟩ : ∃ p, 2 ^ (i % 64) = p := ⟨_, rfl⟩
  have P := Lib.hid (place_yes h i q p hi hq hp)
  have q32 : q < 32 := by have := h.2.2.2.2; omega
  have c := h.word q32
  have e1 := word_look_no h hi hq hp hb
  obtain ⟨y, y1, y2⟩ := put_word h hi hq hp
  have Z := Lib.hid (fun k => ((h.drewN k).set q y (y2 ▸ h.2.put hi)))
  have Y := Lib.hid y2
  have fz := h.free (2 + q)
  generalize ws.getD q 0 = x at c e1 y1
  clear h hi hq hp hb y2
  go_enter Tryz.func222, Tryz.ntmps222
  go_wp2_with (go_at_call 248; (with_reducible refine P.out.mono ?_); rintro e w' ⟨rfl, k, rfl⟩)
  go_region
  go_wp2
  go_ret
  refine ⟨rfl, ?_, ?_⟩
  · have := (Z.out (k + 1)).1
    rw [Y.out] at this
    exact this
  · exact (grown_drewN w (k + 1) _).trans (Z.out (k + 1)).2
theorem Remove_yes (h : SetAt w g b n ws) (i : Nat) (hi : i < n) (hb : bit ws i = true) : Calls Tryz.prog 259 #[.pointer (some ⟨g, 0, none⟩), .int .i64 i] w fun e w' => e = .returned (.bool true) ∧ SetAt w' g b n (cut ws i) ∧ w.grownBy w' (some g) := by
  obtain ⟨q, hq⟩ : ∃ q, i / 64 = q := ⟨_, rfl⟩
  obtain ⟨p, hp⟩ : ∃ p, 2 ^ (i % 64) = p := ⟨_, rfl⟩
  have P := Lib.hid (place_yes h i q p hi hq hp)
  have q32 : q < 32 := by have := h.2.2.2.2; omega
  have c := h.word q32
  obtain ⟨e1, e2⟩ := word_look h hi hq hp hb
  have e3 : ((p : Int) == 0) = false := by simpa using e2
  have e4 : ((p : Int) != 0) = true := by simpa using e2
  obtain ⟨y, y1, y2⟩ := cut_word h hi hq hp
  have Z := Lib.hid (fun k => ((h.drewN k).set q y (y2 ▸ h.2.cut hi)))
  have Y := Lib.hid y2
  have fz := h.free (2 + q)
  generalize ws.getD q 0 = x at c e1 y1
  clear h hi hq hp hb y2
  go_enter Tryz.func259, Tryz.ntmps259
  go_wp2_with (go_at_call 248; (with_reducible refine P.out.mono ?_); rintro e w' ⟨rfl, k, rfl⟩)
  go_region
  go_wp2
  go_ret
  refine ⟨rfl, ?_, ?_⟩
  · have := (Z.out (k + 1)).1
    rw [Y.out] at this
    exact this
  · exact (grown_drewN w (k + 1) _).trans (Z.out (k + 1)).2
end
end Go.Proofs.YtkgdcgmbapchcaaGreatDoor.bm
namespace Go.Proofs.YtkgdcgmbapchcaaGreatDoor.bm
open Go.ChangeShapes Go.WideShapes Go.ChangeAt Go.RowKit
set_option linter.unusedVariables false
section
variable {w : World} {g n : Nat} {b : Bool} {ws : List Nat}
end
end Go.Proofs.YtkgdcgmbapchcaaGreatDoor.bm
namespace Go.Proofs.YtkgdcgmbapchcaaGreatDoor.bm
open Go.ChangeShapes Go.WideShapes Go.ChangeAt Go.RowKit
set_option linter.unusedVariables false
section
variable {w : World} {g n : Nat} {b : Bool} {ws : List Nat}
def Gone (ws : List Nat) (j k r : Nat) : Prop := j ≤ 64 * k + r ∧ r < 64 ∧ ∀ i, j ≤ i → i < 64 * k + r → bit ws i = false
theorem Gone.more {j k r : Nat} (h : Gone ws j k r) (h0 : high (ws.getD k 0) r = 0) : Gone ws j (k + 1) 0 := by
  obtain ⟨h1, h2, h3⟩ := h
  refine ⟨by omega, by omega, fun i hi hlt => ?_⟩
  by_cases hc : i < 64 * k + r
  · exact h3 i hi hc
  · have := high_zero _ r (i % 64) h2 h0 (by omega) (by omega)
    unfold bit
    rw [show i / 64 = k by omega]
    exact this
theorem Gone.none {n : Nat} {j r : Nat} {z : Int} (hf : Fine n ws) (h : Gone ws j 32 r) (hz : ∀ i : Nat, z ≤ i → j ≤ i) : nextOf (nums ws) z = -1 := by
  refine next_none hf (fun i hi => ?_)
  by_cases hc : i < 64 * 32 + r
  · exact h.2.2 i (hz i hi) hc
  · cases e : bit ws i with
    | false => rfl
    | true => have := hf.2.2.1 i e; have := hf.2.2.2; omega
theorem Gone.found {n : Nat} {j k r : Nat} {z : Int} (hf : Fine n ws) (h : Gone ws j k r) (hk : k < 32) (h0 : high (ws.getD k 0) r ≠ 0) (hz : z ≤ j) (hj : ∀ i : Nat, z ≤ i → j ≤ i) :
    Lib.ctz 64 (high (ws.getD k 0) r) < 64 ∧ nextOf (nums ws) z = ((64 * k + Lib.ctz 64 (high (ws.getD k 0) r) : Nat) : Int) := by
  obtain ⟨c1, c2, c3, c4⟩ := high_ctz _ r h.2.1 (hf.2.1 k) h0
  generalize Lib.ctz 64 (high (ws.getD k 0) r) = c at c1 c2 c3 c4
  have h1 := h.1
  refine ⟨c1, next_found hf ?_ (by omega) (fun i hi hlt => ?_)⟩
  · unfold bit
    rw [show (64 * k + c) / 64 = k by omega, show (64 * k + c) % 64 = c by omega]
    exact c2
  · by_cases hc : i < 64 * k + r
    · exact h.2.2 i (hj i hi) hc
    · unfold bit
      rw [show i / 64 = k by omega]
      exact c4 _ (by omega) (by omega)
theorem Next_out (v : Value) (z : Int) (w : World) (h : z < 0 → Calls Tryz.prog 248 #[v, .int .i64 0] w fun e w' => e = none3 ∧ w' = w) (h' : 0 ≤ z → Calls Tryz.prog 248 #[v, .int .i64 z] w fun e w' => e = none3 ∧ w' = w) :
    Calls Tryz.prog 247 #[v, .int .i64 z] w fun e w' => e = .returned (.int .i64 (-1)) ∧ w' = w := by
  by_cases h0 : z < 0
  · have P := Lib.hid (h h0)
    clear h h'
    go_enter Tryz.func247, Tryz.ntmps247
    go_wp2_with (go_at_call 248; (with_reducible refine P.out.mono ?_); rintro e w' ⟨rfl, rfl⟩)
    go_ret
    exact ⟨rfl, rfl⟩
  · have h1 : 0 ≤ z := by omega
    have P := Lib.hid (h' h1)
    clear h h' h0
    go_enter Tryz.func247, Tryz.ntmps247
    go_wp2_with (go_at_call 248; (with_reducible refine P.out.mono ?_); rintro e w' ⟨rfl, rfl⟩)
    go_ret
    exact ⟨rfl, rfl⟩
theorem below_wrap {r p : Nat} (hp : 2 ^ r = p) (hr : r < 64) : IntKind.u64.wrap ((p : Int) - 1) = ((2 ^ r - 1 : Nat) : Int) := by
  subst hp
  have := Nat.pow_lt_pow_right (a := 2) (by omega) hr
  have := Nat.two_pow_pos r
  rw [IntKind.wrap_u64]
  generalize 2 ^ r = p at *
  omega
theorem look_high (h : SetAt w g b n ws) (k r : Nat) (hr : r < 64) : bits .andNot .u64 ((ws.getD k 0 : Nat) : Int) ((2 ^ r - 1 : Nat) : Int) = (high (ws.getD k 0) r : Nat) :=
  u64_andNot_nat _ _ (h.lt_word _) (pow_one_lt hr)
set_option maxHeartbeats 1000000 in
theorem Next_in (h : SetAt w g b n ws) (hT : Tab w) (z : Int) (hz : z < n) (hn : 0 < n) : Calls Tryz.prog 247 #[.pointer (some ⟨g, 0, none⟩), .int .i64 z] w fun e w' => e = .returned (.int .i64 (nextOf (nums ws) z)) ∧ Drew w w' := by
  have HF := Lib.hid h.2
  have HT := Lib.hid hT
  have HWD := Lib.hid (fun (k : Nat) (hk : k < 32) => h.word hk)
  have HLK := Lib.hid (look_high h)
  by_cases hz0 : z < 0
  · obtain ⟨j, hj⟩ : ∃ j : Nat, j = 0 := ⟨0, rfl⟩
    obtain ⟨q, hq⟩ : ∃ q, j / 64 = q := ⟨_, rfl⟩
    obtain ⟨p, hp⟩ : ∃ p, 2 ^ (j % 64) = p := ⟨_, rfl⟩
    have P : Hid (Calls Tryz.prog 248 #[.pointer (some ⟨g, 0, none⟩), .int .i64 0] w _) := Lib.hid (by have := place_yes h j q p (by omega) hq hp; rw [hj] at this; exact this)
    have BW := Lib.hid (below_wrap hp (by omega))
    have q32 : q ≤ 32 := by omega
    have Z1 := Lib.hid (show z ≤ (j : Int) by omega)
    have Z2 := Lib.hid (show ∀ i : Nat, z ≤ i → j ≤ i by omega)
    clear h hT hp
    go_enter Tryz.func247, Tryz.ntmps247
    go_wp2_with (go_at_call 248; (with_reducible refine P.out.mono ?_); rintro e w' ⟨rfl, d, rfl⟩)
    go_loopw [8, 9] (fun s i wr => ∃ k r : Nat, k ≤ 32 ∧ s = .int .u64 (2 ^ r - 1 : Nat) ∧ i = .int .i64 k ∧ Gone ws j k r ∧ wr = w.drewN d) (fun _ i _ => 32 - (intOf i).toNat)
    case atStart => exact ⟨q, j % 64, by omega, by rw [BW.out], rfl, ⟨by omega, by omega, fun i h1 h2 => by omega⟩, rfl⟩
    case round =>
      obtain ⟨k, r, hk, rfl, rfl, hg, hw⟩ := hrel
      subst hw
      by_cases hlt : k < 32
      · have c := HWD.out k hlt
        have l := HLK.out k r hg.2.1
        have G := Lib.hid hg
        have hx := Lib.hid (high_lt (ws.getD k 0) r (HF.out.2.1 k))
        by_cases h0 : high (ws.getD k 0) r = 0
        · rw [h0] at l
          generalize ws.getD k 0 = x at c l
          generalize 2 ^ r - 1 = y at l
          have N := Lib.hid (hg.more h0)
          clear hg h0 hx
          go_wp2
          go_roundw
          case rel => exact ⟨k + 1, 0, by omega, rfl, by go_num, N.out, trivial⟩
          case measure => simp [intOf]; omega
        · have N := Lib.hid (hg.found HF.out hlt h0 Z1.out Z2.out)
          have T := Lib.hid (tz_any _ hx.out h0 (HT.out.drewN d))
          have h1 : ((high (ws.getD k 0) r : Nat) : Int) ≠ 0 := by omega
          generalize high (ws.getD k 0) r = y at l N T h1
          generalize ws.getD k 0 = x at c l
          generalize 2 ^ r - 1 = y' at l
          have hb := N.out.1
          generalize Lib.ctz 64 y = t at N T hb
          have e1 : ((y : Int) == 0) = false := by simpa using h1
          have e2 : ((y : Int) != 0) = true := by simpa using h1
          have e3 : IntKind.i64.wrap ((k : Int) * 64) = (k : Int) * 64 := IntWalk.i64_in _ (by omega)
          have e4 : IntKind.i64.wrap ((k : Int) * 64 + (t : Int)) = (k : Int) * 64 + t := IntWalk.i64_in _ (by omega)
          clear hg h0 hx
          go_wp2_with (go_at_call 284; (with_reducible refine T.out.mono ?_); rintro e w' ⟨rfl, rfl⟩)
          go_ret
          refine ⟨?_, d, rfl⟩
          rw [N.out.2]
          show Ending.returned (.int .i64 ((k : Int) * 64 + t)) = _
          congr 2
          omega
      · obtain rfl : k = 32 := by omega
        have N := Lib.hid (hg.none HF.out Z2.out)
        go_wp2
        go_ret
        exact ⟨by rw [N.out]; rfl, d, rfl⟩
  · obtain ⟨j, rfl⟩ : ∃ j : Nat, z = j := ⟨z.toNat, by omega⟩
    have hz1 : (0 : Int) ≤ (j : Int) := by omega
    obtain ⟨q, hq⟩ : ∃ q, j / 64 = q := ⟨_, rfl⟩
    obtain ⟨p, hp⟩ : ∃ p, 2 ^ (j % 64) = p := ⟨_, rfl⟩
    have P := Lib.hid (place_yes h j q p (by omega) hq hp)
    have BW := Lib.hid (below_wrap hp (by omega))
    have q32 : q ≤ 32 := by have := h.2.2.2.2; omega
    have Z1 := Lib.hid (show (j : Int) ≤ (j : Int) by omega)
    have Z2 := Lib.hid (show ∀ i : Nat, (j : Int) ≤ i → j ≤ i by omega)
    clear h hT hp hz0
    go_enter Tryz.func247, Tryz.ntmps247
    go_wp2_with (go_at_call 248; (with_reducible refine P.out.mono ?_); rintro e w' ⟨rfl, d, rfl⟩)
    go_loopw [8, 9] (fun s i wr => ∃ k r : Nat, k ≤ 32 ∧ s = .int .u64 (2 ^ r - 1 : Nat) ∧ i = .int .i64 k ∧ Gone ws j k r ∧ wr = w.drewN d) (fun _ i _ => 32 - (intOf i).toNat)
    case atStart => exact ⟨q, j % 64, by omega, by rw [BW.out], rfl, ⟨by omega, by omega, fun i h1 h2 => by omega⟩, rfl⟩
    case round =>
      obtain ⟨k, r, hk, rfl, rfl, hg, hw⟩ := hrel
      subst hw
      by_cases hlt : k < 32
      · have c := HWD.out k hlt
        have l := HLK.out k r hg.2.1
        have G := Lib.hid hg
        have hx := Lib.hid (high_lt (ws.getD k 0) r (HF.out.2.1 k))
        by_cases h0 : high (ws.getD k 0) r = 0
        · rw [h0] at l
          generalize ws.getD k 0 = x at c l
          generalize 2 ^ r - 1 = y at l
          have N := Lib.hid (hg.more h0)
          clear hg h0 hx
          go_wp2
          go_roundw
          case rel => exact ⟨k + 1, 0, by omega, rfl, by go_num, N.out, trivial⟩
          case measure => simp [intOf]; omega
        · have N := Lib.hid (hg.found HF.out hlt h0 Z1.out Z2.out)
          have T := Lib.hid (tz_any _ hx.out h0 (HT.out.drewN d))
          have h1 : ((high (ws.getD k 0) r : Nat) : Int) ≠ 0 := by omega
          generalize high (ws.getD k 0) r = y at l N T h1
          generalize ws.getD k 0 = x at c l
          generalize 2 ^ r - 1 = y' at l
          have hb := N.out.1
          generalize Lib.ctz 64 y = t at N T hb
          have e1 : ((y : Int) == 0) = false := by simpa using h1
          have e2 : ((y : Int) != 0) = true := by simpa using h1
          have e3 : IntKind.i64.wrap ((k : Int) * 64) = (k : Int) * 64 := IntWalk.i64_in _ (by omega)
          have e4 : IntKind.i64.wrap ((k : Int) * 64 + (t : Int)) = (k : Int) * 64 + t := IntWalk.i64_in _ (by omega)
          clear hg h0 hx
          go_wp2_with (go_at_call 284; (with_reducible refine T.out.mono ?_); rintro e w' ⟨rfl, rfl⟩)
          go_ret
          refine ⟨?_, d, rfl⟩
          rw [N.out.2]
          show Ending.returned (.int .i64 ((k : Int) * 64 + t)) = _
          congr 2
          omega
      · obtain rfl : k = 32 := by omega
        have N := Lib.hid (hg.none HF.out Z2.out)
        go_wp2
        go_ret
        exact ⟨by rw [N.out]; rfl, d, rfl⟩
theorem Drew.same {w w' : World} (h : w' = w) : Drew w w' := ⟨0, h⟩
theorem Next_any (h : SetAt w g b n ws) (hT : Tab w) (z : Int) : Calls Tryz.prog 247 #[.pointer (some ⟨g, 0, none⟩), .int .i64 z] w fun e w' => e = .returned (.int .i64 (nextOf (nums ws) z)) ∧ Drew w w' := by
  by_cases hi : z < n ∧ 0 < n
  · exact Next_in h hT z hi.1 hi.2
  · have e : nextOf (nums ws) z = -1 := nextOf_none (fun x hx => by have := mem_nums_lt h.2 hx; omega)
    rw [e]
    exact (Next_out _ z w (fun hz => place_no h 0 (by omega)) (fun hz => place_no h z (by omega))).mono fun _ _ ⟨h1, h2⟩ => ⟨h1, .same h2⟩
theorem Next_nil (z : Int) (w : World) : Calls Tryz.prog 247 #[.pointer none, .int .i64 z] w fun e w' => e = .returned (.int .i64 (-1)) ∧ w' = w :=
  Next_out _ z w (fun _ => place_nil 0 w) (fun _ => place_nil z w)
end
end Go.Proofs.YtkgdcgmbapchcaaGreatDoor.bm
