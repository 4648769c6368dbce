/- Reading a config from octets: what the program's function, and the statements' own, answer. -/
import Derived.Test.YtdplkodaccjgaaaDoorCfE
import Derived.BigRegion
namespace Go.Proofs.YtdplkodaccjgaaaDoor.cf
open Go.ChangeShapes Go.WideShapes Go.ChangeAt Go.RowKit
set_option linter.unusedVariables false

/-- The number that the octets at 2 j and behind it make. -/
def num (xs : List Int) (j : Nat) : Int := 256 * xs.getD (2 * j) 0 + xs.getD (2 * j + 1) 0
def nums (xs : List Int) : List Int := [num xs 0, num xs 1, num xs 2, num xs 3, num xs 4, num xs 5, num xs 6, num xs 7, num xs 8, num xs 9]
/-- The first k of ten numbers, the others 0. -/
def part (xs : List Int) (k j : Nat) : Int := if j < k then num xs j else 0
def Part (xs : List Int) (k : Nat) (F : Nat) (w : World) : Prop := ∀ j, j < 10 → w.cell? ⟨F, j, none⟩ = some (.int .i64 (part xs k j)) ∧ w.frozen? ⟨F, j, none⟩ = false
theorem Part.step {xs : List Int} {k F : Nat} {w : World} (h : Part xs k F w) (hk : k < 10) {n : Int} (hn : n = num xs k) : Part xs (k + 1) F (w.setCell ⟨F, k, none⟩ (.int .i64 n)) := by
  intro j hj
  obtain ⟨h1, h2⟩ := h j hj
  by_cases e : j = k
  · subst e
    refine ⟨?_, ?_⟩
    · rw [World.cell?_setCell_same' _ _ _ (by rw [h1]; rfl)]
      simp [part, hn]
    · simpa [go_sem] using h2
  · refine ⟨?_, ?_⟩
    · rw [World.cell?_setCell_other (h := by intro h; simp only [Addr.mk.injEq] at h; omega), h1]
      have : (j < k) ↔ (j < k + 1) := by omega
      simp [part, this]
    · simpa [go_sem] using h2
theorem Part.all {xs : List Int} {F : Nat} {w : World} (h : Part xs 10 F w) {j : Nat} (hj : j < 10) : w.cell? ⟨F, j, none⟩ = some (.int .i64 (num xs j)) := by
  have := (h j hj).1
  simpa [part, hj] using this
/-- Twenty octets from ⟨b, off⟩ on. -/
def Bytes (xs : List Int) (b off : Nat) (w : World) : Prop := b < w.heap.size ∧ ∀ i, i < 20 → (w.cell? ⟨b, off + i, none⟩ = some (.int .u8 (xs.getD i 0)) ∧ 0 ≤ xs.getD i 0 ∧ xs.getD i 0 ≤ 255)
theorem Bytes.below {xs : List Int} {b off : Nat} {w w' : World} (h : Bytes xs b off w) (hb : Below w.heap.size w w') : Bytes xs b off w' :=
  ⟨Nat.lt_of_lt_of_le h.1 hb.size, fun i hi => ⟨(hb.cell (p := ⟨b, off + i, none⟩) h.1).trans (h.2 i hi).1, (h.2 i hi).2⟩⟩

section
set_option maxHeartbeats 4000000
theorem odd_any (xs : List Int) (b off cap : Nat) (w : World) (hcap : 20 ≤ cap) (hB : Bytes xs b off w) {n : Int} (hn : wrongN (nums xs) = n) : Calls Tryd.prog 16 #[.slice (some ⟨b, off, none⟩) 20 cap] w
    fun e w' => e = .returned (.bool (!(n == 0))) ∧ Below w.heap.size w w' := by
  have HB0 := Lib.hid hB
  have HN := Lib.hid (show wrongN [num xs 0, num xs 1, num xs 2, num xs 3, num xs 4, num xs 5, num xs 6, num xs 7, num xs 8, num xs 9] = n from hn)
  have B0 := Lib.hid (((Below.refl w.heap.size w)).alloc (Nat.le_refl _) (.cells #[Value.int .i64 0, Value.int .i64 0, Value.int .i64 0, Value.int .i64 0, Value.int .i64 0, Value.int .i64 0, Value.int .i64 0, Value.int .i64 0, Value.int .i64 0, Value.int .i64 0] 39))
  have P0 : Part xs 0 w.heap.size (w.alloc (.cells #[Value.int .i64 0, Value.int .i64 0, Value.int .i64 0, Value.int .i64 0, Value.int .i64 0, Value.int .i64 0, Value.int .i64 0, Value.int .i64 0, Value.int .i64 0, Value.int .i64 0] 39)) := by
    intro j hj
    have hj' : j = 0 ∨ j = 1 ∨ j = 2 ∨ j = 3 ∨ j = 4 ∨ j = 5 ∨ j = 6 ∨ j = 7 ∨ j = 8 ∨ j = 9 := by omega
    rcases hj' with rfl | rfl | rfl | rfl | rfl | rfl | rfl | rfl | rfl | rfl <;> simp [go_sem, part]
  have HP0 := Lib.hid P0
  clear hB P0 hn
  go_enter Tryd.func16, Tryd.ntmps16
  go_wp2
  go_loopw [4] (fun i wr => ∃ k : Nat, k ≤ 10 ∧ i = .int .i64 k ∧ Part xs k w.heap.size wr ∧ Below w.heap.size w wr ∧ w.heap.size < wr.heap.size) (fun i _ => (10 - intOf i).toNat)
  case atStart => exact ⟨0, by omega, rfl, HP0.out, B0.out, by simp⟩
  case round =>
    obtain ⟨k, hk, rfl, hp, hb, hz⟩ := hrel
    have HP := Lib.hid hp
    have HB := Lib.hid hb
    clear hp hb
    by_cases hlt : k < 10
    · obtain ⟨p1, p2⟩ := HP.out k hlt
      have BY := Lib.hid (HB0.out.below HB.out)
      obtain ⟨b1, b10, b11⟩ := BY.out.2 (2 * k) (by omega)
      obtain ⟨b2, b20, b21⟩ := BY.out.2 (2 * k + 1) (by omega)
      have E : 256 * xs.getD (2 * k) 0 + xs.getD (2 * k + 1) 0 = num xs k := rfl
      generalize List.getD xs (2 * k) 0 = x at b1 b10 b11 E
      generalize List.getD xs (2 * k + 1) 0 = y at b2 b20 b21 E
      have HE := Lib.hid E
      have e1 : wrap64 x = x := by unfold wrap64; omega
      have e2 : wrap64 y = y := by unfold wrap64; omega
      have e3 : wrap64 (256 * x) = 256 * x := by unfold wrap64; omega
      have e4 : wrap64 (256 * x + y) = 256 * x + y := by unfold wrap64; omega
      have hlt' : (k : Int) < 10 := by omega
      clear E
      go_wp2_with fail
      go_region
      go_wp2
      go_roundw
      case rel => exact ⟨k + 1, by omega, by go_num, HP.out.step hlt HE.out, (HB.out.setCell (Nat.le_refl _) _).drew, by simp; omega⟩
      case measure => simp [intOf]; omega
    · have hk' : k = 10 := by omega
      subst hk'
      have q0 := HP.out.all (j := 0) (by omega)
      have q1 := HP.out.all (j := 1) (by omega)
      have q2 := HP.out.all (j := 2) (by omega)
      have q3 := HP.out.all (j := 3) (by omega)
      have q4 := HP.out.all (j := 4) (by omega)
      have q5 := HP.out.all (j := 5) (by omega)
      have q6 := HP.out.all (j := 6) (by omega)
      have q7 := HP.out.all (j := 7) (by omega)
      have q8 := HP.out.all (j := 8) (by omega)
      have q9 := HP.out.all (j := 9) (by omega)
      go_wp2_with (go_at_call 8; (with_reducible refine (lwrong_as _ _ _ _ _ _ _ _ _ _ _ HN.out).mono ?_); rintro e w2 ⟨rfl, hb2⟩; have HB2 := Lib.hid hb2; clear hb2)
      go_ret
      exact ⟨rfl, HB.out.trans (HB2.out.mono HB.out.size)⟩
end
end Go.Proofs.YtdplkodaccjgaaaDoor.cf
