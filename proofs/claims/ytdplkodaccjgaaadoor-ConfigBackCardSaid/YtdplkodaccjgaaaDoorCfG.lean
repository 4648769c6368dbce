/- Reading a config from octets: what the program's function answers. -/
import Derived.Test.YtdplkodaccjgaaaDoorCfF
import Derived.Lib.QuoteBits
namespace Go.Proofs.YtdplkodaccjgaaaDoor.cf
open Go.ChangeShapes Go.WideShapes Go.ChangeAt Go.RowKit
set_option linter.unusedVariables false

/-- Ten zeros at the head of block F, that may be written. -/
def Zero (F : Nat) (w : World) : Prop := ∀ j, j < 10 → (w.cell? ⟨F, j, none⟩ = some (.int .i64 0) ∧ w.frozen? ⟨F, j, none⟩ = false)
theorem Zero.set {F k : Nat} {w : World} (h : Zero F w) {b : Nat} {v : Value} (hk : b ≠ F) : Zero F (w.setCell ⟨b, k, none⟩ v).drew := by
  intro j hj
  obtain ⟨h1, h2⟩ := h j hj
  refine ⟨?_, by simpa [go_sem] using h2⟩
  rw [World.cell?_drew, World.cell?_setCell_other (h := by intro h; simp only [Addr.mk.injEq] at h; omega), h1]
theorem Zero.below {F : Nat} {w w' : World} (h : Zero F w) (hF : F < w.heap.size) (hb : Below w.heap.size w w') : Zero F w' := fun j hj =>
  ⟨(hb.cell (p := ⟨F, j, none⟩) hF).trans (h j hj).1, (hb.frozen (p := ⟨F, j, none⟩) hF).trans (h j hj).2⟩
theorem or256 {x y : Int} (h0 : 0 ≤ x) (h1 : x ≤ 255) (k0 : 0 ≤ y) (k1 : y ≤ 255) : bits BinOp.or IntKind.i64 (x * 256) y = 256 * x + y := by
  obtain ⟨X, rfl⟩ := Int.eq_ofNat_of_zero_le h0
  obtain ⟨Y, rfl⟩ := Int.eq_ofNat_of_zero_le k0
  have e : (X : Int) * 256 = ((2 ^ 8 * X : Nat) : Int) := by omega
  rw [e]
  show IntKind.i64.wrap ((BitVec.ofInt 64 ((2 ^ 8 * X : Nat) : Int) ||| BitVec.ofInt 64 (Y : Int)).toNat : Int) = _
  rw [BitVec.toNat_or, Go.ofInt_u64 _ (by omega), Go.ofInt_u64 _ (by omega), ← Nat.two_pow_add_eq_or_of_lt (by omega), Lib.wrap_i64_small _ (by omega)]
  omega
section
set_option maxHeartbeats 4000000
theorem Read_nil (w : World) : Calls Tryd.prog 15 #[.slice none 0 0] w
    fun e w' => e = .returned (.tuple #[.agg #[.int .i64 0, .int .i64 0, .int .i64 0, .int .i64 0, .int .i64 0, .int .i64 0, .int .i64 0, .int .i64 0, .int .i64 0, .int .i64 0], .int .i64 16]) ∧ Below w.heap.size w w' := by
  go_enter Tryd.func15, Tryd.ntmps15
  go_wp2
  exact bodyPost_ret (v := .tuple #[.agg #[.int .i64 0, .int .i64 0, .int .i64 0, .int .i64 0, .int .i64 0, .int .i64 0, .int .i64 0, .int .i64 0, .int .i64 0, .int .i64 0], .int .i64 16]) (by simp [results, Tryd.results15, go_sem]) rfl ⟨rfl, (Below.refl _ _).alloc (Nat.le_refl _) _⟩
theorem Read_len (a : Addr) (n cap : Nat) (w : World) (hn : ((n : Int) == 20) = false) : Calls Tryd.prog 15 #[.slice (some a) n cap] w
    fun e w' => e = .returned (.tuple #[.agg #[.int .i64 0, .int .i64 0, .int .i64 0, .int .i64 0, .int .i64 0, .int .i64 0, .int .i64 0, .int .i64 0, .int .i64 0, .int .i64 0], .int .i64 16]) ∧ Below w.heap.size w w' := by
  go_enter Tryd.func15, Tryd.ntmps15
  go_wp2
  exact bodyPost_ret (v := .tuple #[.agg #[.int .i64 0, .int .i64 0, .int .i64 0, .int .i64 0, .int .i64 0, .int .i64 0, .int .i64 0, .int .i64 0, .int .i64 0, .int .i64 0], .int .i64 16]) (by simp [results, Tryd.results15, go_sem]) rfl ⟨rfl, (Below.refl _ _).alloc (Nat.le_refl _) _⟩
theorem Read_no (xs : List Int) (b off cap : Nat) (w : World) (hcap : 20 ≤ cap) (hB : Bytes xs b off w) (hT : Table w) {n : Int} (hn : wrongN (nums xs) = n) (h0 : (n == 0) = false) : Calls Tryd.prog 15 #[.slice (some ⟨b, off, none⟩) 20 cap] w
    fun e w' => e = .returned (.tuple #[.agg #[.int .i64 0, .int .i64 0, .int .i64 0, .int .i64 0, .int .i64 0, .int .i64 0, .int .i64 0, .int .i64 0, .int .i64 0, .int .i64 0], .int .i64 16]) ∧ Below w.heap.size w w' := by
  have HB0 := Lib.hid hB
  have HN := Lib.hid (show wrongN [num xs 0, num xs 1, num xs 2, num xs 3, num xs 4, num xs 5, num xs 6, num xs 7, num xs 8, num xs 9] = n from hn)
  have HT := Lib.hid hT
  have B0 := Lib.hid ((((Below.refl w.heap.size w)).alloc (Nat.le_refl _) (.cells #[Value.int .i64 0, Value.int .i64 0, Value.int .i64 0, Value.int .i64 0, Value.int .i64 0, Value.int .i64 0, Value.int .i64 0, Value.int .i64 0, Value.int .i64 0, Value.int .i64 0] 23)).alloc (by simp) (.cells #[Value.int .i64 0, Value.int .i64 0, Value.int .i64 0, Value.int .i64 0, Value.int .i64 0, Value.int .i64 0, Value.int .i64 0, Value.int .i64 0, Value.int .i64 0, Value.int .i64 0] 39))
  have R0 := Lib.hid (Ten.new w 23 0 0 0 0 0 0 0 0 0 0)
  have P0 : Part xs 0 (w.heap.size + 1) ((w.alloc (.cells #[Value.int .i64 0, Value.int .i64 0, Value.int .i64 0, Value.int .i64 0, Value.int .i64 0, Value.int .i64 0, Value.int .i64 0, Value.int .i64 0, Value.int .i64 0, Value.int .i64 0] 23)).alloc (.cells #[Value.int .i64 0, Value.int .i64 0, Value.int .i64 0, Value.int .i64 0, Value.int .i64 0, Value.int .i64 0, Value.int .i64 0, Value.int .i64 0, Value.int .i64 0, Value.int .i64 0] 39)) := by
    intro j hj
    have hj' : j = 0 ∨ j = 1 ∨ j = 2 ∨ j = 3 ∨ j = 4 ∨ j = 5 ∨ j = 6 ∨ j = 7 ∨ j = 8 ∨ j = 9 := by omega
    rcases hj' with rfl | rfl | rfl | rfl | rfl | rfl | rfl | rfl | rfl | rfl <;> simp [go_sem, part]
  have HP0 := Lib.hid P0
  have hz9 : ∀ j, j < 10 → (((w.alloc (.cells #[Value.int .i64 0, Value.int .i64 0, Value.int .i64 0, Value.int .i64 0, Value.int .i64 0, Value.int .i64 0, Value.int .i64 0, Value.int .i64 0, Value.int .i64 0, Value.int .i64 0] 23)).alloc (.cells #[Value.int .i64 0, Value.int .i64 0, Value.int .i64 0, Value.int .i64 0, Value.int .i64 0, Value.int .i64 0, Value.int .i64 0, Value.int .i64 0, Value.int .i64 0, Value.int .i64 0] 39)).cell? ⟨w.heap.size, j, none⟩ = some (.int .i64 0) ∧ ((w.alloc (.cells #[Value.int .i64 0, Value.int .i64 0, Value.int .i64 0, Value.int .i64 0, Value.int .i64 0, Value.int .i64 0, Value.int .i64 0, Value.int .i64 0, Value.int .i64 0, Value.int .i64 0] 23)).alloc (.cells #[Value.int .i64 0, Value.int .i64 0, Value.int .i64 0, Value.int .i64 0, Value.int .i64 0, Value.int .i64 0, Value.int .i64 0, Value.int .i64 0, Value.int .i64 0, Value.int .i64 0] 39)).frozen? ⟨w.heap.size, j, none⟩ = false) := by
    intro j hj
    have hj' : j = 0 ∨ j = 1 ∨ j = 2 ∨ j = 3 ∨ j = 4 ∨ j = 5 ∨ j = 6 ∨ j = 7 ∨ j = 8 ∨ j = 9 := by omega
    rcases hj' with rfl | rfl | rfl | rfl | rfl | rfl | rfl | rfl | rfl | rfl <;> simp [go_sem]
  have HZ0 := Lib.hid hz9
  clear hB P0 hn hT hz9
  go_enter Tryd.func15, Tryd.ntmps15
  go_wp2
  go_loopw [11] (fun i wr => ∃ k : Nat, k ≤ 10 ∧ i = .int .i64 k ∧ Part xs k (w.heap.size + 1) wr ∧ Zero w.heap.size wr ∧ Below w.heap.size w wr ∧ w.heap.size + 1 < wr.heap.size) (fun i _ => (10 - intOf i).toNat)
  case atStart => exact ⟨0, by omega, rfl, HP0.out, HZ0.out, B0.out, by simp⟩
  case round =>
    obtain ⟨k, hk, rfl, hp, h0, hb, hz⟩ := hrel
    have HP := Lib.hid hp
    have HZ := Lib.hid h0
    have HB := Lib.hid hb
    clear hp hb h0
    by_cases hlt : k < 10
    · obtain ⟨p1, p2⟩ := HP.out k hlt
      have BY := Lib.hid (HB0.out.below HB.out)
      obtain ⟨b1, b10, b11⟩ := BY.out.2 (2 * k) (by omega)
      obtain ⟨b2, b20, b21⟩ := BY.out.2 (2 * k + 1) (by omega)
      have E : 256 * xs.getD (2 * k) 0 + xs.getD (2 * k + 1) 0 = num xs k := rfl
      generalize List.getD xs (2 * k) 0 = x at b1 b10 b11 E
      generalize List.getD xs (2 * k + 1) 0 = y at b2 b20 b21 E
      have HE := Lib.hid E
      have hlt' : (k : Int) < 10 := by omega
      have e1 : wrap64 x = x := by unfold wrap64; omega
      have e2 : wrap64 y = y := by unfold wrap64; omega
      have e3 : bits BinOp.or IntKind.i64 (x * 256) y = 256 * x + y := or256 b10 b11 b20 b21
      clear E
      go_wp2_with fail
      go_region
      go_wp2
      go_roundw
      case rel => exact ⟨k + 1, by omega, by go_num, HP.out.step hlt HE.out, HZ.out.set (by omega), (HB.out.setCell (by simp) _).drew, by simp; omega⟩
      case measure => simp [intOf]; omega
    · have hk' : k = 10 := by omega
      subst hk'
      have q0 := HP.out.all (j := 0) (by omega)
      have q1 := HP.out.all (j := 1) (by omega)
      have q2 := HP.out.all (j := 2) (by omega)
      have q3 := HP.out.all (j := 3) (by omega)
      have q4 := HP.out.all (j := 4) (by omega)
      have q5 := HP.out.all (j := 5) (by omega)
      have q6 := HP.out.all (j := 6) (by omega)
      have q7 := HP.out.all (j := 7) (by omega)
      have q8 := HP.out.all (j := 8) (by omega)
      have q9 := HP.out.all (j := 9) (by omega)
      have HTR := Lib.hid (HT.out.below HB.out)
      go_wp2_with (first
        | (go_at_call 21; (with_reducible refine (made_any _ _ _ _ _ _ _ _ _ _ _).mono ?_); rintro e w2 ⟨rfl, hb2⟩; have HB2 := Lib.hid hb2; have hz2 : w.heap.size < w2.heap.size := (by have := hb2.size; omega); clear hb2)
        | (go_at_call 9; (with_reducible refine (Wrong_as _ _ _ _ _ _ _ _ _ _ _ (HTR.out.below (HB2.out.alloc HB2.out.size _)) HN.out).mono ?_); rintro e w3 ⟨rfl, hb3⟩; have Z3 := Lib.hid (((HZ.out.below (by omega) HB2.out).below hz2 ((Below.refl w2.heap.size w2).alloc (Nat.le_refl _) _)).below (by simp; omega) hb3); have BB := Lib.hid (((HB.out.trans (HB2.out.mono HB.out.size)).alloc (HB.out.trans (HB2.out.mono HB.out.size)).size _).trans (hb3.mono (by simp; omega))); have C3 := Lib.hid ((Ten.new w2 23 (num xs 0) (num xs 1) (num xs 2) (num xs 3) (num xs 4) (num xs 5) (num xs 6) (num xs 7) (num xs 8) (num xs 9)).below hb3); obtain ⟨k0, k1, k2, k3, k4, k5, k6, k7, k8, k9⟩ := C3.out; clear hb3; obtain ⟨z0, y0⟩ := Z3.out 0 (by omega); obtain ⟨z1, y1⟩ := Z3.out 1 (by omega); obtain ⟨z2, y2⟩ := Z3.out 2 (by omega); obtain ⟨z3, y3⟩ := Z3.out 3 (by omega); obtain ⟨z4, y4⟩ := Z3.out 4 (by omega); obtain ⟨z5, y5⟩ := Z3.out 5 (by omega); obtain ⟨z6, y6⟩ := Z3.out 6 (by omega); obtain ⟨z7, y7⟩ := Z3.out 7 (by omega); obtain ⟨z8, y8⟩ := Z3.out 8 (by omega); obtain ⟨z9, y9⟩ := Z3.out 9 (by omega)))
      exact bodyPost_ret (v := .tuple #[.agg #[.int .i64 0, .int .i64 0, .int .i64 0, .int .i64 0, .int .i64 0, .int .i64 0, .int .i64 0, .int .i64 0, .int .i64 0, .int .i64 0], .int .i64 16]) (by simp [results, Tryd.results15, go_sem, z0, z1, z2, z3, z4, z5, z6, z7, z8, z9]) rfl ⟨rfl, ((((((((((BB.out.setCell (Nat.le_refl _) _).setCell (Nat.le_refl _) _).setCell (Nat.le_refl _) _).setCell (Nat.le_refl _) _).setCell (Nat.le_refl _) _).setCell (Nat.le_refl _) _).setCell (Nat.le_refl _) _).setCell (Nat.le_refl _) _).setCell (Nat.le_refl _) _).setCell (Nat.le_refl _) _)⟩
theorem Read_yes (xs : List Int) (b off cap : Nat) (w : World) (hcap : 20 ≤ cap) (hB : Bytes xs b off w) (hT : Table w) (hn : wrongN (nums xs) = 0) : Calls Tryd.prog 15 #[.slice (some ⟨b, off, none⟩) 20 cap] w
    fun e w' => e = .returned (.tuple #[.agg #[.int .i64 (num xs 0), .int .i64 (num xs 1), .int .i64 (num xs 2), .int .i64 (num xs 3), .int .i64 (num xs 4), .int .i64 (num xs 5), .int .i64 (num xs 6), .int .i64 (num xs 7), .int .i64 (num xs 8), .int .i64 (num xs 9)], .int .i64 0]) ∧ Below w.heap.size w w' := by
  have HB0 := Lib.hid hB
  have HN := Lib.hid (show wrongN [num xs 0, num xs 1, num xs 2, num xs 3, num xs 4, num xs 5, num xs 6, num xs 7, num xs 8, num xs 9] = 0 from hn)
  have HT := Lib.hid hT
  have B0 := Lib.hid ((((Below.refl w.heap.size w)).alloc (Nat.le_refl _) (.cells #[Value.int .i64 0, Value.int .i64 0, Value.int .i64 0, Value.int .i64 0, Value.int .i64 0, Value.int .i64 0, Value.int .i64 0, Value.int .i64 0, Value.int .i64 0, Value.int .i64 0] 23)).alloc (by simp) (.cells #[Value.int .i64 0, Value.int .i64 0, Value.int .i64 0, Value.int .i64 0, Value.int .i64 0, Value.int .i64 0, Value.int .i64 0, Value.int .i64 0, Value.int .i64 0, Value.int .i64 0] 39))
  have R0 := Lib.hid (Ten.new w 23 0 0 0 0 0 0 0 0 0 0)
  have P0 : Part xs 0 (w.heap.size + 1) ((w.alloc (.cells #[Value.int .i64 0, Value.int .i64 0, Value.int .i64 0, Value.int .i64 0, Value.int .i64 0, Value.int .i64 0, Value.int .i64 0, Value.int .i64 0, Value.int .i64 0, Value.int .i64 0] 23)).alloc (.cells #[Value.int .i64 0, Value.int .i64 0, Value.int .i64 0, Value.int .i64 0, Value.int .i64 0, Value.int .i64 0, Value.int .i64 0, Value.int .i64 0, Value.int .i64 0, Value.int .i64 0] 39)) := by
    intro j hj
    have hj' : j = 0 ∨ j = 1 ∨ j = 2 ∨ j = 3 ∨ j = 4 ∨ j = 5 ∨ j = 6 ∨ j = 7 ∨ j = 8 ∨ j = 9 := by omega
    rcases hj' with rfl | rfl | rfl | rfl | rfl | rfl | rfl | rfl | rfl | rfl <;> simp [go_sem, part]
  have HP0 := Lib.hid P0
  have hz9 : ∀ j, j < 10 → (((w.alloc (.cells #[Value.int .i64 0, Value.int .i64 0, Value.int .i64 0, Value.int .i64 0, Value.int .i64 0, Value.int .i64 0, Value.int .i64 0, Value.int .i64 0, Value.int .i64 0, Value.int .i64 0] 23)).alloc (.cells #[Value.int .i64 0, Value.int .i64 0, Value.int .i64 0, Value.int .i64 0, Value.int .i64 0, Value.int .i64 0, Value.int .i64 0, Value.int .i64 0, Value.int .i64 0, Value.int .i64 0] 39)).cell? ⟨w.heap.size, j, none⟩ = some (.int .i64 0) ∧ ((w.alloc (.cells #[Value.int .i64 0, Value.int .i64 0, Value.int .i64 0, Value.int .i64 0, Value.int .i64 0, Value.int .i64 0, Value.int .i64 0, Value.int .i64 0, Value.int .i64 0, Value.int .i64 0] 23)).alloc (.cells #[Value.int .i64 0, Value.int .i64 0, Value.int .i64 0, Value.int .i64 0, Value.int .i64 0, Value.int .i64 0, Value.int .i64 0, Value.int .i64 0, Value.int .i64 0, Value.int .i64 0] 39)).frozen? ⟨w.heap.size, j, none⟩ = false) := by
    intro j hj
    have hj' : j = 0 ∨ j = 1 ∨ j = 2 ∨ j = 3 ∨ j = 4 ∨ j = 5 ∨ j = 6 ∨ j = 7 ∨ j = 8 ∨ j = 9 := by omega
    rcases hj' with rfl | rfl | rfl | rfl | rfl | rfl | rfl | rfl | rfl | rfl <;> simp [go_sem]
  have HZ0 := Lib.hid hz9
  clear hB P0 hn hT hz9
  go_enter Tryd.func15, Tryd.ntmps15
  go_wp2
  go_loopw [11] (fun i wr => ∃ k : Nat, k ≤ 10 ∧ i = .int .i64 k ∧ Part xs k (w.heap.size + 1) wr ∧ Zero w.heap.size wr ∧ Below w.heap.size w wr ∧ w.heap.size + 1 < wr.heap.size) (fun i _ => (10 - intOf i).toNat)
  case atStart => exact ⟨0, by omega, rfl, HP0.out, HZ0.out, B0.out, by simp⟩
  case round =>
    obtain ⟨k, hk, rfl, hp, h0, hb, hz⟩ := hrel
    have HP := Lib.hid hp
    have HZ := Lib.hid h0
    have HB := Lib.hid hb
    clear hp hb h0
    by_cases hlt : k < 10
    · obtain ⟨p1, p2⟩ := HP.out k hlt
      have BY := Lib.hid (HB0.out.below HB.out)
      obtain ⟨b1, b10, b11⟩ := BY.out.2 (2 * k) (by omega)
      obtain ⟨b2, b20, b21⟩ := BY.out.2 (2 * k + 1) (by omega)
      have E : 256 * xs.getD (2 * k) 0 + xs.getD (2 * k + 1) 0 = num xs k := rfl
      generalize List.getD xs (2 * k) 0 = x at b1 b10 b11 E
      generalize List.getD xs (2 * k + 1) 0 = y at b2 b20 b21 E
      have HE := Lib.hid E
      have hlt' : (k : Int) < 10 := by omega
      have e1 : wrap64 x = x := by unfold wrap64; omega
      have e2 : wrap64 y = y := by unfold wrap64; omega
      have e3 : bits BinOp.or IntKind.i64 (x * 256) y = 256 * x + y := or256 b10 b11 b20 b21
      clear E
      go_wp2_with fail
      go_region
      go_wp2
      go_roundw
      case rel => exact ⟨k + 1, by omega, by go_num, HP.out.step hlt HE.out, HZ.out.set (by omega), (HB.out.setCell (by simp) _).drew, by simp; omega⟩
      case measure => simp [intOf]; omega
    · have hk' : k = 10 := by omega
      subst hk'
      have q0 := HP.out.all (j := 0) (by omega)
      have q1 := HP.out.all (j := 1) (by omega)
      have q2 := HP.out.all (j := 2) (by omega)
      have q3 := HP.out.all (j := 3) (by omega)
      have q4 := HP.out.all (j := 4) (by omega)
      have q5 := HP.out.all (j := 5) (by omega)
      have q6 := HP.out.all (j := 6) (by omega)
      have q7 := HP.out.all (j := 7) (by omega)
      have q8 := HP.out.all (j := 8) (by omega)
      have q9 := HP.out.all (j := 9) (by omega)
      have HTR := Lib.hid (HT.out.below HB.out)
      go_wp2_with (first
        | (go_at_call 21; (with_reducible refine (made_any _ _ _ _ _ _ _ _ _ _ _).mono ?_); rintro e w2 ⟨rfl, hb2⟩; have HB2 := Lib.hid hb2; have hz2 : w.heap.size < w2.heap.size := (by have := hb2.size; omega); clear hb2)
        | (go_at_call 9; (with_reducible refine (Wrong_as _ _ _ _ _ _ _ _ _ _ _ (HTR.out.below (HB2.out.alloc HB2.out.size _)) HN.out).mono ?_); rintro e w3 ⟨rfl, hb3⟩; have Z3 := Lib.hid (((HZ.out.below (by omega) HB2.out).below hz2 ((Below.refl w2.heap.size w2).alloc (Nat.le_refl _) _)).below (by simp; omega) hb3); have BB := Lib.hid (((HB.out.trans (HB2.out.mono HB.out.size)).alloc (HB.out.trans (HB2.out.mono HB.out.size)).size _).trans (hb3.mono (by simp; omega))); have C3 := Lib.hid ((Ten.new w2 23 (num xs 0) (num xs 1) (num xs 2) (num xs 3) (num xs 4) (num xs 5) (num xs 6) (num xs 7) (num xs 8) (num xs 9)).below hb3); obtain ⟨k0, k1, k2, k3, k4, k5, k6, k7, k8, k9⟩ := C3.out; clear hb3; obtain ⟨z0, y0⟩ := Z3.out 0 (by omega); obtain ⟨z1, y1⟩ := Z3.out 1 (by omega); obtain ⟨z2, y2⟩ := Z3.out 2 (by omega); obtain ⟨z3, y3⟩ := Z3.out 3 (by omega); obtain ⟨z4, y4⟩ := Z3.out 4 (by omega); obtain ⟨z5, y5⟩ := Z3.out 5 (by omega); obtain ⟨z6, y6⟩ := Z3.out 6 (by omega); obtain ⟨z7, y7⟩ := Z3.out 7 (by omega); obtain ⟨z8, y8⟩ := Z3.out 8 (by omega); obtain ⟨z9, y9⟩ := Z3.out 9 (by omega)))
      exact bodyPost_ret (v := .tuple #[.agg #[.int .i64 (num xs 0), .int .i64 (num xs 1), .int .i64 (num xs 2), .int .i64 (num xs 3), .int .i64 (num xs 4), .int .i64 (num xs 5), .int .i64 (num xs 6), .int .i64 (num xs 7), .int .i64 (num xs 8), .int .i64 (num xs 9)], .int .i64 0]) (by simp [results, Tryd.results15, go_sem, z0, z1, z2, z3, z4, z5, z6, z7, z8, z9]) rfl ⟨rfl, ((((((((((BB.out.setCell (Nat.le_refl _) _).setCell (Nat.le_refl _) _).setCell (Nat.le_refl _) _).setCell (Nat.le_refl _) _).setCell (Nat.le_refl _) _).setCell (Nat.le_refl _) _).setCell (Nat.le_refl _) _).setCell (Nat.le_refl _) _).setCell (Nat.le_refl _) _).setCell (Nat.le_refl _) _)⟩


end
end Go.Proofs.YtdplkodaccjgaaaDoor.cf
