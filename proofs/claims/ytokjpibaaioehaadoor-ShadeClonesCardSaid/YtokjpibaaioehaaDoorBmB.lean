/- What Add, Remove, Has, Count, Next and Clear do to a set in memory. -/
import Derived.Test.YtokjpibaaioehaaDoorBmA
import Derived.Maps.AppendAt
import Derived.Laws.OwnMore
import Derived.Laws.AppendOwn
namespace Go.Proofs.YtokjpibaaioehaaDoor.bm
open Go.ChangeShapes Go.WideShapes Go.ChangeAt Go.RowKit
set_option linter.unusedVariables false

theorem grown_refl (w : World) (row : Option Nat) : w.grownBy w row := ⟨rfl, rfl, rfl, Nat.le_refl _, fun _ _ _ => rfl⟩
theorem grown_drewN (w : World) (n : Nat) (row : Option Nat) : w.grownBy (w.drewN n) row := ⟨rfl, rfl, rfl, Nat.le_refl _, fun _ _ _ => rfl⟩
/-- What a look leaves behind. -/
def Drew (w w' : World) : Prop := ∃ k, w' = w.drewN k
section
variable {w : World} {g n : Nat} {b : Bool} {ws : List Nat}
/-- The word that a number lies in, as the program looks at it. -/
theorem word_look (h : SetAt w g b n ws) {i q p : Nat} (hi : i < n) (hq : i / 64 = q) (hp : 2 ^ (i % 64) = p) (hb : bit ws i = true) :
    bits .and .u64 ((ws.getD q 0 : Nat) : Int) (p : Int) = (p : Int) ∧ p ≠ 0 := by
  subst hq hp
  rw [bits_and_u64_nat _ _ (h.lt_word _) (pow_lt i), look_yes _ _ hb]
  exact ⟨rfl, by have := Nat.two_pow_pos (i % 64); omega⟩
theorem word_look_no (h : SetAt w g b n ws) {i q p : Nat} (hi : i < n) (hq : i / 64 = q) (hp : 2 ^ (i % 64) = p) (hb : bit ws i = false) :
    bits .and .u64 ((ws.getD q 0 : Nat) : Int) (p : Int) = 0 := by
  subst hq hp
  rw [bits_and_u64_nat _ _ (h.lt_word _) (pow_lt i), look_no _ _ hb]
  rfl
theorem Has_yes (h : SetAt w g b n ws) (i : Nat) (hi : i < n) (hb : bit ws i = true) : Calls Tryd.prog 36 #[.pointer (some ⟨g, 0, none⟩), .int .i64 i] w fun e w' => e = .returned (.bool true) ∧ Drew w w' := by
  obtain ⟨q, hq⟩ : ∃ q, i / 64 = q := ⟨_, rfl⟩
  obtain ⟨p, hp⟩ : ∃ p, 2 ^ (i % 64) = p := ⟨_, rfl⟩
  have P := Lib.hid (place_yes h i q p hi hq hp)
  have q32 : q < 32 := by have := h.2.2.2.2; omega
  have c := h.word q32
  obtain ⟨e1, e2⟩ := word_look h hi hq hp hb
  have e3 : ((p : Int) == 0) = false := by simpa using e2
  have e4 : ((p : Int) != 0) = true := by simpa using e2
  generalize ws.getD q 0 = x at c e1
  clear h hi hq hp hb
  go_enter Tryd.func36, Tryd.ntmps36
  go_wp2_with (go_at_call 49; (with_reducible refine P.out.mono ?_); rintro e w' ⟨rfl, k, rfl⟩)
  go_ret
  exact ⟨rfl, _, rfl⟩
theorem Has_no (h : SetAt w g b n ws) (i : Nat) (hi : i < n) (hb : bit ws i = false) : Calls Tryd.prog 36 #[.pointer (some ⟨g, 0, none⟩), .int .i64 i] w fun e w' => e = .returned (.bool false) ∧ Drew w w' := by
  obtain ⟨q, hq⟩ : ∃ q, i / 64 = q := ⟨_, rfl⟩
  obtain ⟨p, hp⟩ : ∃ p, 2 ^ (i % 64) = p := ⟨_, rfl⟩
  have P := Lib.hid (place_yes h i q p hi hq hp)
  have q32 : q < 32 := by have := h.2.2.2.2; omega
  have c := h.word q32
  have e1 := word_look_no h hi hq hp hb
  generalize ws.getD q 0 = x at c e1
  clear h hi hq hp hb
  go_enter Tryd.func36, Tryd.ntmps36
  go_wp2_with (go_at_call 49; (with_reducible refine P.out.mono ?_); rintro e w' ⟨rfl, k, rfl⟩)
  go_ret
  exact ⟨rfl, _, rfl⟩
theorem Add_in (h : SetAt w g b n ws) (i : Nat) (hi : i < n) (hb : bit ws i = true) : Calls Tryd.prog 37 #[.pointer (some ⟨g, 0, none⟩), .int .i64 i] w fun e w' => e = .returned (.bool false) ∧ Drew w w' := by
  obtain ⟨q, hq⟩ : ∃ q, i / 64 = q := ⟨_, rfl⟩
  obtain ⟨p, hp⟩ : ∃ p, 2 ^ (i % 64) = p := ⟨_, rfl⟩
  have P := Lib.hid (place_yes h i q p hi hq hp)
  have q32 : q < 32 := by have := h.2.2.2.2; omega
  have c := h.word q32
  obtain ⟨e1, e2⟩ := word_look h hi hq hp hb
  have e3 : ((p : Int) == 0) = false := by simpa using e2
  have e4 : ((p : Int) != 0) = true := by simpa using e2
  generalize ws.getD q 0 = x at c e1
  clear h hi hq hp hb
  go_enter Tryd.func37, Tryd.ntmps37
  go_wp2_with (go_at_call 49; (with_reducible refine P.out.mono ?_); rintro e w' ⟨rfl, k, rfl⟩)
  go_ret
  exact ⟨rfl, _, rfl⟩
theorem Remove_no (h : SetAt w g b n ws) (i : Nat) (hi : i < n) (hb : bit ws i = false) : Calls Tryd.prog 38 #[.pointer (some ⟨g, 0, none⟩), .int .i64 i] w fun e w' => e = .returned (.bool false) ∧ Drew w w' := by
  obtain ⟨q, hq⟩ : ∃ q, i / 64 = q := ⟨_, rfl⟩
  obtain ⟨p, hp⟩ : ∃ p, 2 ^ (i % 64) = p := ⟨_, rfl⟩
  have P := Lib.hid (place_yes h i q p hi hq hp)
  have q32 : q < 32 := by have := h.2.2.2.2; omega
  have c := h.word q32
  have e1 := word_look_no h hi hq hp hb
  generalize ws.getD q 0 = x at c e1
  clear h hi hq hp hb
  go_enter Tryd.func38, Tryd.ntmps38
  go_wp2_with (go_at_call 49; (with_reducible refine P.out.mono ?_); rintro e w' ⟨rfl, k, rfl⟩)
  go_ret
  exact ⟨rfl, _, rfl⟩
theorem Has_out (v : Value) (i : Int) (w : World) (h : Calls Tryd.prog 49 #[v, .int .i64 i] w fun e w' => e = none3 ∧ w' = w) : Calls Tryd.prog 36 #[v, .int .i64 i] w fun e w' => e = .returned (.bool false) ∧ w' = w := by
  have P := Lib.hid h
  clear h
  go_enter Tryd.func36, Tryd.ntmps36
  go_wp2_with (go_at_call 49; (with_reducible refine P.out.mono ?_); rintro e w' ⟨rfl, rfl⟩)
  go_ret
  exact ⟨rfl, rfl⟩
theorem Add_out (v : Value) (i : Int) (w : World) (h : Calls Tryd.prog 49 #[v, .int .i64 i] w fun e w' => e = none3 ∧ w' = w) : Calls Tryd.prog 37 #[v, .int .i64 i] w fun e w' => e = .returned (.bool false) ∧ w' = w := by
  have P := Lib.hid h
  clear h
  go_enter Tryd.func37, Tryd.ntmps37
  go_wp2_with (go_at_call 49; (with_reducible refine P.out.mono ?_); rintro e w' ⟨rfl, rfl⟩)
  go_ret
  exact ⟨rfl, rfl⟩
theorem Remove_out (v : Value) (i : Int) (w : World) (h : Calls Tryd.prog 49 #[v, .int .i64 i] w fun e w' => e = none3 ∧ w' = w) : Calls Tryd.prog 38 #[v, .int .i64 i] w fun e w' => e = .returned (.bool false) ∧ w' = w := by
  have P := Lib.hid h
  clear h
  go_enter Tryd.func38, Tryd.ntmps38
  go_wp2_with (go_at_call 49; (with_reducible refine P.out.mono ?_); rintro e w' ⟨rfl, rfl⟩)
  go_ret
  exact ⟨rfl, rfl⟩
theorem put_word (h : SetAt w g b n ws) {i q p : Nat} (hi : i < n) (hq : i / 64 = q) (hp : 2 ^ (i % 64) = p) :
    ∃ y : Nat, bits .or .u64 ((ws.getD q 0 : Nat) : Int) (p : Int) = (y : Int) ∧ ws.set q y = put ws i := by
  subst hq hp
  exact ⟨_, bits_or_u64_nat _ _ (h.lt_word _) (pow_lt i), rfl⟩
theorem cut_word (h : SetAt w g b n ws) {i q p : Nat} (hi : i < n) (hq : i / 64 = q) (hp : 2 ^ (i % 64) = p) :
    ∃ y : Nat, bits .andNot .u64 ((ws.getD q 0 : Nat) : Int) (p : Int) = (y : Int) ∧ ws.set q y = cut ws i := by
  subst hq hp
  exact ⟨_, u64_andNot_nat _ _ (h.lt_word _) (pow_lt i), rfl⟩
theorem Add_yes (h : SetAt w g b n ws) (i : Nat) (hi : i < n) (hb : bit ws i = false) : Calls Tryd.prog 37 #[.pointer (some ⟨g, 0, none⟩), .int .i64 i] w fun e w' => e = .returned (.bool true) ∧ SetAt w' g b n (put ws i) ∧ w.grownBy w' (some g) := by
  obtain ⟨q, hq⟩ : ∃ q, i / 64 = q := ⟨_, rfl⟩
  obtain ⟨p, hp⟩ : ∃ p, 2 ^ (i % 64) = p := ⟨_, rfl⟩
  have P := Lib.hid (place_yes h i q p hi hq hp)
  have q32 : q < 32 := by have := h.2.2.2.2; omega
  have c := h.word q32
  have e1 := word_look_no h hi hq hp hb
  obtain ⟨y, y1, y2⟩ := put_word h hi hq hp
  have Z := Lib.hid (fun k => ((h.drewN k).set q y (y2 ▸ h.2.put hi)))
  have Y := Lib.hid y2
  have fz := h.free (2 + q)
  generalize ws.getD q 0 = x at c e1 y1
  clear h hi hq hp hb y2
  go_enter Tryd.func37, Tryd.ntmps37
  go_wp2_with (go_at_call 49; (with_reducible refine P.out.mono ?_); rintro e w' ⟨rfl, k, rfl⟩)
  go_region
  go_wp2
  go_ret
  refine ⟨rfl, ?_, ?_⟩
  · have := (Z.out (k + 1)).1
    rw [Y.out] at this
    exact this
  · exact (grown_drewN w (k + 1) _).trans (Z.out (k + 1)).2
theorem Remove_yes (h : SetAt w g b n ws) (i : Nat) (hi : i < n) (hb : bit ws i = true) : Calls Tryd.prog 38 #[.pointer (some ⟨g, 0, none⟩), .int .i64 i] w fun e w' => e = .returned (.bool true) ∧ SetAt w' g b n (cut ws i) ∧ w.grownBy w' (some g) := by
  obtain ⟨q, hq⟩ : ∃ q, i / 64 = q := ⟨_, rfl⟩
  obtain ⟨p, hp⟩ : ∃ p, 2 ^ (i % 64) = p := ⟨_, rfl⟩
  have P := Lib.hid (place_yes h i q p hi hq hp)
  have q32 : q < 32 := by have := h.2.2.2.2; omega
  have c := h.word q32
  obtain ⟨e1, e2⟩ := word_look h hi hq hp hb
  have e3 : ((p : Int) == 0) = false := by simpa using e2
  have e4 : ((p : Int) != 0) = true := by simpa using e2
  obtain ⟨y, y1, y2⟩ := cut_word h hi hq hp
  have Z := Lib.hid (fun k => ((h.drewN k).set q y (y2 ▸ h.2.cut hi)))
  have Y := Lib.hid y2
  have fz := h.free (2 + q)
  generalize ws.getD q 0 = x at c e1 y1
  clear h hi hq hp hb y2
  go_enter Tryd.func38, Tryd.ntmps38
  go_wp2_with (go_at_call 49; (with_reducible refine P.out.mono ?_); rintro e w' ⟨rfl, k, rfl⟩)
  go_region
  go_wp2
  go_ret
  refine ⟨rfl, ?_, ?_⟩
  · have := (Z.out (k + 1)).1
    rw [Y.out] at this
    exact this
  · exact (grown_drewN w (k + 1) _).trans (Z.out (k + 1)).2
end
end Go.Proofs.YtokjpibaaioehaaDoor.bm
