/- Texts that this claim stands on. -/
import Derived.RegionTactic
import Derived.Deep.RegionLaw
import Derived.Laws.Cover3
import Derived.Laws.CopyOwn
import Derived.Test.YtkgdcgmbapchcaaGreatDoorQGnQ
namespace Go.Proofs.YtkgdcgmbapchcaaGreatDoor.ep
open Go.ChangeShapes Go.WideShapes Go.ChangeAt Go.RowKit gen li
set_option linter.unusedVariables false
set_option maxHeartbeats 4000000
set_option maxRecDepth 100000
def lv (x : Int) : Bool := decide (0 ≤ x)
def cf (x : Int) : Int := if 0 ≤ x then x else 0
theorem lv_neg : lv (-1) = false := rfl
theorem lv_nat (n : Nat) : lv n = true := by simp [lv]
theorem cf_nat (n : Nat) : cf n = n := by simp [cf]
def tc : List Int → List Value
  | [] => []
  | x :: m => .bool (lv x) :: .int .i64 (cf x) :: tc m
theorem tc_at : ∀ (m : List Int) (i : Nat), i < m.length → (tc m)[2 * i]? = some (.bool (lv (m.getD i (-1)))) ∧ (tc m)[2 * i + 1]? = some (.int .i64 (cf (m.getD i (-1))))
  | [], i, h => by simp at h
  | x :: m, 0, _ => ⟨rfl, rfl⟩
  | x :: m, i + 1, h => by
    have := tc_at m i (by simpa using h)
    refine ⟨?_, ?_⟩
    · rw [show 2 * (i + 1) = 2 * i + 2 by omega]
      simpa [tc] using this.1
    · rw [show 2 * (i + 1) + 1 = 2 * i + 1 + 2 by omega]
      simpa [tc] using this.2
theorem tc_set : ∀ (m : List Int) (i : Nat) (x : Int), i < m.length → ((tc m).set (2 * i) (.bool (lv x))).set (2 * i + 1) (.int .i64 (cf x)) = tc (m.set i x)
  | [], i, x, h => by simp at h
  | y :: m, 0, x, _ => rfl
  | y :: m, i + 1, x, h => by
    have := tc_set m i x (by simpa using h)
    rw [show 2 * (i + 1) = 2 * i + 2 by omega]
    simp only [tc, List.set_cons_succ]
    rw [this]
def pad (m : List Int) : List Int := m ++ List.replicate (8 - m.length) (-1)
theorem pad_length {m : List Int} (h : m.length ≤ 8) : (pad m).length = 8 := by simp [pad]; omega
theorem pad_at (m : List Int) (i : Nat) : (pad m).getD i (-1) = m.getD i (-1) := by
  unfold pad
  rw [List.getD_eq_getElem?_getD, List.getD_eq_getElem?_getD]
  by_cases h : i < m.length
  · rw [List.getElem?_append_left h]
  · rw [List.getElem?_append_right (by omega), List.getElem?_replicate, List.getElem?_eq_none (l := m) (by omega)]
    split <;> rfl
theorem pad_set {m : List Int} {i : Nat} (h : i < m.length) (x : Int) : (pad m).set i x = pad (m.set i x) := by
  unfold pad
  rw [List.set_append_left _ _ h, List.length_set]
def ec (b : Bool) (e : Nat) (m : List Int) : List Value := .bool b :: .int .i64 (m.length : Int) :: .int .i64 (e : Int) :: tc (pad m)
def Rg (w : World) (g : Nat) (b : Bool) (e : Nat) (m : List Int) : Prop :=
  w.heap[g]? = some (.cells (ec b e m).toArray 128 (0, 0)) ∧ m.length ≤ 8 ∧ ∀ x ∈ m, -1 ≤ x ∧ x ≤ (e : Int)
def of (m : List Int) (t : Int) : Int := if 0 ≤ t then m.getD t.toNat (-1) else -1
def hs (m : List Int) (t : Int) : Bool := decide (0 ≤ t ∧ t < (m.length : Int))
theorem of_nat (m : List Int) (k : Nat) : of m k = m.getD k (-1) := by simp [of]
theorem of_out {m : List Int} {t : Int} (h : t < 0 ∨ (m.length : Int) ≤ t) : of m t = -1 := by
  unfold of
  split
  · rw [List.getD_eq_getElem?_getD, List.getElem?_eq_none (by omega)]; rfl
  · rfl
theorem of_in {m : List Int} {t : Int} (h : 0 ≤ of m t) : 0 ≤ t ∧ t < (m.length : Int) := by
  refine ⟨?_, ?_⟩
  · rcases Int.lt_or_le t 0 with h1 | h1
    · rw [of_out (.inl h1)] at h; omega
    · exact h1
  · rcases Int.lt_or_le t (m.length : Int) with h1 | h1
    · exact h1
    · rw [of_out (.inr h1)] at h; omega
section
variable {w w' : World} {g : Nat} {b : Bool} {e : Nat} {m : List Int}
theorem Rg.lt (h : Rg w g b e m) : g < w.heap.size := (Array.getElem?_eq_some_iff.1 h.1).1
theorem Rg.kept {row : Option Nat} (h : Rg w g b e m) (hg : w.grownBy w' row) (h1 : some g ≠ row) : Rg w' g b e m := ⟨(hg.block g h.lt h1).trans h.1, h.2⟩
theorem Rg.new (h : Rg w g b e m) (hg : w.grownBy w' none) : Rg w' g b e m := h.kept hg (by simp)
theorem Rg.free (h : Rg w g b e m) (k : Nat) : w.frozen? ⟨g, k, none⟩ = false := frozen_of_row w g k _ _ h.1
theorem Rg.made_ (h : Rg w g b e m) : w.cell? ⟨g, 0, none⟩ = some (.bool b) := by rw [cell_of_row w g 0 _ _ _ h.1]; rfl
theorem Rg.count (h : Rg w g b e m) : w.cell? ⟨g, 1, none⟩ = some (.int .i64 m.length) := by rw [cell_of_row w g 1 _ _ _ h.1]; rfl
theorem Rg.epoch (h : Rg w g b e m) : w.cell? ⟨g, 2, none⟩ = some (.int .i64 e) := by rw [cell_of_row w g 2 _ _ _ h.1]; rfl
theorem Rg.at_ (h : Rg w g b e m) {i : Nat} (hi : i < 8) : w.cell? ⟨g, 3 + i * 2, none⟩ = some (.bool (lv (m.getD i (-1)))) ∧ w.cell? ⟨g, 3 + i * 2 + 1, none⟩ = some (.int .i64 (cf (m.getD i (-1)))) := by
  obtain ⟨a1, a2⟩ := tc_at (pad m) i (by rw [pad_length h.2.1]; exact hi)
  rw [pad_at] at a1 a2
  have k : ∀ j, (ec b e m)[3 + j]? = (tc (pad m))[j]? := fun j => by rw [show 3 + j = j + 1 + 1 + 1 by omega]; rfl
  refine ⟨?_, ?_⟩
  · rw [cell_of_row w g _ _ _ _ h.1, show i * 2 = 2 * i by omega]; simpa [k] using a1
  · rw [cell_of_row w g _ _ _ _ h.1, show 3 + i * 2 + 1 = 3 + (2 * i + 1) by omega]; simpa [k] using a2
theorem Rg.range (h : Rg w g b e m) (t : Int) : -1 ≤ of m t ∧ of m t ≤ (e : Int) := by
  rcases Int.lt_or_le t 0 with h1 | h1
  · rw [of_out (.inl h1)]; omega
  rcases Int.lt_or_le t (m.length : Int) with h2 | h2
  · obtain ⟨k, rfl⟩ : ∃ k : Nat, t = k := ⟨t.toNat, by omega⟩
    rw [of_nat]
    exact h.2.2 _ (getD_mem (by omega) _)
  · rw [of_out (.inr h2)]; omega
theorem has_nil (t : Int) (w : World) : Calls Tryz.prog 161 #[.pointer none, .int .i64 t] w fun r w' => r = .returned (.bool false) ∧ w = w' := by
  go_enter Tryz.func161, Tryz.ntmps161
  go_wp2
  go_ret
  exact ⟨rfl, rfl⟩
theorem has_any (h : Rg w g b e m) (t : Int) : Calls Tryz.prog 161 #[.pointer (some ⟨g, 0, none⟩), .int .i64 t] w fun r w' => r = .returned (.bool (hs m t)) ∧ w = w' := by
  have c := h.count
  have HH := Lib.hid (show hs m t = decide (0 ≤ t ∧ t < (m.length : Int)) from rfl)
  generalize hs m t = q at HH
  generalize m.length = n at c HH
  clear h
  by_cases h1 : t < 0
  · have t1 : decide (t ≥ 0) = false := by simpa using h1
    have t1' : decide ((0 : Int) ≤ t) = false := by simpa using h1
    go_enter Tryz.func161, Tryz.ntmps161
    go_wp2
    go_ret
    exact ⟨by rw [HH.out, decide_eq_false (by omega)]; rfl, rfl⟩
  · have t1 : decide ((0 : Int) ≤ t) = true := by simpa using h1
    by_cases h2 : t < n
    · have t2 : decide (t < (n : Int)) = true := by simpa using h2
      go_enter Tryz.func161, Tryz.ntmps161
      go_wp2
      go_ret
      exact ⟨by rw [HH.out, decide_eq_true (by omega)]; rfl, rfl⟩
    · have t2 : decide (t < (n : Int)) = false := by simpa using h2
      go_enter Tryz.func161, Tryz.ntmps161
      go_wp2
      go_ret
      exact ⟨by rw [HH.out, decide_eq_false (by omega)]; rfl, rfl⟩
theorem Live_nil (t : Int) (w : World) : Calls Tryz.prog 95 #[.pointer none, .int .i64 t] w fun r w' => r = .returned (.bool false) ∧ w = w' := by
  go_enter Tryz.func95, Tryz.ntmps95
  go_wp2_with (go_at_call 161; (with_reducible refine (has_nil _ _).mono ?_); rintro r w' ⟨rfl, rfl⟩)
  go_ret
  exact ⟨rfl, rfl⟩
theorem Live_any (h : Rg w g b e m) (t : Int) : Calls Tryz.prog 95 #[.pointer (some ⟨g, 0, none⟩), .int .i64 t] w fun r w' => r = .returned (.bool (lv (of m t))) ∧ w = w' := by
  have HA := has_any h t
  have hl := h.2.1
  by_cases h1 : 0 ≤ t ∧ t < (m.length : Int)
  · obtain ⟨k, rfl⟩ : ∃ k : Nat, t = k := ⟨t.toNat, by omega⟩
    rw [show hs m k = true from decide_eq_true h1] at HA
    obtain ⟨c0, c1⟩ := h.at_ (i := k) (by omega)
    rw [← of_nat] at c0
    generalize lv (of m k) = q at c0
    have k8 : k < 8 := by omega
    have k0 : (0 : Int) ≤ (k : Int) := by omega
    have HB := Lib.hid HA
    clear HA h h1 hl c1
    go_enter Tryz.func95, Tryz.ntmps95
    go_wp2_with (go_at_call 161; (with_reducible refine HB.out.mono ?_); rintro r w' ⟨rfl, rfl⟩)
    go_ret
    exact ⟨rfl, rfl⟩
  · rw [show hs m t = false from decide_eq_false h1] at HA
    rw [of_out (m := m) (t := t) (by omega), lv_neg]
    have HB := Lib.hid HA
    clear HA h h1 hl
    go_enter Tryz.func95, Tryz.ntmps95
    go_wp2_with (go_at_call 161; (with_reducible refine HB.out.mono ?_); rintro r w' ⟨rfl, rfl⟩)
    go_ret
    exact ⟨rfl, rfl⟩
theorem Of_any (h : Rg w g b e m) (t : Int) : Calls Tryz.prog 165 #[.pointer (some ⟨g, 0, none⟩), .int .i64 t] w fun r w' => r = .returned (.int .i64 (of m t)) ∧ w = w' := by
  have HA := Live_any h t
  have hr := h.range t
  by_cases h1 : 0 ≤ of m t
  · obtain ⟨h2, h3⟩ := of_in h1
    have hl := h.2.1
    obtain ⟨k, rfl⟩ : ∃ k : Nat, t = k := ⟨t.toNat, by omega⟩
    obtain ⟨c0, c1⟩ := h.at_ (i := k) (by omega)
    rw [← of_nat] at c1
    rw [show cf (of m k) = of m k from if_pos h1] at c1
    rw [show lv (of m k) = true from decide_eq_true h1] at HA
    generalize of m k = q at c1
    have k8 : k < 8 := by omega
    have k0 : (0 : Int) ≤ (k : Int) := by omega
    have HB := Lib.hid HA
    clear HA h h1 hl c0 hr
    go_enter Tryz.func165, Tryz.ntmps165
    go_wp2_with (go_at_call 95; (with_reducible refine HB.out.mono ?_); rintro r w' ⟨rfl, rfl⟩)
    go_ret
    exact ⟨rfl, rfl⟩
  · rw [show lv (of m t) = false from decide_eq_false h1] at HA
    rw [show of m t = -1 by omega]
    have HB := Lib.hid HA
    clear HA h h1 hr
    go_enter Tryz.func165, Tryz.ntmps165
    go_wp2_with (go_at_call 95; (with_reducible refine HB.out.mono ?_); rintro r w' ⟨rfl, rfl⟩)
    go_ret
    exact ⟨rfl, rfl⟩
theorem Epoch_nil (w : World) : Calls Tryz.prog 166 #[.pointer none] w fun r w' => r = .returned (.int .i64 0) ∧ w = w' := by
  go_enter Tryz.func166, Tryz.ntmps166
  go_wp2
  go_ret
  exact ⟨rfl, rfl⟩
theorem Epoch_any (h : Rg w g b e m) : Calls Tryz.prog 166 #[.pointer (some ⟨g, 0, none⟩)] w fun r w' => r = .returned (.int .i64 e) ∧ w = w' := by
  have c := h.epoch
  clear h
  go_enter Tryz.func166, Tryz.ntmps166
  go_wp2
  go_ret
  exact ⟨rfl, rfl⟩
end
end Go.Proofs.YtkgdcgmbapchcaaGreatDoor.ep
namespace Go.Proofs.YtkgdcgmbapchcaaGreatDoor.ep
open Go.ChangeShapes Go.WideShapes Go.ChangeAt Go.RowKit gen li
set_option linter.unusedVariables false
set_option maxHeartbeats 4000000
set_option maxRecDepth 100000
theorem grown_set (w : World) (g o : Nat) (v : Value) : w.grownBy (w.setCell ⟨g, o, none⟩ v) (some g) := ⟨rfl, rfl, rfl, by simp, fun i _ hi => heap_setCell_other w ⟨g, o, none⟩ i _ (fun e => hi (by simp [e]))⟩
theorem ec_put {b : Bool} {e : Nat} {m : List Int} {k : Nat} (hk : k < m.length) (h8 : m.length ≤ 8) (x : Int) :
    ((ec b e m).set (3 + k * 2) (.bool (lv x))).set (3 + k * 2 + 1) (.int .i64 (cf x)) = ec b e (m.set k x) := by
  have h := tc_set (pad m) k x (by rw [pad_length h8]; omega)
  rw [pad_set hk] at h
  rw [show 3 + k * 2 = 2 * k + 1 + 1 + 1 by omega]
  simp only [ec, List.set_cons_succ, List.length_set]
  rw [h]
theorem mem_put {m : List Int} {k : Nat} {x y : Int} (h : y ∈ m.set k x) : y ∈ m ∨ y = x := by
  rcases List.mem_or_eq_of_mem_set h with h | h
  · exact .inl h
  · exact .inr h
def near (n a b : Int) : Int := if n < a then a else if b < n then b else n
theorem ret_int {a b : Int} (h : a = b) : Ending.returned (.int .i64 a) = .returned (.int .i64 b) := by rw [h]
section
variable {w w' : World} {g : Nat} {b : Bool} {e : Nat} {m : List Int}
theorem Rg.put (h : Rg w g b e m) {k : Nat} (hk : k < m.length) {x : Int} (h1 : -1 ≤ x) (h2 : x ≤ (e : Int)) :
    Rg ((w.setCell ⟨g, 3 + k * 2, none⟩ (.bool (lv x))).setCell ⟨g, 3 + k * 2 + 1, none⟩ (.int .i64 (cf x))) g b e (m.set k x) := by
  have g1 := heap_setCell_same w g (3 + k * 2) _ _ (.bool (lv x)) h.1
  rw [List.setIfInBounds_toArray] at g1
  have g2 := heap_setCell_same _ g (3 + k * 2 + 1) _ _ (.int .i64 (cf x)) g1
  rw [List.setIfInBounds_toArray, ec_put hk h.2.1] at g2
  refine ⟨g2, by simpa using h.2.1, fun y hy => ?_⟩
  rcases mem_put hy with hy | rfl
  · exact h.2.2 y hy
  · exact ⟨h1, h2⟩
theorem Rg.raise (h : Rg w g b e m) : Rg (w.setCell ⟨g, 2, none⟩ (.int .i64 ((e : Int) + 1))) g b (e + 1) m := by
  have g1 := heap_setCell_same w g 2 _ _ (.int .i64 ((e : Int) + 1)) h.1
  rw [List.setIfInBounds_toArray] at g1
  refine ⟨g1, h.2.1, fun y hy => ?_⟩
  have := h.2.2 y hy
  omega
theorem Attach_nil (t : Int) (w : World) : Calls Tryz.prog 84 #[.pointer none, .int .i64 t] w fun r w' => r = .returned (.bool false) ∧ w = w' := by
  go_enter Tryz.func84, Tryz.ntmps84
  go_wp2_with (go_at_call 161; (with_reducible refine (has_nil _ _).mono ?_); rintro r w' ⟨rfl, rfl⟩)
  go_ret
  exact ⟨rfl, rfl⟩
theorem Attach_yes (h : Rg w g b e m) (k : Nat) (hk : k < m.length) (ho : of m k = -1) :
    Calls Tryz.prog 84 #[.pointer (some ⟨g, 0, none⟩), .int .i64 (k : Int)] w fun r w' => r = .returned (.bool true) ∧ Rg w' g b e (m.set k e) ∧ w.grownBy w' (some g) := by
  have HA := has_any h k
  have hl := h.2.1
  rw [show hs m k = true from decide_eq_true (by omega)] at HA
  obtain ⟨c0, c1⟩ := h.at_ (i := k) (by omega)
  rw [← of_nat, ho, lv_neg] at c0
  have c2 := h.epoch
  have k8 : k < 8 := by omega
  have k0 : (0 : Int) ≤ (k : Int) := by omega
  have fz := h.free
  have hlt := h.lt
  have HB := Lib.hid HA
  have H := Lib.hid h
  have HK := Lib.hid hk
  clear HA h hk hl ho
  go_enter Tryz.func84, Tryz.ntmps84
  go_wp2_with (go_at_call 161; (with_reducible refine HB.out.mono ?_); rintro r w' ⟨rfl, rfl⟩)
  go_region
  go_wp2
  go_ret
  have R := H.out.put HK.out (x := (e : Int)) (by omega) (by omega)
  rw [lv_nat, cf_nat] at R
  exact ⟨rfl, R, ((grown_set _ _ _ _).trans (grown_set _ _ _ _)).trans (grown_drewN _ 1 _)⟩
theorem Raise_yes (h : Rg w g true e m) (he : e ≤ 1000000) : Calls Tryz.prog 144 #[.pointer (some ⟨g, 0, none⟩)] w fun r w' => r = .returned (.int .i64 ((e : Int) + 1)) ∧ Rg w' g true (e + 1) m ∧ w.grownBy w' (some g) := by
  have c := h.made_
  have c2 := h.epoch
  have fz := h.free
  have hlt := h.lt
  have H := Lib.hid h
  have k0 : (0 : Int) ≤ (e : Int) := by omega
  have k1 : (e : Int) ≤ 1000000 := by omega
  clear h he
  go_enter Tryz.func144, Tryz.ntmps144
  go_wp2
  go_ret
  exact ⟨rfl, H.out.raise, grown_set _ _ _ _⟩
theorem Confirm_nil (t : Int) (w : World) : Calls Tryz.prog 68 #[.pointer none, .int .i64 t] w fun r w' => r = .returned (.bool false) ∧ Drew w w' := by
  have LN := Lib.hid (fun w => (Live_nil t w).mono (fun r w' h => (⟨h.1, h.2.symm⟩ : r = .returned (.bool false) ∧ w' = w)))
  go_enter Tryz.func68, Tryz.ntmps68
  go_wp2
  go_quiet (first | (go_at_call 95; refine Calls.quiet_of_same (LN.out _)))
  go_wp2
  go_ret
  exact ⟨rfl, _, rfl⟩
theorem Clamp_any (n a b : Int) (w : World) : Calls Tryz.prog 104 #[.int .i64 n, .int .i64 a, .int .i64 b] w fun e w' => e = .returned (.int .i64 (near n a b)) ∧ w = w' := by
  by_cases h : n < a
  · go_enter Tryz.func104, Tryz.ntmps104
    go_wp2
    go_ret
    exact ⟨by simp [near, h], rfl⟩
  by_cases h2 : b < n
  all_goals
    go_enter Tryz.func104, Tryz.ntmps104
    go_wp2
    go_ret
    exact ⟨ret_int (by unfold near; repeat' split
                       all_goals omega), rfl⟩
def NewAns (e : Nat) (m : List Int) (w : World) (r : Ending) (w' : World) : Prop := ∃ g, r = .returned (.pointer (some ⟨g, 0, none⟩)) ∧ Rg w' g true e m ∧ w.heap.size ≤ g ∧ w.grownBy w' none
theorem rep_pad {k : Nat} (h : k ≤ 8) : pad (List.replicate k (-1)) = List.replicate 8 (-1) := by
  unfold pad
  rw [List.length_replicate, List.replicate_append_replicate]
  congr 1
  omega
theorem ec_rep (b : Bool) {k : Nat} (h : k ≤ 8) : ec b 0 (List.replicate k (-1)) = [.bool b, .int .i64 k, .int .i64 0, .bool false, .int .i64 0, .bool false, .int .i64 0, .bool false, .int .i64 0, .bool false, .int .i64 0, .bool false, .int .i64 0, .bool false, .int .i64 0, .bool false, .int .i64 0, .bool false, .int .i64 0] := by
  unfold ec
  rw [rep_pad h, List.length_replicate]
  rfl
theorem Rg.fresh (w : World) (b : Bool) {k : Nat} (h : k ≤ 8) : Rg (w.alloc (.cells #[.bool b, .int .i64 k, .int .i64 0, .bool false, .int .i64 0, .bool false, .int .i64 0, .bool false, .int .i64 0, .bool false, .int .i64 0, .bool false, .int .i64 0, .bool false, .int .i64 0, .bool false, .int .i64 0, .bool false, .int .i64 0] 128)) w.heap.size b 0 (List.replicate k (-1)) := by
  refine ⟨?_, by simpa using h, fun x hx => by rw [List.eq_of_mem_replicate hx]; omega⟩
  rw [ec_rep b h]
  exact heap_alloc_new _ _
theorem New_any (n : Int) (k : Nat) (hk : near n 0 8 = k) (h8 : k ≤ 8) (w : World) : Calls Tryz.prog 47 #[.int .i64 n] w (NewAns 0 (List.replicate k (-1)) w) := by
  have HK := Lib.hid hk
  have H8 := Lib.hid h8
  clear hk h8
  go_enter Tryz.func47, Tryz.ntmps47
  go_wp2_with (go_at_call 104; (with_reducible refine (Clamp_any _ _ _ _).mono ?_); rintro e w' ⟨rfl, rfl⟩; rw [HK.out])
  go_ret
  exact ⟨_, rfl, Rg.fresh w true H8.out, Nat.le_refl _, World.grownBy_alloc _ _ _⟩
end
end Go.Proofs.YtkgdcgmbapchcaaGreatDoor.ep
namespace Go.Proofs.YtkgdcgmbapchcaaGreatDoor.ep
open Go.ChangeShapes Go.WideShapes Go.ChangeAt Go.RowKit gen li
set_option linter.unusedVariables false
set_option maxHeartbeats 4000000
set_option maxRecDepth 100000
theorem append_int {w : World} {ops : Array Oper} {rest : List Oper} {o : Oper} {a : Act} {Q : Exit → Act → World → Prop} (hgd : o.guard = none) (s x : Operand) (ho : o.op = .call { callee := .builtin .append, args := #[s, x], argTypes := #[41, 41] })
    (base : Nat) (v : Value) (xs : List Int) (hs : a.eval s = v) (hown : w.ownsRow base 3 1 v xs.length (ints xs)) (b : Nat) (z : Int) (hx : a.eval x = .slice (some ⟨b, 0, none⟩) 1 1)
    (hz : w.cell? ⟨b, 0, none⟩ = some (.int .i64 z)) (hm : xs.length ≤ 1048576) (hbase : base ≤ w.heap.size)
    (h : ∀ A' N' c' w', N' = (xs ++ [z]).length → w'.ownsRow base 3 1 (.slice A' N' c') (xs ++ [z]).length (ints (xs ++ [z])) → w.grownBy w' v.ownBlock → wpList Tryz.prog ops Q rest (a.put o.dst (.slice A' N' c')) w') : wpList Tryz.prog ops Q (o :: rest) a w := by
  obtain ⟨i0, hi, hz0, hz1, hz2⟩ := info_parts info_int
  refine wpList_append_rd hgd s x 41 ho base 3 i0 (.int .i64 0) 8 Tryz.underlying41 hi hz0 hz1 hz2 rfl v xs.length xs hs hown (some ⟨b, 0, none⟩) 1 1 w.heap.size [z] hx
    ⟨rfl, fun e => (by cases e), fun ad e i hi => ?_⟩ (by unfold maxLen; omega) (by omega) hbase (fun A' c' w' h1 h2 h3 => ?_)
  · injection e with e
    subst e
    obtain rfl : i = 0 := by omega
    exact ⟨World.block_lt_of_cell? _ _ hz, hz⟩
  · exact h A' (xs.length + 1) c' w' (by simp) (by rw [List.length_append]; exact h1) h3
def chs (p : Int → Bool) (m : List Int) (k : Nat) : List Int := ((List.range k).filter fun t : Nat => lv (m.getD t (-1)) && p (m.getD t (-1))).map fun t : Nat => (t : Int)
theorem chs_yes {p : Int → Bool} {m : List Int} {k : Nat} (h1 : lv (m.getD k (-1)) = true) (h2 : p (m.getD k (-1)) = true) : chs p m (k + 1) = chs p m k ++ [(k : Int)] := by
  unfold chs
  rw [List.range_succ, List.filter_append, List.map_append]
  congr 1
  rw [List.filter_cons_of_pos (by rw [h1, h2]; rfl)]
  rfl
theorem chs_no {p : Int → Bool} {m : List Int} {k : Nat} (h : (lv (m.getD k (-1)) && p (m.getD k (-1))) = false) : chs p m (k + 1) = chs p m k := by
  unfold chs
  rw [List.range_succ, List.filter_append, List.filter_cons_of_neg (by rw [h]; exact Bool.false_ne_true)]
  simp
theorem chs_length (p : Int → Bool) (m : List Int) (k : Nat) : (chs p m k).length ≤ k := by
  unfold chs
  rw [List.length_map]
  exact Nat.le_trans (List.length_filter_le _ _) (by simp)
theorem chs_more (p : Int → Bool) (m : List Int) (d : Nat) : chs p m (m.length + d) = chs p m m.length := by
  induction d with
  | zero => rfl
  | succ d ih =>
    rw [← Nat.add_assoc, chs_no, ih]
    rw [List.getD_eq_getElem?_getD, List.getElem?_eq_none (by omega)]
    rfl
theorem chs_eight {p : Int → Bool} {m : List Int} (h : m.length ≤ 8) : chs p m 8 = chs p m m.length := by
  have := chs_more p m (8 - m.length)
  rwa [show m.length + (8 - m.length) = 8 by omega] at this
theorem mem_chs {p : Int → Bool} {m : List Int} {k : Nat} {x : Int} (h : x ∈ chs p m k) : ∃ t : Nat, t < k ∧ x = t ∧ lv (m.getD t (-1)) = true ∧ p (m.getD t (-1)) = true := by
  unfold chs at h
  obtain ⟨t, ht, rfl⟩ := List.mem_map.1 h
  obtain ⟨h1, h2⟩ := List.mem_filter.1 ht
  rw [Bool.and_eq_true] at h2
  exact ⟨t, List.mem_range.1 h1, rfl, h2.1, h2.2⟩
theorem chs_mem {p : Int → Bool} {m : List Int} {k t : Nat} (ht : t < k) (h1 : lv (m.getD t (-1)) = true) (h2 : p (m.getD t (-1)) = true) : (t : Int) ∈ chs p m k := by
  unfold chs
  exact List.mem_map.2 ⟨t, List.mem_filter.2 ⟨List.mem_range.2 ht, by rw [h1, h2]; rfl⟩, rfl⟩
def bh (e : Nat) (m : List Int) : List Int := chs (fun x => decide (x < (e : Int))) m m.length
theorem bh_length (e : Nat) (m : List Int) : (bh e m).length ≤ m.length := chs_length _ _ _
def ls (e : Nat) (m : List Int) : Nat → Int
  | 0 => e
  | k + 1 => if lv (m.getD k (-1)) then min (ls e m k) (m.getD k (-1)) else ls e m k
section
variable {w w' : World} {g : Nat} {b : Bool} {e : Nat} {m : List Int}
theorem behind1_any (x : Int) (B : Nat) (y : Int) (w : World) (hB : w.cell? ⟨B, 0, none⟩ = some (.int .i64 y)) : Calls Tryz.prog 251 #[.int .i64 x, .pointer (some ⟨B, 0, none⟩)] w fun r w' => r = .returned (.bool (decide (x < y))) ∧ w = w' := by
  go_enter Tryz.func251, Tryz.ntmps251
  go_wp2
  go_ret
  exact ⟨rfl, rfl⟩
theorem chosen_behind (h : Rg w g b e m) {B : Nat} (hB : w.cell? ⟨B, 0, none⟩ = some (.int .i64 e)) : Calls Tryz.prog 250 #[.pointer (some ⟨g, 0, none⟩), .func (.func 251) #[] #[.pointer (some ⟨B, 0, none⟩)]] w (ListAns (chs (fun x => decide (x < (e : Int))) m m.length) w) := by
  have H := Lib.hid h
  have H8 := Lib.hid h.2.1
  have CB0 := Lib.hid hB
  clear hB
  clear h
  go_enter Tryz.func250, Tryz.ntmps250
  go_wp2
  go_loopw [5, 7] (fun v i wr => ∃ (k N : Nat) (A' : Option Addr) (c' : Nat), k ≤ 8 ∧ i = .int .i64 k ∧ v = .slice A' N c' ∧ N = (chs (fun x => decide (x < (e : Int))) m k).length ∧ wr.ownsRow w.heap.size 3 1 (.slice A' N c') (chs (fun x => decide (x < (e : Int))) m k).length (ints (chs (fun x => decide (x < (e : Int))) m k)) ∧ w.grownBy wr none) (fun _ i _ => 8 - (intOf i).toNat)
  case atStart => exact ⟨0, 0, none, 0, by omega, rfl, rfl, rfl, World.ownsRow_nil _ _ _ _, World.grownBy.refl _ _⟩
  case round =>
    obtain ⟨k, N, A', c', hk, rfl, rfl, hm, ho, hg⟩ := hrel
    have HM := Lib.hid hm
    have HO := Lib.hid ho
    have HG := Lib.hid hg
    have R := Lib.hid (H.out.new hg)
    have CB := Lib.hid (hg.cell CB0.out (by simp))
    clear hm ho hg
    by_cases hlt : k < 8
    · have HL := Lib.hid (show N ≤ 8 by rw [HM.out]; exact Nat.le_trans (chs_length _ _ _) (by omega))
      have LV := Lib.hid (Live_any R.out k)
      have OF := Lib.hid (Of_any R.out k)
      have HS := Lib.hid (HG.out.size)
      rw [of_nat] at LV OF
      cases hv : lv (m.getD k (-1)) with
      | false =>
        rw [hv] at LV
        have FF := Lib.hid (show chs (fun x => decide (x < (e : Int))) m (k + 1) = chs (fun x => decide (x < (e : Int))) m k from chs_no (by rw [hv]; rfl))
        clear hv OF
        go_wp2_with (go_at_call 95; (with_reducible refine LV.out.mono ?_); rintro r w' ⟨rfl, rfl⟩)
        go_roundw
        case rel => exact ⟨k + 1, N, A', c', by omega, by go_num, rfl, by rw [FF.out]; exact HM.out, by rw [FF.out]; exact HO.out, HG.out⟩
        case measure => simp [intOf]; omega
      | true =>
        rw [hv] at LV
        have HV := Lib.hid hv
        generalize hx : m.getD k (-1) = x at OF
        have HX := Lib.hid hx
        clear hv hx
        have BC := Lib.hid (behind1_any x B e _ CB.out)
        cases hd : decide (x < (e : Int)) with
        | true =>
          rw [hd] at BC
          have FF := Lib.hid (show chs (fun x => decide (x < (e : Int))) m (k + 1) = chs (fun x => decide (x < (e : Int))) m k ++ [(k : Int)] from chs_yes HV.out (by rw [HX.out]; exact hd))
          clear hd
          go_wp2_with (first
            | (go_at_call 95; (with_reducible refine LV.out.mono ?_); rintro r w' ⟨rfl, rfl⟩)
            | (go_at_call 165; (with_reducible refine OF.out.mono ?_); rintro r w' ⟨rfl, rfl⟩)
            | (go_at_call 251; (with_reducible refine BC.out.mono ?_); rintro r w' ⟨rfl, rfl⟩)
            | (refine append_int rfl (.tmp 20) (.tmp 22) rfl w.heap.size (.slice A' N c') (chs (fun x => decide (x < (e : Int))) m k) rfl (HO.out.alloc _) _ (k : Int) rfl (by go_simp) (by have := HL.out; have := HM.out; omega) (by have := HS.out; simp; omega) ?_; intro A3 N3 c3 w2 hn3 own1 gr1; have HN3 := Lib.hid hn3; have OWN1 := Lib.hid own1; have GR1 := Lib.hid gr1; clear hn3 own1 gr1))
          go_roundw
          case rel => exact ⟨k + 1, N3, A3, c3, by omega, by go_num, rfl, by rw [FF.out]; exact HN3.out, by rw [FF.out]; exact OWN1.out, grown_own (HG.out.trans (World.grownBy_alloc _ _ _)) (HO.out.alloc _) GR1.out (Nat.le_refl _)⟩
          case measure => simp [intOf]; omega
        | false =>
          rw [hd] at BC
          have FF := Lib.hid (show chs (fun x => decide (x < (e : Int))) m (k + 1) = chs (fun x => decide (x < (e : Int))) m k from chs_no (by rw [HX.out, hd, Bool.and_false]))
          clear hd
          go_wp2_with (first
            | (go_at_call 95; (with_reducible refine LV.out.mono ?_); rintro r w' ⟨rfl, rfl⟩)
            | (go_at_call 165; (with_reducible refine OF.out.mono ?_); rintro r w' ⟨rfl, rfl⟩)
            | (go_at_call 251; (with_reducible refine BC.out.mono ?_); rintro r w' ⟨rfl, rfl⟩))
          go_roundw
          case rel => exact ⟨k + 1, N, A', c', by omega, by go_num, rfl, by rw [FF.out]; exact HM.out, by rw [FF.out]; exact HO.out, HG.out⟩
          case measure => simp [intOf]; omega
    · obtain rfl : k = 8 := by omega
      go_wp2
      go_ret
      have hm := HM.out
      have ho := HO.out
      rw [chs_eight H8.out] at hm ho
      subst hm
      exact ⟨A', c', rfl, ho, HG.out⟩
theorem chosen_nil (fv : Value) (w : World) : Calls Tryz.prog 250 #[.pointer none, fv] w fun r w' => r = .returned (.slice none 0 0) ∧ w = w' := by
  go_enter Tryz.func250, Tryz.ntmps250
  go_wp2
  go_loopw [5, 7] (fun v i wr => ∃ k : Nat, k ≤ 8 ∧ i = .int .i64 k ∧ v = .slice none 0 0 ∧ wr = w) (fun _ i _ => 8 - (intOf i).toNat)
  case atStart => exact ⟨0, by omega, rfl, rfl, rfl⟩
  case round =>
    obtain ⟨k, hk, rfl, rfl, rfl⟩ := hrel
    by_cases hlt : k < 8
    · go_wp2_with (go_at_call 95; (with_reducible refine (Live_nil _ _).mono ?_); rintro r w' ⟨rfl, rfl⟩)
      go_roundw
      case rel => exact ⟨k + 1, by omega, by go_num, rfl, trivial⟩
      case measure => simp [intOf]; omega
    · obtain rfl : k = 8 := by omega
      go_wp2
      go_ret
      exact ⟨rfl, rfl⟩
theorem Behind_nil (w : World) : Calls Tryz.prog 204 #[.pointer none] w fun r w' => r = .returned (.slice none 0 0) ∧ w.grownBy w' none := by
  have G0 := Lib.hid (World.grownBy_alloc w (.cells #[.int .i64 0] 3) none)
  go_enter Tryz.func204, Tryz.ntmps204
  go_wp2_with (first
    | (go_at_call 166; (with_reducible refine (Epoch_nil _).mono ?_); rintro r w' ⟨rfl, rfl⟩)
    | (go_at_call 250; (with_reducible refine (chosen_nil _ _).mono ?_); rintro r w' ⟨rfl, rfl⟩))
  go_ret
  exact ⟨rfl, G0.out⟩
theorem Behind_any (h : Rg w g b e m) : Calls Tryz.prog 204 #[.pointer (some ⟨g, 0, none⟩)] w (ListAns (bh e m) w) := by
  have H := Lib.hid h
  have EP := Lib.hid (Epoch_any h)
  have G0 := Lib.hid (World.grownBy_alloc w (.cells #[.int .i64 e] 3) none)
  have C0 := Lib.hid (show (w.alloc (.cells #[.int .i64 e] 3)).cell? ⟨w.heap.size, 0, none⟩ = some (.int .i64 e) by go_simp)
  clear h
  go_enter Tryz.func204, Tryz.ntmps204
  go_wp2_with (first
    | (go_at_call 166; (with_reducible refine EP.out.mono ?_); rintro r w' ⟨rfl, rfl⟩)
    | (go_at_call 250; (with_reducible refine (chosen_behind (H.out.new G0.out) C0.out).mono ?_); rintro r w2 ⟨A, c, rfl, ho, hg⟩; have HO := Lib.hid ho; have HG := Lib.hid (G0.out.trans hg); clear ho hg))
  go_ret
  exact ⟨A, c, rfl, own_mono HO.out G0.out.size, HG.out⟩
theorem Agreed_nil (w : World) : Calls Tryz.prog 136 #[.pointer none] w fun r w' => r = .returned (.bool true) ∧ w.grownBy w' none := by
  go_enter Tryz.func136, Tryz.ntmps136
  go_wp2_with (go_at_call 204; (with_reducible refine (Behind_nil _).mono ?_); rintro r w2 ⟨rfl, hg⟩; have HG := Lib.hid hg; clear hg)
  go_ret
  exact ⟨rfl, HG.out⟩
theorem Agreed_any (h : Rg w g b e m) : Calls Tryz.prog 136 #[.pointer (some ⟨g, 0, none⟩)] w fun r w' => r = .returned (.bool (((bh e m).length : Int) == 0)) ∧ w.grownBy w' none := by
  have HB := Lib.hid (Behind_any h)
  have hl : (bh e m).length ≤ 8 := Nat.le_trans (bh_length e m) h.2.1
  generalize bh e m = xs at HB hl
  clear h
  go_enter Tryz.func136, Tryz.ntmps136
  go_wp2_with (go_at_call 204; (with_reducible refine HB.out.mono ?_); rintro r w2 ⟨A, c, rfl, ho, hg⟩; have HG := Lib.hid hg; clear ho hg)
  go_ret
  exact ⟨rfl, HG.out⟩
end
end Go.Proofs.YtkgdcgmbapchcaaGreatDoor.ep
