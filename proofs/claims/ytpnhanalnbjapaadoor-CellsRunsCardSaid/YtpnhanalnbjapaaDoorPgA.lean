/- A table of kinds in memory: an object whose one field is a row of numbers; what layer 9's functions that only read do with it. -/
import Derived.Test.YtpnhanalnbjapaaDoorPgM
import Derived.Test.YtpnhanalnbjapaaDoorCsZ
import Derived.Test.YtpnhanalnbjapaaDoorLiA
import Derived.Outline
import Derived.Laws.Cover3
import Derived.Lib.SliceRun
namespace Go.Proofs.YtpnhanalnbjapaaDoor.pg
open Go.ChangeShapes Go.WideShapes Go.ChangeAt Go.RowKit gen calls cls li
set_option linter.unusedVariables false

/-- The kinds xs lie in row r, from its head on; the object at g has it. -/
def Tab (w : World) (g r : Nat) (xs : List Int) : Prop :=
  ∃ zs : List Value, w.heap[g]? = some (.cells #[.slice (some ⟨r, 0, none⟩) xs.length (xs.length + zs.length)] 91 (0, 0)) ∧ w.heap[r]? = some (.cells (ints xs ++ zs).toArray 3 (0, 0)) ∧ xs.length ≤ 64 ∧ xs.length + zs.length ≤ maxLen
theorem lt_of_heap {w : World} {g : Nat} {o : Obj} (h : w.heap[g]? = some o) : g < w.heap.size := (Array.getElem?_eq_some_iff.1 h).1
section
variable {w : World} {g r : Nat} {xs : List Int}
theorem Tab.le (h : Tab w g r xs) : xs.length ≤ 64 := by obtain ⟨zs, _, _, h3, _⟩ := h; exact h3
theorem Tab.lt (h : Tab w g r xs) : g < w.heap.size ∧ r < w.heap.size := by obtain ⟨zs, h1, h2, _⟩ := h; exact ⟨lt_of_heap h1, lt_of_heap h2⟩
theorem Tab.ne (h : Tab w g r xs) : g ≠ r := by
  obtain ⟨zs, h1, h2, _⟩ := h
  rintro rfl
  have := h1.symm.trans h2
  simp at this
theorem Tab.kept {w' : World} {row : Option Nat} (h : Tab w g r xs) (hg : w.grownBy w' row) (h1 : some g ≠ row) (h2 : some r ≠ row) : Tab w' g r xs := by
  have hl := h.lt
  obtain ⟨zs, a, b, c⟩ := h
  exact ⟨zs, (hg.block g hl.1 h1).trans a, (hg.block r hl.2 h2).trans b, c⟩
theorem Tab.drewN (h : Tab w g r xs) (n : Nat) : Tab (w.drewN n) g r xs := h
theorem Tab.field (h : Tab w g r xs) : ∃ c, xs.length ≤ c ∧ c ≤ maxLen ∧ w.cell? ⟨g, 0, none⟩ = some (.slice (some ⟨r, 0, none⟩) xs.length c) := by
  obtain ⟨zs, a, b, c, d⟩ := h
  exact ⟨_, by omega, d, by rw [cell_of_row w g 0 _ _ _ a]; rfl⟩
theorem Tab.word (h : Tab w g r xs) {k : Nat} (hk : k < xs.length) : w.cell? ⟨r, k, none⟩ = some (.int .i64 (xs.getD k 0)) := by
  obtain ⟨zs, a, b, c, d⟩ := h
  rw [cell_of_row w r k _ _ _ b]
  simp [ints, hk, List.getElem?_append]
theorem Tab.free (h : Tab w g r xs) (k : Nat) : w.frozen? ⟨r, k, none⟩ = false := by
  obtain ⟨zs, a, b, _⟩ := h
  exact frozen_of_row w r k _ _ b
/-- One kind written. -/
theorem Tab.set (h : Tab w g r xs) {k : Nat} (hk : k < xs.length) (v : Int) : Tab (w.setCell ⟨r, k, none⟩ (.int .i64 v)) g r (xs.set k v) ∧ w.grownBy (w.setCell ⟨r, k, none⟩ (.int .i64 v)) (some r) := by
  have hne := h.ne
  obtain ⟨zs, a, b, c, d⟩ := h
  refine ⟨⟨zs, ?_, ?_, by simpa using c, by simpa using d⟩, ⟨rfl, rfl, rfl, by simp, fun i _ hi => heap_setCell_other w ⟨r, k, none⟩ i _ (fun e => hi (by simp [e]))⟩⟩
  · rw [heap_setCell_other w ⟨r, k, none⟩ g _ hne, a]; simp
  · rw [heap_setCell_same w r k _ _ _ b]
    simp [ints, List.map_set, hk]
theorem Tab.rd (h : Tab w g r xs) {c : Nat} : Rd w w.heap.size (some ⟨r, 0, none⟩) xs.length c xs := by
  refine ⟨rfl, fun e => (by cases e), fun ad e i hi => ?_⟩
  injection e with e
  subst e
  refine ⟨h.lt.2, ?_⟩
  rw [Addr.add_lit, Nat.zero_add]
  exact h.word hi
end
/-- A pointer to nothing that New made: nil, or an object with no row. -/
def Nobody (w : World) (p : Option Addr) : Prop := p = none ∨ ∃ g, p = some ⟨g, 0, none⟩ ∧ w.cell? ⟨g, 0, none⟩ = some (.slice none 0 0)

/-! ### The small functions -/
theorem pages_some (g : Nat) (v : Value) (w : World) (h : w.cell? ⟨g, 0, none⟩ = some v) :
    Calls Tryd.prog 81 #[.pointer (some ⟨g, 0, none⟩)] w fun e w' => e = .returned v ∧ w = w' := by
  go_enter Tryd.func81, Tryd.ntmps81
  go_wp2
  go_ret
  exact ⟨rfl, rfl⟩
theorem pages_nil (w : World) : Calls Tryd.prog 81 #[.pointer none] w fun e w' => e = .returned (.slice none 0 0) ∧ w = w' := by
  go_enter Tryd.func81, Tryd.ntmps81
  go_wp2
  go_ret
  exact ⟨rfl, rfl⟩
theorem pages_nobody {p : Option Addr} {w : World} (h : Nobody w p) : Calls Tryd.prog 81 #[.pointer p] w fun e w' => e = .returned (.slice none 0 0) ∧ w = w' := by
  rcases h with rfl | ⟨g, rfl, h⟩
  · exact pages_nil w
  · exact pages_some g _ w h
theorem Kind_any {g r : Nat} {xs : List Int} {w : World} (h : Tab w g r xs) (p : Int) :
    Calls Tryd.prog 43 #[.pointer (some ⟨g, 0, none⟩), .int .i64 p] w fun e w' => e = .returned (.int .i64 (kind xs p)) ∧ w = w' := by
  have hl := h.le
  obtain ⟨c, hc1, hc2, f⟩ := h.field
  have HP := Lib.hid (pages_some g _ w f)
  by_cases hp : 0 ≤ p ∧ p < xs.length
  · obtain ⟨k, rfl⟩ : ∃ k : Nat, p = k := ⟨p.toNat, by omega⟩
    have hk : k < xs.length := by omega
    have d := h.word hk
    rw [kind_in hk]
    have l1 : ¬ ((k : Int) < 0) := by omega
    have l2 : ¬ ((xs.length : Int) ≤ (k : Int)) := by omega
    generalize xs.length = n at *
    generalize xs.getD k 0 = x at *
    clear h hp f
    go_enter Tryd.func43, Tryd.ntmps43
    go_wp2_with (go_at_call 81; (with_reducible refine HP.out.mono ?_); rintro e w' ⟨rfl, rfl⟩)
    go_ret
    exact ⟨rfl, rfl⟩
  · rw [kind_out hp]
    generalize xs.length = n at *
    by_cases h1 : p < 0
    · clear h hp f
      go_enter Tryd.func43, Tryd.ntmps43
      go_wp2_with (go_at_call 81; (with_reducible refine HP.out.mono ?_); rintro e w' ⟨rfl, rfl⟩)
      go_ret
      exact ⟨rfl, rfl⟩
    · have h2 : (n : Int) ≤ p := by omega
      clear h hp f
      go_enter Tryd.func43, Tryd.ntmps43
      go_wp2_with (go_at_call 81; (with_reducible refine HP.out.mono ?_); rintro e w' ⟨rfl, rfl⟩)
      go_ret
      exact ⟨rfl, rfl⟩
theorem Kind_nobody {q : Option Addr} {w : World} (h : Nobody w q) (p : Int) :
    Calls Tryd.prog 43 #[.pointer q, .int .i64 p] w fun e w' => e = .returned (.int .i64 (-1)) ∧ w = w' := by
  have HP := Lib.hid (pages_nobody h)
  clear h
  by_cases h1 : p < 0
  · go_enter Tryd.func43, Tryd.ntmps43
    go_wp2_with (go_at_call 81; (with_reducible refine HP.out.mono ?_); rintro e w' ⟨rfl, rfl⟩)
    go_ret
    exact ⟨rfl, rfl⟩
  · have h2 : 0 ≤ p := by omega
    go_enter Tryd.func43, Tryd.ntmps43
    go_wp2_with (go_at_call 81; (with_reducible refine HP.out.mono ?_); rintro e w' ⟨rfl, rfl⟩)
    go_ret
    exact ⟨rfl, rfl⟩
theorem cl_pos {k : Int} (h : 1 ≤ k ∧ k ≤ 4) : 0 < cl k := by
  have : k = 1 ∨ k = 2 ∨ k = 3 ∨ k = 4 := by omega
  rcases this with rfl | rfl | rfl | rfl <;> decide
theorem sz_pos {k : Int} (h : 1 ≤ k ∧ k ≤ 4) : 0 < sz k := by
  have : k = 1 ∨ k = 2 ∨ k = 3 ∨ k = 4 := by omega
  rcases this with rfl | rfl | rfl | rfl <;> decide
theorem small_any (k : Int) (w : World) (h : fits k = true) :
    Calls Tryd.prog 76 #[.int .i64 k] w fun e w' => e = .returned (.bool (decide (1 ≤ k ∧ k ≤ 4))) ∧ w = w' := by
  have H := Lib.hid h
  clear h
  by_cases hk : 1 ≤ k ∧ k ≤ 4
  · have h1 := cl_pos hk
    rw [decide_eq_true hk]
    clear hk
    go_enter Tryd.func76, Tryd.ntmps76
    go_wp2_with (go_at_call 68; (with_reducible refine (cells_any _ _ H.out).mono ?_); rintro e w' ⟨rfl, rfl⟩)
    go_ret
    exact ⟨rfl, rfl⟩
  · have h1 : cl k = 0 := cl_no (by omega)
    rw [decide_eq_false hk]
    clear hk
    go_enter Tryd.func76, Tryd.ntmps76
    go_wp2_with (go_at_call 68; (with_reducible refine (cells_any _ _ H.out).mono ?_); rintro e w' ⟨rfl, rfl⟩; rw [h1])
    go_ret
    exact ⟨rfl, rfl⟩
theorem small_yes {k : Int} (w : World) (h : 1 ≤ k ∧ k ≤ 4) : Calls Tryd.prog 76 #[.int .i64 k] w fun e w' => e = .returned (.bool true) ∧ w = w' := by
  have := small_any k w (by simp [fits]; omega)
  rwa [decide_eq_true h] at this
theorem small_no {k : Int} (w : World) (hf : fits k = true) (h : ¬ (1 ≤ k ∧ k ≤ 4)) : Calls Tryd.prog 76 #[.int .i64 k] w fun e w' => e = .returned (.bool false) ∧ w = w' := by
  have := small_any k w hf
  rwa [decide_eq_false h] at this

theorem Size_any {g r : Nat} {xs : List Int} {w : World} (h : Tab w g r xs) (hx : Ks xs) (p : Int) :
    Calls Tryd.prog 85 #[.pointer (some ⟨g, 0, none⟩), .int .i64 p] w fun e w' => e = .returned (.int .i64 (siz xs p)) ∧ w = w' := by
  have HK := Lib.hid (fun q => Kind_any h q)
  have hw := kind_wide hx p
  by_cases h1 : 1 ≤ kind xs p ∧ kind xs p ≤ 4
  · rw [siz_small h1]
    have H1 := Lib.hid (fun w => small_yes w h1)
    clear hw h1 h hx
    go_enter Tryd.func85, Tryd.ntmps85
    go_wp2_with (first
      | (go_at_call 43; (with_reducible refine (HK.out _).mono ?_); rintro e w' ⟨rfl, rfl⟩)
      | (go_at_call 76; (with_reducible refine (H1.out _).mono ?_); rintro e w' ⟨rfl, rfl⟩))
    go_ret
    exact ⟨rfl, rfl⟩
  have H1 := Lib.hid (fun w => small_no w (by simp [fits]; omega) h1)
  by_cases h5 : kind xs p = 5
  · have hin := kind_there (xs := xs) (p := p) (by rw [h5]; decide)
    obtain ⟨q, rfl⟩ : ∃ q : Nat, p = q := ⟨p.toNat, by omega⟩
    have hl := h.le
    have l0 : q < 64 := by omega
    rw [siz_large h5]
    have HL := Lib.hid (fun j => lead_eq (k := 6) (xs := xs) (n := j) (p := q + 1) (by decide))
    have HF := Lib.hid (fun j (hj : j ≤ lead 6 (xs.drop (q + 1))) => show j ≤ 64 by have := lead_fits (k := 6) (xs := xs) (q + 1) (by omega); omega)
    have HI := Lib.hid (fun j (hj : kind xs ((q + 1 + j : Nat) : Int) ≠ -1) => show q + 1 + j < 64 by have := kind_there hj; omega)
    rw [h5] at H1
    have HG := Lib.hid h5
    generalize lead 6 (xs.drop (q + 1)) = m at *
    clear hw h1 h hx h5 hin hl
    go_enter Tryd.func85, Tryd.ntmps85
    go_wp2_with (first
      | (go_at_call 43; (with_reducible refine (HK.out _).mono ?_); rintro e w' ⟨rfl, rfl⟩; rw [HG.out])
      | (go_at_call 76; (with_reducible refine (H1.out _).mono ?_); rintro e w' ⟨rfl, rfl⟩))
    go_loopw [6] (fun n wr => ∃ j : Nat, j ≤ 64 ∧ n = .int .i64 ((j + 1 : Nat) : Int) ∧ (∀ i, i < j → kind xs ((q + 1 + i : Nat) : Int) = 6) ∧ wr = w) (fun n _ => 66 - (intOf n).toNat)
    case atStart => exact ⟨0, by omega, rfl, fun i hi => by omega, rfl⟩
    case round =>
      obtain ⟨j, hj, rfl, hi, hw⟩ := hrel
      subst hw
      have HJ := Lib.hid hi
      clear hi
      have e1 : ((q + 1 + j : Nat) : Int) = (q : Int) + ((j : Int) + 1) := by omega
      by_cases h6 : kind xs ((q : Int) + ((j : Int) + 1)) = 6
      · have hj2 : q + 1 + j < 64 := HI.out j (by rw [e1, h6]; decide)
        have H6 := Lib.hid h6
        have E1 := Lib.hid e1
        clear h6 e1
        go_wp2_with (go_at_call 43; (with_reducible refine (HK.out _).mono ?_); rintro e w' ⟨rfl, rfl⟩; rw [H6.out])
        go_roundw
        case rel => exact ⟨j + 1, by omega, by go_num, fun i hi => by
          rcases Nat.lt_or_ge i j with c | c
          · exact HJ.out i c
          · obtain rfl : i = j := by omega
            rw [E1.out]
            exact H6.out, trivial⟩
        case measure => simp [intOf]; omega
      · have b6 : (kind xs ((q : Int) + ((j : Int) + 1)) == 6) = false := by simpa using h6
        have HE := Lib.hid (HL.out j HJ.out (by rw [e1]; exact h6))
        clear h6 e1
        go_wp2_with (go_at_call 43; (with_reducible refine (HK.out _).mono ?_); rintro e w' ⟨rfl, rfl⟩)
        go_ret
        exact ⟨by rw [HE.out]; exact ret1 (by omega), rfl⟩
  · have b5 : (kind xs p != 5) = true := by simpa using h5
    rw [siz_none h1 h5]
    clear hw h1 h hx h5
    go_enter Tryd.func85, Tryd.ntmps85
    go_wp2_with (first
      | (go_at_call 43; (with_reducible refine (HK.out _).mono ?_); rintro e w' ⟨rfl, rfl⟩)
      | (go_at_call 76; (with_reducible refine (H1.out _).mono ?_); rintro e w' ⟨rfl, rfl⟩))
    go_ret
    exact ⟨rfl, rfl⟩
end Go.Proofs.YtpnhanalnbjapaaDoor.pg
