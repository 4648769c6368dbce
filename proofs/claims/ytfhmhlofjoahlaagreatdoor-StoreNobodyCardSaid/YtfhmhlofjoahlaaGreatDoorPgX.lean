/- Joined: PgA, PgB. -/
import Derived.Test.YtfhmhlofjoahlaaGreatDoorPgM
import Derived.Test.YtfhmhlofjoahlaaGreatDoorCsQ
import Derived.Test.YtfhmhlofjoahlaaGreatDoorLiA
import Derived.Outline
import Derived.Laws.Cover3
import Derived.Lib.SliceRun
/- A table of kinds in memory: an object whose one field is a row of numbers; what layer 9's functions that only read do with it. -/
namespace Go.Proofs.YtfhmhlofjoahlaaGreatDoor.pg
open Go.ChangeShapes Go.WideShapes Go.ChangeAt Go.RowKit gen calls cls li
set_option linter.unusedVariables false

/-- The kinds xs lie in row r, from its head on; the object at g has it. -/
def Tab (w : World) (g r : Nat) (xs : List Int) : Prop :=
  ∃ zs : List Value, w.heap[g]? = some (.cells #[.slice (some ⟨r, 0, none⟩) xs.length (xs.length + zs.length)] 109 (0, 0)) ∧ w.heap[r]? = some (.cells (ints xs ++ zs).toArray 3 (0, 0)) ∧ xs.length ≤ 64 ∧ xs.length + zs.length ≤ maxLen
theorem lt_of_heap {w : World} {g : Nat} {o : Obj} (h : w.heap[g]? = some o) : g < w.heap.size := (Array.getElem?_eq_some_iff.1 h).1
section
variable {w : World} {g r : Nat} {xs : List Int}
theorem Tab.le (h : Tab w g r xs) : xs.length ≤ 64 := by obtain ⟨zs, _, _, h3, _⟩ := h; exact h3
theorem Tab.lt (h : Tab w g r xs) : g < w.heap.size ∧ r < w.heap.size := by obtain ⟨zs, h1, h2, _⟩ := h; exact ⟨lt_of_heap h1, lt_of_heap h2⟩
theorem Tab.ne (h : Tab w g r xs) : g ≠ r := by
  obtain ⟨zs, h1, h2, _⟩ := h
  rintro rfl
  have := h1.symm.trans h2
  simp at this
theorem Tab.kept {w' : World} {row : Option Nat} (h : Tab w g r xs) (hg : w.grownBy w' row) (h1 : some g ≠ row) (h2 : some r ≠ row) : Tab w' g r xs := by
  have hl := h.lt
  obtain ⟨zs, a, b, c⟩ := h
  exact ⟨zs, (hg.block g hl.1 h1).trans a, (hg.block r hl.2 h2).trans b, c⟩
theorem Tab.drewN (h : Tab w g r xs) (n : Nat) : Tab (w.drewN n) g r xs := h
theorem Tab.field (h : Tab w g r xs) : ∃ c, xs.length ≤ c ∧ c ≤ maxLen ∧ w.cell? ⟨g, 0, none⟩ = some (.slice (some ⟨r, 0, none⟩) xs.length c) := by
  obtain ⟨zs, a, b, c, d⟩ := h
  exact ⟨_, by omega, d, by rw [cell_of_row w g 0 _ _ _ a]; rfl⟩
theorem Tab.word (h : Tab w g r xs) {k : Nat} (hk : k < xs.length) : w.cell? ⟨r, k, none⟩ = some (.int .i64 (xs.getD k 0)) := by
  obtain ⟨zs, a, b, c, d⟩ := h
  rw [cell_of_row w r k _ _ _ b]
  simp [ints, hk, List.getElem?_append]
theorem Tab.free (h : Tab w g r xs) (k : Nat) : w.frozen? ⟨r, k, none⟩ = false := by
  obtain ⟨zs, a, b, _⟩ := h
  exact frozen_of_row w r k _ _ b
/-- One kind written. -/
theorem Tab.set (h : Tab w g r xs) {k : Nat} (hk : k < xs.length) (v : Int) : Tab (w.setCell ⟨r, k, none⟩ (.int .i64 v)) g r (xs.set k v) ∧ w.grownBy (w.setCell ⟨r, k, none⟩ (.int .i64 v)) (some r) := by
  have hne := h.ne
  obtain ⟨zs, a, b, c, d⟩ := h
  refine ⟨⟨zs, ?_, ?_, by simpa using c, by simpa using d⟩, ⟨rfl, rfl, rfl, by simp, fun i _ hi => heap_setCell_other w ⟨r, k, none⟩ i _ (fun e => hi (by simp [e]))⟩⟩
  · rw [heap_setCell_other w ⟨r, k, none⟩ g _ hne, a]; simp
  · rw [heap_setCell_same w r k _ _ _ b]
    simp [ints, List.map_set, hk]
theorem Tab.rd (h : Tab w g r xs) {c : Nat} : Rd w w.heap.size (some ⟨r, 0, none⟩) xs.length c xs := by
  refine ⟨rfl, fun e => (by cases e), fun ad e i hi => ?_⟩
  injection e with e
  subst e
  refine ⟨h.lt.2, ?_⟩
  rw [Addr.add_lit, Nat.zero_add]
  exact h.word hi
end
/-- A pointer to nothing that New made: nil, or an object with no row. -/
def Nobody (w : World) (p : Option Addr) : Prop := p = none ∨ ∃ g, p = some ⟨g, 0, none⟩ ∧ w.cell? ⟨g, 0, none⟩ = some (.slice none 0 0)

/-! ### The small functions -/
theorem pages_some (g : Nat) (v : Value) (w : World) (h : w.cell? ⟨g, 0, none⟩ = some v) :
    Calls Tryz.prog 85 #[.pointer (some ⟨g, 0, none⟩)] w fun e w' => e = .returned v ∧ w = w' := by
  go_enter Tryz.func85, Tryz.ntmps85
  go_wp2
  go_ret
  exact ⟨rfl, rfl⟩
theorem pages_nil (w : World) : Calls Tryz.prog 85 #[.pointer none] w fun e w' => e = .returned (.slice none 0 0) ∧ w = w' := by
  go_enter Tryz.func85, Tryz.ntmps85
  go_wp2
  go_ret
  exact ⟨rfl, rfl⟩
theorem pages_nobody {p : Option Addr} {w : World} (h : Nobody w p) : Calls Tryz.prog 85 #[.pointer p] w fun e w' => e = .returned (.slice none 0 0) ∧ w = w' := by
  rcases h with rfl | ⟨g, rfl, h⟩
  · exact pages_nil w
  · exact pages_some g _ w h
theorem Kind_any {g r : Nat} {xs : List Int} {w : World} (h : Tab w g r xs) (p : Int) :
    Calls Tryz.prog 56 #[.pointer (some ⟨g, 0, none⟩), .int .i64 p] w fun e w' => e = .returned (.int .i64 (kind xs p)) ∧ w = w' := by
  have hl := h.le
  obtain ⟨c, hc1, hc2, f⟩ := h.field
  have HP := Lib.hid (pages_some g _ w f)
  by_cases hp : 0 ≤ p ∧ p < xs.length
  · obtain ⟨k, rfl⟩ : ∃ k : Nat, p = k := ⟨p.toNat, by omega⟩
    have hk : k < xs.length := by omega
    have d := h.word hk
    rw [kind_in hk]
    have l1 : ¬ ((k : Int) < 0) := by omega
    have l2 : ¬ ((xs.length : Int) ≤ (k : Int)) := by omega
    generalize xs.length = n at *
    generalize xs.getD k 0 = x at *
    clear h hp f
    go_enter Tryz.func56, Tryz.ntmps56
    go_wp2_with (go_at_call 85; (with_reducible refine HP.out.mono ?_); rintro e w' ⟨rfl, rfl⟩)
    go_ret
    exact ⟨rfl, rfl⟩
  · rw [kind_out hp]
    generalize xs.length = n at *
    by_cases h1 : p < 0
    · clear h hp f
      go_enter Tryz.func56, Tryz.ntmps56
      go_wp2_with (go_at_call 85; (with_reducible refine HP.out.mono ?_); rintro e w' ⟨rfl, rfl⟩)
      go_ret
      exact ⟨rfl, rfl⟩
    · have h2 : (n : Int) ≤ p := by omega
      clear h hp f
      go_enter Tryz.func56, Tryz.ntmps56
      go_wp2_with (go_at_call 85; (with_reducible refine HP.out.mono ?_); rintro e w' ⟨rfl, rfl⟩)
      go_ret
      exact ⟨rfl, rfl⟩
theorem Kind_nobody {q : Option Addr} {w : World} (h : Nobody w q) (p : Int) :
    Calls Tryz.prog 56 #[.pointer q, .int .i64 p] w fun e w' => e = .returned (.int .i64 (-1)) ∧ w = w' := by
  have HP := Lib.hid (pages_nobody h)
  clear h
  by_cases h1 : p < 0
  · go_enter Tryz.func56, Tryz.ntmps56
    go_wp2_with (go_at_call 85; (with_reducible refine HP.out.mono ?_); rintro e w' ⟨rfl, rfl⟩)
    go_ret
    exact ⟨rfl, rfl⟩
  · have h2 : 0 ≤ p := by omega
    go_enter Tryz.func56, Tryz.ntmps56
    go_wp2_with (go_at_call 85; (with_reducible refine HP.out.mono ?_); rintro e w' ⟨rfl, rfl⟩)
    go_ret
    exact ⟨rfl, rfl⟩
theorem cl_pos {k : Int} (h : 1 ≤ k ∧ k ≤ 4) : 0 < cl k := by
  have : k = 1 ∨ k = 2 ∨ k = 3 ∨ k = 4 := by omega
  rcases this with rfl | rfl | rfl | rfl <;> decide
theorem sz_pos {k : Int} (h : 1 ≤ k ∧ k ≤ 4) : 0 < sz k := by
  have : k = 1 ∨ k = 2 ∨ k = 3 ∨ k = 4 := by omega
  rcases this with rfl | rfl | rfl | rfl <;> decide
theorem small_any (k : Int) (w : World) (h : fits k = true) :
    Calls Tryz.prog 107 #[.int .i64 k] w fun e w' => e = .returned (.bool (decide (1 ≤ k ∧ k ≤ 4))) ∧ w = w' := by
  have H := Lib.hid h
  clear h
  by_cases hk : 1 ≤ k ∧ k ≤ 4
  · have h1 := cl_pos hk
    rw [decide_eq_true hk]
    clear hk
    go_enter Tryz.func107, Tryz.ntmps107
    go_wp2_with (go_at_call 48; (with_reducible refine (cells_any _ _ H.out).mono ?_); rintro e w' ⟨rfl, rfl⟩)
    go_ret
    exact ⟨rfl, rfl⟩
  · have h1 : cl k = 0 := cl_no (by omega)
    rw [decide_eq_false hk]
    clear hk
    go_enter Tryz.func107, Tryz.ntmps107
    go_wp2_with (go_at_call 48; (with_reducible refine (cells_any _ _ H.out).mono ?_); rintro e w' ⟨rfl, rfl⟩; rw [h1])
    go_ret
    exact ⟨rfl, rfl⟩
theorem small_yes {k : Int} (w : World) (h : 1 ≤ k ∧ k ≤ 4) : Calls Tryz.prog 107 #[.int .i64 k] w fun e w' => e = .returned (.bool true) ∧ w = w' := by
  have := small_any k w (by simp [fits]; omega)
  rwa [decide_eq_true h] at this
theorem small_no {k : Int} (w : World) (hf : fits k = true) (h : ¬ (1 ≤ k ∧ k ≤ 4)) : Calls Tryz.prog 107 #[.int .i64 k] w fun e w' => e = .returned (.bool false) ∧ w = w' := by
  have := small_any k w hf
  rwa [decide_eq_false h] at this

theorem Size_any {g r : Nat} {xs : List Int} {w : World} (h : Tab w g r xs) (hx : Ks xs) (p : Int) :
    Calls Tryz.prog 88 #[.pointer (some ⟨g, 0, none⟩), .int .i64 p] w fun e w' => e = .returned (.int .i64 (siz xs p)) ∧ w = w' := by
  have HK := Lib.hid (fun q => Kind_any h q)
  have hw := kind_wide hx p
  by_cases h1 : 1 ≤ kind xs p ∧ kind xs p ≤ 4
  · rw [siz_small h1]
    have H1 := Lib.hid (fun w => small_yes w h1)
    clear hw h1 h hx
    go_enter Tryz.func88, Tryz.ntmps88
    go_wp2_with (first
      | (go_at_call 56; (with_reducible refine (HK.out _).mono ?_); rintro e w' ⟨rfl, rfl⟩)
      | (go_at_call 107; (with_reducible refine (H1.out _).mono ?_); rintro e w' ⟨rfl, rfl⟩))
    go_ret
    exact ⟨rfl, rfl⟩
  have H1 := Lib.hid (fun w => small_no w (by simp [fits]; omega) h1)
  by_cases h5 : kind xs p = 5
  · have hin := kind_there (xs := xs) (p := p) (by rw [h5]; decide)
    obtain ⟨q, rfl⟩ : ∃ q : Nat, p = q := ⟨p.toNat, by omega⟩
    have hl := h.le
    have l0 : q < 64 := by omega
    rw [siz_large h5]
    have HL := Lib.hid (fun j => lead_eq (k := 6) (xs := xs) (n := j) (p := q + 1) (by decide))
    have HF := Lib.hid (fun j (hj : j ≤ lead 6 (xs.drop (q + 1))) => show j ≤ 64 by have := lead_fits (k := 6) (xs := xs) (q + 1) (by omega); omega)
    have HI := Lib.hid (fun j (hj : kind xs ((q + 1 + j : Nat) : Int) ≠ -1) => show q + 1 + j < 64 by have := kind_there hj; omega)
    rw [h5] at H1
    have HG := Lib.hid h5
    generalize lead 6 (xs.drop (q + 1)) = m at *
    clear hw h1 h hx h5 hin hl
    go_enter Tryz.func88, Tryz.ntmps88
    go_wp2_with (first
      | (go_at_call 56; (with_reducible refine (HK.out _).mono ?_); rintro e w' ⟨rfl, rfl⟩; rw [HG.out])
      | (go_at_call 107; (with_reducible refine (H1.out _).mono ?_); rintro e w' ⟨rfl, rfl⟩))
    go_loopw [6] (fun n wr => ∃ j : Nat, j ≤ 64 ∧ n = .int .i64 ((j + 1 : Nat) : Int) ∧ (∀ i, i < j → kind xs ((q + 1 + i : Nat) : Int) = 6) ∧ wr = w) (fun n _ => 66 - (intOf n).toNat)
    case atStart => exact ⟨0, by omega, rfl, fun i hi => by omega, rfl⟩
    case round =>
      obtain ⟨j, hj, rfl, hi, hw⟩ := hrel
      subst hw
      have HJ := Lib.hid hi
      clear hi
      have e1 : ((q + 1 + j : Nat) : Int) = (q : Int) + ((j : Int) + 1) := by omega
      by_cases h6 : kind xs ((q : Int) + ((j : Int) + 1)) = 6
      · have hj2 : q + 1 + j < 64 := HI.out j (by rw [e1, h6]; decide)
        have H6 := Lib.hid h6
        have E1 := Lib.hid e1
        clear h6 e1
        go_wp2_with (go_at_call 56; (with_reducible refine (HK.out _).mono ?_); rintro e w' ⟨rfl, rfl⟩; rw [H6.out])
        go_roundw
        case rel => exact ⟨j + 1, by omega, by go_num, fun i hi => by
          rcases Nat.lt_or_ge i j with c | c
          · exact HJ.out i c
          · obtain rfl : i = j := by omega
            rw [E1.out]
            exact H6.out, trivial⟩
        case measure => simp [intOf]; omega
      · have b6 : (kind xs ((q : Int) + ((j : Int) + 1)) == 6) = false := by simpa using h6
        have HE := Lib.hid (HL.out j HJ.out (by rw [e1]; exact h6))
        clear h6 e1
        go_wp2_with (go_at_call 56; (with_reducible refine (HK.out _).mono ?_); rintro e w' ⟨rfl, rfl⟩)
        go_ret
        exact ⟨by rw [HE.out]; exact ret1 (by omega), rfl⟩
  · have b5 : (kind xs p != 5) = true := by simpa using h5
    rw [siz_none h1 h5]
    clear hw h1 h hx h5
    go_enter Tryz.func88, Tryz.ntmps88
    go_wp2_with (first
      | (go_at_call 56; (with_reducible refine (HK.out _).mono ?_); rintro e w' ⟨rfl, rfl⟩)
      | (go_at_call 107; (with_reducible refine (H1.out _).mono ?_); rintro e w' ⟨rfl, rfl⟩))
    go_ret
    exact ⟨rfl, rfl⟩
end Go.Proofs.YtfhmhlofjoahlaaGreatDoor.pg

/- What layer 9's First, All, Clone, New and Free do with a table; and what all of them do with one that nobody made. -/
namespace Go.Proofs.YtfhmhlofjoahlaaGreatDoor.pg
open Go.ChangeShapes Go.WideShapes Go.ChangeAt Go.RowKit gen calls cls li
set_option linter.unusedVariables false

theorem First_any {g r : Nat} {xs : List Int} {w : World} (h : Tab w g r xs) (hx : Ks xs) (p : Int) :
    Calls Tryz.prog 92 #[.pointer (some ⟨g, 0, none⟩), .int .i64 p] w fun e w' => e = .returned (.int .i64 (frs xs p)) ∧ w = w' := by
  have HK := Lib.hid (fun q => Kind_any h q)
  have HS := Lib.hid (fun q => Size_any h hx q)
  have HT := Lib.hid (fun q (hq : kind xs q = 6) => show 0 ≤ q ∧ q < 64 by have := kind_there (xs := xs) (p := q) (by rw [hq]; decide); have := h.le; omega)
  clear h hx
  go_enter Tryz.func92, Tryz.ntmps92
  go_wp2
  go_loopw [1] (fun n wr => ∃ q : Int, n = .int .i64 q ∧ lowI xs q = lowI xs p ∧ wr = w) (fun n _ => (intOf n + 1).toNat)
  case atStart => exact ⟨p, rfl, rfl, rfl⟩
  case round =>
    obtain ⟨q, rfl, hq, hw⟩ := hrel
    subst hw
    have HQ := Lib.hid hq
    clear hq
    by_cases h6 : kind xs q = 6
    · obtain ⟨q0, q1⟩ := HT.out q h6
      have HL := Lib.hid (lowI_step h6)
      have H6 := Lib.hid h6
      clear h6
      go_wp2_with (go_at_call 56; (with_reducible refine (HK.out _).mono ?_); rintro e w' ⟨rfl, rfl⟩; rw [H6.out])
      go_roundw
      case rel => exact ⟨q - 1, by go_num, by rw [← HL.out]; exact HQ.out, trivial⟩
      case measure => simp [intOf]; omega
    · have b6 : (kind xs q == 6) = false := by simpa using h6
      have HE := Lib.hid (show q = lowI xs p by rw [← HQ.out, lowI_stop h6])
      clear h6
      by_cases hz : siz xs q = 0
      · have HF := Lib.hid (show frs xs p = -1 by unfold frs; rw [← HE.out, if_pos hz])
        have HZ := Lib.hid hz
        clear hz
        go_wp2_with (first
          | (go_at_call 56; (with_reducible refine (HK.out _).mono ?_); rintro e w' ⟨rfl, rfl⟩)
          | (go_at_call 88; (with_reducible refine (HS.out _).mono ?_); rintro e w' ⟨rfl, rfl⟩; rw [HZ.out]))
        go_ret
        exact ⟨by rw [HF.out]; rfl, rfl⟩
      · have HF := Lib.hid (show frs xs p = q by unfold frs; rw [← HE.out, if_neg hz])
        have bz : (siz xs q == 0) = false := by simpa using hz
        clear hz
        go_wp2_with (first
          | (go_at_call 56; (with_reducible refine (HK.out _).mono ?_); rintro e w' ⟨rfl, rfl⟩)
          | (go_at_call 88; (with_reducible refine (HS.out _).mono ?_); rintro e w' ⟨rfl, rfl⟩))
        go_ret
        exact ⟨by rw [HF.out]; rfl, rfl⟩

/-! ### Those that make memory -/
/-- The nearest number that may be. -/
def near (n a b : Int) : Int := if n < a then a else if b < n then b else n
theorem near_nat (n : Int) (b : Nat) : ∃ k : Nat, near n 0 b = k ∧ k ≤ b := by
  refine ⟨(near n 0 b).toNat, ?_, ?_⟩ <;> (unfold near; repeat' split) <;> omega
theorem Clamp_any (n a b : Int) (w : World) : Calls Tryz.prog 42 #[.int .i64 n, .int .i64 a, .int .i64 b] w fun e w' => e = .returned (.int .i64 (near n a b)) ∧ w = w' := by
  by_cases h : n < a
  · go_enter Tryz.func42, Tryz.ntmps42
    go_wp2
    go_ret
    exact ⟨by simp [near, h], rfl⟩
  by_cases h2 : b < n
  all_goals
    go_enter Tryz.func42, Tryz.ntmps42
    go_wp2
    go_ret
    exact ⟨ret1 (by unfold near; repeat' split
                    all_goals omega), rfl⟩
theorem make_ints (n : Nat) (hn : n ≤ 64) (w : World) :
    (Instr.makeSlice 41 (.int .i64 (n : Int)) (.int .i64 (n : Int))).run Tryz.prog w = .ok (.slice (some ⟨w.heap.size, 0, none⟩) n n) (w.alloc (.cells (ints (List.replicate n 0)).toArray 3)) := by
  obtain ⟨i0, hi, hz0, hz1, hz2⟩ := info_parts info_int
  have h := run_make (P := Tryz.prog) w 41 3 i0 _ Tryz.underlying41 hi hz0 .i64 .i64 n n (by omega) (Int.le_refl _) (by rw [hz2]; omega) (by omega)
  rw [h]
  simp only [Int.toNat_natCast, hz1, Nat.mul_one]
  have e : madeCells (Value.cells (.int .i64 0)) n = (ints (List.replicate n 0)).toArray := by
    apply Array.ext'
    rw [show Value.cells (.int .i64 0) = #[.int .i64 0] from rfl, toList_madeCells_one]
    simp [ints]
  rw [e]
/-- What New answers: a new object over a new row. -/
def NewAns (xs : List Int) (w : World) (e : Ending) (w' : World) : Prop := ∃ g r, e = .returned (.pointer (some ⟨g, 0, none⟩)) ∧ Tab w' g r xs ∧ w.heap.size ≤ g ∧ w.heap.size ≤ r ∧ w.grownBy w' none
theorem New_any (n : Int) (k : Nat) (hk : near n 0 64 = k) (w : World) :
    Calls Tryz.prog 70 #[.int .i64 n] w (NewAns (List.replicate k 0) w) := by
  have h2 : k ≤ 64 := by unfold near at hk; repeat' split at hk
                         all_goals omega
  have HK := Lib.hid hk
  have mk := make_ints k h2
  clear hk
  obtain ⟨cs, hcs⟩ : ∃ cs, cs = (ints (List.replicate k 0)).toArray := ⟨_, rfl⟩
  rw [← hcs] at mk
  have HC := Lib.hid hcs
  clear hcs
  go_enter Tryz.func70, Tryz.ntmps70
  go_wp2_with (go_at_call 42; (with_reducible refine (Clamp_any _ _ _ _).mono ?_); rintro e w' ⟨rfl, rfl⟩; rw [HK.out])
  go_ret
  have hs : (w.alloc (.cells cs 3)).heap.size = w.heap.size + 1 := by simp
  refine ⟨_, w.heap.size, rfl, ⟨[], ?_, ?_, by simpa using h2, by simp [maxLen]; omega⟩, by omega, Nat.le_refl _, (World.grownBy_alloc _ _ _).trans (World.grownBy_alloc _ _ _)⟩
  · rw [← hs, heap_alloc_new]
    simp
  · rw [Below.heap_alloc _ _ _ (by omega), heap_alloc_new, HC.out, List.append_nil]
theorem eql_nil : ∀ (w : World) (a : Option Addr) (n c : Nat), (binOp .eql 41 (.slice a n c) (.slice none 0 0)).run Tryz.prog w = .ok (.bool a.isNone) w := fun w a n c => Lib.run_eql_slice_nil w _ _ a n c 0 0 Tryz.underlying41
/-- A list that was made, not nil. -/
def SomeAns (xs : List Int) (w : World) (e : Ending) (w' : World) : Prop := ∃ g zs, e = .returned (.slice (some ⟨g, 0, none⟩) xs.length (xs.length + zs.length)) ∧ w'.heap[g]? = some (.cells (ints xs ++ zs).toArray 3 (0, 0)) ∧ w.heap.size ≤ g ∧ xs.length + zs.length ≤ maxLen ∧ w.grownBy w' none
theorem SomeAns.list {xs : List Int} {w w' : World} {e : Ending} (h : SomeAns xs w e w') : ListAns xs w e w' := by
  obtain ⟨g, zs, rfl, h1, h2, h3, h4⟩ := h
  refine ⟨_, _, rfl, ⟨by simp [ints], .inr ⟨g, _, _, rfl, h2, h1, by omega, h3, by simp [ints], ?_⟩⟩, h4⟩
  simp [ints]
theorem own_some {w : World} {base : Nat} {g c : Nat} {xs : List Int} (h : w.ownsRow base 3 1 (.slice (some ⟨g, 0, none⟩) xs.length c) xs.length (ints xs)) :
    ∃ zs : List Value, c = xs.length + zs.length ∧ w.heap[g]? = some (.cells (ints xs ++ zs).toArray 3 (0, 0)) ∧ base ≤ g ∧ c ≤ maxLen := by
  rcases h.2 with ⟨e, _⟩ | ⟨g', cap, cur, e, hb, hg, h1, h2, h3, h4⟩
  · injection e with e1 _ _
    cases e1
  · injection e with e1 e2 e3
    injection e1 with e1
    injection e1 with e1
    subst e1 e3
    refine ⟨cur.toList.drop xs.length, by simp; omega, ?_, hb, h2⟩
    rw [hg]
    congr 2
    rw [Nat.mul_one] at h4
    rw [← h4, List.take_append_drop]
/-! ### Of nobody's -/
theorem Size_nobody {q : Option Addr} {w : World} (h : Nobody w q) (p : Int) :
    Calls Tryz.prog 88 #[.pointer q, .int .i64 p] w fun e w' => e = .returned (.int .i64 0) ∧ w = w' := by
  have HK := Lib.hid (fun p => Kind_nobody h p)
  have HS := Lib.hid (fun w => small_no (k := -1) w (by simp [fits]) (by omega))
  clear h
  go_enter Tryz.func88, Tryz.ntmps88
  go_wp2_with (first
    | (go_at_call 56; (with_reducible refine (HK.out _).mono ?_); rintro e w' ⟨rfl, rfl⟩)
    | (go_at_call 107; (with_reducible refine (HS.out _).mono ?_); rintro e w' ⟨rfl, rfl⟩))
  go_ret
  exact ⟨rfl, rfl⟩
theorem First_nobody {q : Option Addr} {w : World} (h : Nobody w q) (p : Int) :
    Calls Tryz.prog 92 #[.pointer q, .int .i64 p] w fun e w' => e = .returned (.int .i64 (-1)) ∧ w = w' := by
  have HK := Lib.hid (fun p => Kind_nobody h p)
  have HS := Lib.hid (fun p => Size_nobody h p)
  clear h
  go_enter Tryz.func92, Tryz.ntmps92
  go_wp2
  go_loopw [1] (fun n wr => n = .int .i64 p ∧ wr = w) (fun n _ => 0)
  case atStart => exact ⟨rfl, rfl⟩
  case round =>
    obtain ⟨rfl, hw⟩ := hrel
    subst hw
    go_wp2_with (first
      | (go_at_call 56; (with_reducible refine (HK.out _).mono ?_); rintro e w' ⟨rfl, rfl⟩)
      | (go_at_call 88; (with_reducible refine (HS.out _).mono ?_); rintro e w' ⟨rfl, rfl⟩))
    go_ret
    exact ⟨rfl, rfl⟩
theorem Free_nobody {q : Option Addr} {w : World} (h : Nobody w q) (p : Int) :
    Calls Tryz.prog 58 #[.pointer q, .int .i64 p] w fun e w' => e = .returned (.int .i64 0) ∧ w = w' := by
  have HS := Lib.hid (fun p => Size_nobody h p)
  clear h
  go_enter Tryz.func58, Tryz.ntmps58
  go_wp2_with (go_at_call 88; (with_reducible refine (HS.out _).mono ?_); rintro e w' ⟨rfl, rfl⟩)
  go_ret
  exact ⟨rfl, rfl⟩

/-! ### Free -/
def over (L : List Value) (o : Nat) : List Value → List Value
  | [] => L
  | v :: vs => over (L.set o v) (o + 1) vs
theorem over_heap {g : Nat} {t : TypeId} : ∀ (vs : List Value) (o : Nat) (w : World) (L : List Value), w.heap[g]? = some (.cells L.toArray t (0, 0)) →
    (w.setCells g o vs).heap[g]? = some (.cells (over L o vs).toArray t (0, 0)) ∧ w.grownBy (w.setCells g o vs) (some g)
  | [], _, w, L, h => ⟨h, grown_refl _ _⟩
  | v :: vs, o, w, L, h => by
    have h1 := heap_setCell_same w g o _ _ v h
    rw [show (L.toArray.setIfInBounds o v) = (L.set o v).toArray by simp] at h1
    obtain ⟨i1, i2⟩ := over_heap vs (o + 1) _ _ h1
    have g1 : w.grownBy (w.setCell ⟨g, o, none⟩ v) (some g) := ⟨rfl, rfl, rfl, by simp, fun i _ hi => heap_setCell_other w ⟨g, o, none⟩ i _ (fun e => hi (by simp [e]))⟩
    exact ⟨i1, g1.trans i2⟩
theorem fillN_next (xs : List Int) (a : Nat) (v : Int) (k : Nat) : fillN (xs.set a v) (a + 1) v k = fillN xs a v (k + 1) := by
  induction k with
  | zero => rfl
  | succ k ih =>
    rw [fillN, ih, fillN, fillN]
    rw [show a + 1 + k = a + (k + 1) by omega]
    rfl
theorem over_ints (zs : List Value) (v : Int) : ∀ (k : Nat) (xs : List Int) (o : Nat), o + k ≤ xs.length → over (ints xs ++ zs) o (List.replicate k (.int .i64 v)) = ints (fillN xs o v k) ++ zs
  | 0, xs, o, _ => rfl
  | k + 1, xs, o, h => by
    rw [List.replicate_succ, over]
    have e : (ints xs ++ zs).set o (.int .i64 v) = ints (xs.set o v) ++ zs := by
      rw [List.set_append_left _ _ (by simp [ints]; omega)]
      simp [ints, List.map_set]
    rw [e, over_ints zs v k _ (o + 1) (by simp; omega), fillN_next]
theorem zero_int : ∀ w, (zeroValue 3).run Tryz.prog w = .ok (.int .i64 0) w := fun w => by kernel_rfl
theorem Free_any {g r : Nat} {xs : List Int} {w : World} (h : Tab w g r xs) (hx : Ks xs) (p : Int) :
    Calls Tryz.prog 58 #[.pointer (some ⟨g, 0, none⟩), .int .i64 p] w fun e w' => e = .returned (.int .i64 (siz xs p)) ∧ Tab w' g r (fillN xs p.toNat 0 (siz xs p).toNat) ∧ w.grownBy w' (some r) := by
  have HS := Lib.hid (Size_any h hx p)
  have sw := siz_wide xs p
  by_cases h0 : siz xs p = 0
  · rw [h0]
    rw [h0] at HS
    have H := Lib.hid h
    clear h hx sw h0
    go_enter Tryz.func58, Tryz.ntmps58
    go_wp2_with (go_at_call 88; (with_reducible refine HS.out.mono ?_); rintro e w' ⟨rfl, rfl⟩)
    go_ret
    exact ⟨rfl, H.out, grown_refl _ _⟩
  · obtain ⟨p0, p1⟩ := siz_in h0
    obtain ⟨a, rfl⟩ : ∃ a : Nat, p = a := ⟨p.toNat, by omega⟩
    obtain ⟨m, hm⟩ : ∃ m : Nat, siz xs (a : Int) = m := ⟨(siz xs (a : Int)).toNat, by omega⟩
    rw [hm] at HS p1 h0 ⊢
    simp only [Int.toNat_natCast]
    have hl := h.le
    have HN := Lib.hid h.ne
    have H := Lib.hid h
    obtain ⟨zs, b1, b2, b3, b4⟩ := h
    have hcl : ∀ ty, (Builtin.clear_ #[41] ty #[.slice (some ⟨r, a, none⟩) m (xs.length + zs.length - a)]).run Tryz.prog w = .ok (.tuple #[]) (w.setCells r a (List.replicate m (.int .i64 0))) :=
      fun ty => Lib.run_clear_slice w _ _ ty _ Tryz.underlying41 zero_int rfl rfl r a m _ (by omega) (fun j hj => by rw [H.out.word (k := a + j) (by omega)]; rfl) (fun j hj => H.out.free _)
    have hov := over_heap (List.replicate m (.int .i64 0)) a w _ b2
    rw [over_ints _ _ _ _ _ (by omega)] at hov
    have HO := Lib.hid hov
    have HC := Lib.hid (show xs.length + zs.length ≤ maxLen from b4)
    have HG := Lib.hid b1
    have f : w.cell? ⟨g, 0, none⟩ = some (.slice (some ⟨r, 0, none⟩) xs.length (xs.length + zs.length)) := by rw [cell_of_row w g 0 _ _ _ b1]; rfl
    have HL := Lib.hid hl
    have l1 : a + m ≤ xs.length := by omega
    have l2 : xs.length ≤ 64 := hl
    have l3 : xs.length + zs.length ≤ 9223372036854775807 := by unfold maxLen at b4; omega
    generalize w.setCells r a (List.replicate m (.int .i64 0)) = w2 at hcl HO
    clear hov b1 b2 b3 b4 hl hx sw
    generalize hc : xs.length + zs.length = c at *
    generalize hn : xs.length = n at *
    have l4 : n ≤ c := by omega
    have l5 : 0 < m := by omega
    go_enter Tryz.func58, Tryz.ntmps58
    go_wp2_with (go_at_call 88; (with_reducible refine HS.out.mono ?_); rintro e w' ⟨rfl, rfl⟩)
    go_ret
    refine ⟨rfl, ⟨zs, ?_, HO.out.1, by rw [fillN_length, hn]; exact l2, by rw [fillN_length, hn, hc]; exact HC.out⟩, HO.out.2⟩
    rw [HO.out.2.block g (lt_of_heap HG.out) (by simpa using HN.out), HG.out, fillN_length, hn, hc]
end Go.Proofs.YtfhmhlofjoahlaaGreatDoor.pg
