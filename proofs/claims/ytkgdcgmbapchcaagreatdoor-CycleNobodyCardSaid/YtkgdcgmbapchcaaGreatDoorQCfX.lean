/- Texts that this claim stands on. -/
import Derived.RowKit
import Derived.Test.YtkgdcgmbapchcaaGreatDoorRows
import Derived.WalkKit
import Derived.ProofKit
import Derived.OpenShut
import Derived.Outline
import Derived.Lib.Hide
import Derived.IntWalk
import Derived.Deep.QuietTactic
import Derived.BigQuiet
import Derived.Deep.RegionHeld3
import Derived.RegionTactic
namespace Go.Proofs.YtkgdcgmbapchcaaGreatDoor.cf
open Go Go.RowKit
def lo (i : Nat) : Int := [2, 1, 1, 1, 0, 0, 0, 1, 1, 0].getD i 0
def hi (i : Nat) : Int := [64, 8, 64, 16, 1000, 65535, 64, 16, 256, 64].getD i 0
def bad (l : List Int) (i : Nat) : Bool := decide (l.getD i 0 < lo i) || decide (hi i < l.getD i 0)
def short (l : List Int) : Bool := decide (l.getD 2 0 * (1000 - l.getD 4 0) < 1000 * l.getD 3 0)
def wr (l : List Int) : Nat → Nat → Int
  | 0, _ => if short l = true then 11 else 0
  | n + 1, i => if bad l i = true then (i : Int) + 1 else wr l n (i + 1)
def wrongN (l : List Int) : Int := wr l 10 0
theorem wr_bad {l : List Int} {n i : Nat} (h : bad l i = true) : wr l (n + 1) i = (i : Int) + 1 := by simp [wr, h]
theorem wr_good {l : List Int} {n i : Nat} (h : bad l i = false) : wr l (n + 1) i = wr l n (i + 1) := by simp [wr, h]
theorem bad_lt {l : List Int} {i : Nat} (h : l.getD i 0 < lo i) : bad l i = true := by simp only [bad, Bool.or_eq_true, decide_eq_true_eq]; exact .inl h
theorem bad_gt {l : List Int} {i : Nat} (h : hi i < l.getD i 0) : bad l i = true := by simp only [bad, Bool.or_eq_true, decide_eq_true_eq]; exact .inr h
theorem bad_no {l : List Int} {i : Nat} (h : ¬ l.getD i 0 < lo i) (k : ¬ hi i < l.getD i 0) : bad l i = false := by simp only [bad, Bool.or_eq_false_iff, decide_eq_false_iff_not]; exact ⟨h, k⟩
theorem bad_iff {l : List Int} {i : Nat} : bad l i = false ↔ lo i ≤ l.getD i 0 ∧ l.getD i 0 ≤ hi i := by simp [bad]
theorem fine {a0 a1 a2 a3 a4 a5 a6 a7 a8 a9 : Int} (h : ∀ j, j < 10 → bad [a0, a1, a2, a3, a4, a5, a6, a7, a8, a9] j = false) :
    (2 ≤ a0 ∧ a0 ≤ 64) ∧ (1 ≤ a1 ∧ a1 ≤ 8) ∧ (1 ≤ a2 ∧ a2 ≤ 64) ∧ (1 ≤ a3 ∧ a3 ≤ 16) ∧ (0 ≤ a4 ∧ a4 ≤ 1000) ∧ (0 ≤ a5 ∧ a5 ≤ 65535) ∧ (0 ≤ a6 ∧ a6 ≤ 64) ∧ (1 ≤ a7 ∧ a7 ≤ 16) ∧ (1 ≤ a8 ∧ a8 ≤ 256) ∧ (0 ≤ a9 ∧ a9 ≤ 64) :=
  ⟨bad_iff.1 (h 0 (by omega)), bad_iff.1 (h 1 (by omega)), bad_iff.1 (h 2 (by omega)), bad_iff.1 (h 3 (by omega)), bad_iff.1 (h 4 (by omega)), bad_iff.1 (h 5 (by omega)), bad_iff.1 (h 6 (by omega)), bad_iff.1 (h 7 (by omega)), bad_iff.1 (h 8 (by omega)), bad_iff.1 (h 9 (by omega))⟩
theorem prod_bd {a t : Int} (ha : 1 ≤ a ∧ a ≤ 64) (ht : 0 ≤ t ∧ t ≤ 1000) : 0 ≤ a * (1000 - t) ∧ a * (1000 - t) ≤ 64000 := by
  constructor
  · exact Int.mul_nonneg (by omega) (by omega)
  · have : a * (1000 - t) ≤ 64 * 1000 := Int.mul_le_mul (by omega) (by omega) (by omega) (by omega)
    omega
theorem wrong_of {l : List Int} (h : ∀ j, j < 10 → bad l j = false) : wrongN l = if short l = true then 11 else 0 := by
  unfold wrongN
  rw [wr_good (h 0 (by omega)), wr_good (h 1 (by omega)), wr_good (h 2 (by omega)), wr_good (h 3 (by omega)), wr_good (h 4 (by omega)), wr_good (h 5 (by omega)), wr_good (h 6 (by omega)), wr_good (h 7 (by omega)), wr_good (h 8 (by omega)), wr_good (h 9 (by omega))]
  rfl
theorem wrong_at {l : List Int} : ∀ {k : Nat}, k ≤ 10 → (∀ j, j < k → bad l j = false) → wrongN l = wr l (10 - k) k := by
  intro k hk h
  induction k with
  | zero => rfl
  | succ k ih =>
    rw [ih (by omega) (fun j hj => h j (by omega)), show 10 - k = (10 - (k + 1)) + 1 by omega, wr_good (h k (by omega))]
theorem wrong_first {l : List Int} {k : Nat} (hk : k < 10) (h : ∀ j, j < k → bad l j = false) (hb : bad l k = true) : wrongN l = (k : Int) + 1 := by
  rw [wrong_at (by omega) h, show 10 - k = (10 - k - 1) + 1 by omega, wr_bad hb]
theorem more {l : List Int} {k : Nat} (h : ∀ j, j < k → bad l j = false) (hb : bad l k = false) : ∀ j, j < k + 1 → bad l j = false := by
  intro j hj
  by_cases e : j = k
  · rw [e, hb]
  · exact h j (by omega)
end Go.Proofs.YtkgdcgmbapchcaaGreatDoor.cf
namespace Go.Proofs.YtkgdcgmbapchcaaGreatDoor.cf
open Go.ChangeShapes Go.WideShapes Go.ChangeAt Go.RowKit
set_option linter.unusedVariables false
set_option maxRecDepth 100000
theorem bcell {W w1 : World} (hb : Below W.heap.size W w1) : (∀ b o, b < W.heap.size → w1.cell? ⟨b, o, none⟩ = W.cell? ⟨b, o, none⟩) ∧ (∀ b o, b < W.heap.size → w1.frozen? ⟨b, o, none⟩ = W.frozen? ⟨b, o, none⟩) :=
  ⟨fun b o h => hb.cell (p := ⟨b, o, none⟩) h, fun b o h => hb.frozen (p := ⟨b, o, none⟩) h⟩
section
variable (a0 a1 a2 a3 a4 a5 a6 a7 a8 a9 : Int) (w : World)
set_option maxHeartbeats 400000
theorem fields_any : Calls Tryz.prog 105 #[.agg #[.int .i64 a0, .int .i64 a1, .int .i64 a2, .int .i64 a3, .int .i64 a4, .int .i64 a5, .int .i64 a6, .int .i64 a7, .int .i64 a8, .int .i64 a9]] w
    fun e w' => e = .returned (.agg #[.int .i64 a0, .int .i64 a1, .int .i64 a2, .int .i64 a3, .int .i64 a4, .int .i64 a5, .int .i64 a6, .int .i64 a7, .int .i64 a8, .int .i64 a9]) ∧ Below w.heap.size w w' := by
  go_enter Tryz.func105, Tryz.ntmps105
  go_wp2
  exact bodyPost_ret (v := .agg #[.int .i64 a0, .int .i64 a1, .int .i64 a2, .int .i64 a3, .int .i64 a4, .int .i64 a5, .int .i64 a6, .int .i64 a7, .int .i64 a8, .int .i64 a9]) (by simp [results, Tryz.results105, go_sem]) rfl ⟨rfl, (((Below.refl _ _).alloc (Nat.le_refl _) _).alloc (by simp) _)⟩
theorem left_any (h2 : 1 ≤ a2 ∧ a2 ≤ 64) (h4 : 0 ≤ a4 ∧ a4 ≤ 1000) : Calls Tryz.prog 106 #[.agg #[.int .i64 a0, .int .i64 a1, .int .i64 a2, .int .i64 a3, .int .i64 a4, .int .i64 a5, .int .i64 a6, .int .i64 a7, .int .i64 a8, .int .i64 a9]] w
    fun e w' => e = .returned (.int .i64 (a2 * (1000 - a4))) ∧ Below w.heap.size w w' := by
  obtain ⟨p0, p1⟩ := prod_bd h2 h4
  have f : IntKind.i64.wrap (a2 * (1000 - a4)) = a2 * (1000 - a4) := IntWalk.i64_in _ (by omega)
  obtain ⟨h20, h21⟩ := h2
  obtain ⟨h40, h41⟩ := h4
  go_enter Tryz.func106, Tryz.ntmps106
  go_wp2
  go_ret
  exact ⟨rfl, (Below.refl _ _).alloc (Nat.le_refl _) _⟩
end
end Go.Proofs.YtkgdcgmbapchcaaGreatDoor.cf
namespace Go.Proofs.YtkgdcgmbapchcaaGreatDoor.cf
open Go.ChangeShapes Go.WideShapes Go.ChangeAt Go.RowKit
set_option linter.unusedVariables false
set_option maxRecDepth 100000
def Table (w : World) : Prop := 0 < w.heap.size ∧ ∀ i, i < 10 → w.cell? ⟨0, i * 2, none⟩ = some (.int .i64 (lo i)) ∧ w.cell? ⟨0, i * 2 + 1, none⟩ = some (.int .i64 (hi i))
theorem Table.below {w w' : World} (h : Table w) (hb : Below w.heap.size w w') : Table w' :=
  ⟨Nat.lt_of_lt_of_le h.1 hb.size, fun i hi => ⟨(hb.cell (p := ⟨0, i * 2, none⟩) h.1).trans (h.2 i hi).1, (hb.cell (p := ⟨0, i * 2 + 1, none⟩) h.1).trans (h.2 i hi).2⟩⟩
abbrev Ten (w : World) (B : Nat) (a0 a1 a2 a3 a4 a5 a6 a7 a8 a9 : Int) : Prop := w.cell? ⟨B, 0, none⟩ = some (.int .i64 a0) ∧ w.cell? ⟨B, 1, none⟩ = some (.int .i64 a1) ∧ w.cell? ⟨B, 2, none⟩ = some (.int .i64 a2) ∧ w.cell? ⟨B, 3, none⟩ = some (.int .i64 a3) ∧ w.cell? ⟨B, 4, none⟩ = some (.int .i64 a4) ∧ w.cell? ⟨B, 5, none⟩ = some (.int .i64 a5) ∧ w.cell? ⟨B, 6, none⟩ = some (.int .i64 a6) ∧ w.cell? ⟨B, 7, none⟩ = some (.int .i64 a7) ∧ w.cell? ⟨B, 8, none⟩ = some (.int .i64 a8) ∧ w.cell? ⟨B, 9, none⟩ = some (.int .i64 a9)
theorem Ten.below {W w' : World} {B : Nat} {a0 a1 a2 a3 a4 a5 a6 a7 a8 a9 : Int} (hb : Below W.heap.size W w') (h : Ten W B a0 a1 a2 a3 a4 a5 a6 a7 a8 a9) : Ten w' B a0 a1 a2 a3 a4 a5 a6 a7 a8 a9 := by
  obtain ⟨h0, h1, h2, h3, h4, h5, h6, h7, h8, h9⟩ := h
  have hz := World.block_lt_of_cell? W _ h0
  obtain ⟨hc, -⟩ := bcell hb
  exact ⟨(hc _ _ hz).trans h0, (hc _ _ hz).trans h1, (hc _ _ hz).trans h2, (hc _ _ hz).trans h3, (hc _ _ hz).trans h4, (hc _ _ hz).trans h5, (hc _ _ hz).trans h6, (hc _ _ hz).trans h7, (hc _ _ hz).trans h8, (hc _ _ hz).trans h9⟩
theorem Ten.new (w : World) (t : TypeId) (a0 a1 a2 a3 a4 a5 a6 a7 a8 a9 : Int) : Ten (w.alloc (.cells #[.int .i64 a0, .int .i64 a1, .int .i64 a2, .int .i64 a3, .int .i64 a4, .int .i64 a5, .int .i64 a6, .int .i64 a7, .int .i64 a8, .int .i64 a9] t)) w.heap.size a0 a1 a2 a3 a4 a5 a6 a7 a8 a9 := by
  unfold Ten
  refine ⟨?_, ?_, ?_, ?_, ?_, ?_, ?_, ?_, ?_, ?_⟩ <;> simp [go_sem]
theorem wrong_short {a0 a1 a2 a3 a4 a5 a6 a7 a8 a9 p : Int} (h : wrongN [a0, a1, a2, a3, a4, a5, a6, a7, a8, a9] = if short [a0, a1, a2, a3, a4, a5, a6, a7, a8, a9] = true then 11 else 0) (hp : a2 * (1000 - a4) = p) (q : p < 1000 * a3) : wrongN [a0, a1, a2, a3, a4, a5, a6, a7, a8, a9] = 11 := by
  rw [h, if_pos]; simp only [short, decide_eq_true_eq]; rw [← hp] at q; exact q
theorem wrong_wide {a0 a1 a2 a3 a4 a5 a6 a7 a8 a9 p : Int} (h : wrongN [a0, a1, a2, a3, a4, a5, a6, a7, a8, a9] = if short [a0, a1, a2, a3, a4, a5, a6, a7, a8, a9] = true then 11 else 0) (hp : a2 * (1000 - a4) = p) (q : ¬ p < 1000 * a3) : wrongN [a0, a1, a2, a3, a4, a5, a6, a7, a8, a9] = 0 := by
  rw [h, if_neg]; simp only [short, decide_eq_true_eq]; rw [← hp] at q; exact q
theorem ret_int {a b : Int} (h : a = b) : Ending.returned (.int .i64 a) = .returned (.int .i64 b) := by rw [h]
section
variable (a0 a1 a2 a3 a4 a5 a6 a7 a8 a9 : Int) (w : World)
set_option maxHeartbeats 4000000
theorem index10 (k : Nat) (hk : k < 10) : ∀ w, (Instr.index 132 (.agg #[.int .i64 a0, .int .i64 a1, .int .i64 a2, .int .i64 a3, .int .i64 a4, .int .i64 a5, .int .i64 a6, .int .i64 a7, .int .i64 a8, .int .i64 a9]) (.int .i64 (k : Int))).run Tryz.prog w = .ok (.int .i64 ([a0, a1, a2, a3, a4, a5, a6, a7, a8, a9].getD k 0)) w := by
  have hk' : k = 0 ∨ k = 1 ∨ k = 2 ∨ k = 3 ∨ k = 4 ∨ k = 5 ∨ k = 6 ∨ k = 7 ∨ k = 8 ∨ k = 9 := by omega
  rcases hk' with rfl | rfl | rfl | rfl | rfl | rfl | rfl | rfl | rfl | rfl
  all_goals exact fun _ => by kernel_rfl
theorem left_as {p : Int} (h2 : 1 ≤ a2 ∧ a2 ≤ 64) (h4 : 0 ≤ a4 ∧ a4 ≤ 1000) (hp : a2 * (1000 - a4) = p) : Calls Tryz.prog 106 #[.agg #[.int .i64 a0, .int .i64 a1, .int .i64 a2, .int .i64 a3, .int .i64 a4, .int .i64 a5, .int .i64 a6, .int .i64 a7, .int .i64 a8, .int .i64 a9]] w
    fun e w' => e = .returned (.int .i64 p) ∧ Below w.heap.size w w' := hp ▸ left_any a0 a1 a2 a3 a4 a5 a6 a7 a8 a9 w h2 h4
theorem Wrong_any (hT : Table w) : Calls Tryz.prog 49 #[.agg #[.int .i64 a0, .int .i64 a1, .int .i64 a2, .int .i64 a3, .int .i64 a4, .int .i64 a5, .int .i64 a6, .int .i64 a7, .int .i64 a8, .int .i64 a9]] w
    fun e w' => e = .returned (.int .i64 (wrongN [a0, a1, a2, a3, a4, a5, a6, a7, a8, a9])) ∧ Below w.heap.size w w' := by
  have hz := hT.1
  have HT := Lib.hid hT.2
  clear hT
  go_enter Tryz.func49, Tryz.ntmps49
  go_wp2_with (go_at_call 105; (with_reducible refine (fields_any _ _ _ _ _ _ _ _ _ _ _).mono ?_); rintro e w1 ⟨rfl, hb⟩)
  have hb' : Below w.heap.size w w1 := ((Below.refl _ _).alloc (Nat.le_refl _) _).trans (hb.mono (by simp))
  have hz1 : w.heap.size < w1.heap.size := by have := hb.size; simp at this; omega
  obtain ⟨hc, hf⟩ := bcell hb
  have HS := Lib.hid ((Ten.new w 23 a0 a1 a2 a3 a4 a5 a6 a7 a8 a9).below hb)
  have HB := Lib.hid hb
  have HB' := Lib.hid hb'
  clear hb hb'
  go_loop [7] (fun i => ∃ k : Nat, k ≤ 10 ∧ i = .int .i64 k ∧ ∀ j, j < k → bad [a0, a1, a2, a3, a4, a5, a6, a7, a8, a9] j = false) (fun i => (10 - intOf i).toNat)
  case atStart => exact ⟨0, by omega, rfl, fun j hj => by omega⟩
  case round =>
    obtain ⟨k, hk, rfl, hg⟩ := hrel
    have HG := Lib.hid hg
    clear hg
    by_cases hlt : k < 10
    · have hk' : k = 0 ∨ k = 1 ∨ k = 2 ∨ k = 3 ∨ k = 4 ∨ k = 5 ∨ k = 6 ∨ k = 7 ∨ k = 8 ∨ k = 9 := by omega
      have hI := index10 a0 a1 a2 a3 a4 a5 a6 a7 a8 a9 k hlt
      obtain ⟨c1, c2⟩ := HT.out k hlt
      clear hk'
      generalize hx : List.getD [a0, a1, a2, a3, a4, a5, a6, a7, a8, a9] k 0 = x at hI
      generalize hl : lo k = l at c1
      generalize hh : hi k = h at c2
      have X := Lib.hid hx
      have Ll := Lib.hid hl
      have Hh := Lib.hid hh
      clear hx hl hh
      by_cases q1 : x < l
      · go_wp2
        go_ret
        exact ⟨ret_int (wrong_first hlt HG.out (bad_lt (by rw [X.out, Ll.out]; exact q1))).symm, HB'.out⟩
      · by_cases q2 : h < x
        · go_wp2
          go_ret
          exact ⟨ret_int (wrong_first hlt HG.out (bad_gt (by rw [X.out, Hh.out]; exact q2))).symm, HB'.out⟩
        · have N := Lib.hid (more HG.out (bad_no (i := k) (by rw [X.out, Ll.out]; exact q1) (by rw [X.out, Hh.out]; exact q2)))
          go_wp2
          go_round
          case rel => exact ⟨k + 1, by omega, by go_num, N.out⟩
          case measure => simp [intOf]; omega
    · have hk' : k = 10 := by omega
      subst hk'
      obtain ⟨-, -, b2, b3, b4, -⟩ := fine HG.out
      obtain ⟨p0, p1⟩ := prod_bd b2 b4
      have WO := Lib.hid (wrong_of HG.out)
      obtain ⟨b30, b31⟩ := b3
      generalize hp : a2 * (1000 - a4) = p at p0 p1
      have PP := Lib.hid hp
      clear hp
      by_cases q : p < 1000 * a3
      · have W11 := Lib.hid (wrong_short WO.out PP.out q)
        have f3 : IntKind.i64.wrap (1000 * a3) = 1000 * a3 := IntWalk.i64_in _ (by omega)
        go_wp2_with fail
        have b2' := Lib.hid b2
        have b4' := Lib.hid b4
        clear b2 b4
        go_region_held3 (fun w' => w'.cell? ⟨w.heap.size, 0, none⟩ = some (.int .i64 a0) ∧ w'.cell? ⟨w.heap.size, 1, none⟩ = some (.int .i64 a1) ∧ w'.cell? ⟨w.heap.size, 2, none⟩ = some (.int .i64 a2) ∧ w'.cell? ⟨w.heap.size, 3, none⟩ = some (.int .i64 a3) ∧ w'.cell? ⟨w.heap.size, 4, none⟩ = some (.int .i64 a4) ∧ w'.cell? ⟨w.heap.size, 5, none⟩ = some (.int .i64 a5) ∧ w'.cell? ⟨w.heap.size, 6, none⟩ = some (.int .i64 a6) ∧ w'.cell? ⟨w.heap.size, 7, none⟩ = some (.int .i64 a7) ∧ w'.cell? ⟨w.heap.size, 8, none⟩ = some (.int .i64 a8) ∧ w'.cell? ⟨w.heap.size, 9, none⟩ = some (.int .i64 a9)) (first | exact HS.out | exact HS.out.below HB2.out)
          (first | (go_at_call 106; (with_reducible refine (left_as _ _ _ _ _ _ _ _ _ _ _ b2'.out b4'.out PP.out).mono ?_); rintro e w2 ⟨rfl, hb2⟩; have HB2 := Lib.hid hb2; clear hb2))
        go_wp2
        go_ret
        exact ⟨ret_int W11.out.symm, HB'.out.drew.trans (HB2.out.mono HB'.out.size)⟩
      · have W11 := Lib.hid (wrong_wide WO.out PP.out q)
        have f3 : IntKind.i64.wrap (1000 * a3) = 1000 * a3 := IntWalk.i64_in _ (by omega)
        go_wp2_with fail
        have b2' := Lib.hid b2
        have b4' := Lib.hid b4
        clear b2 b4
        go_region_held3 (fun w' => w'.cell? ⟨w.heap.size, 0, none⟩ = some (.int .i64 a0) ∧ w'.cell? ⟨w.heap.size, 1, none⟩ = some (.int .i64 a1) ∧ w'.cell? ⟨w.heap.size, 2, none⟩ = some (.int .i64 a2) ∧ w'.cell? ⟨w.heap.size, 3, none⟩ = some (.int .i64 a3) ∧ w'.cell? ⟨w.heap.size, 4, none⟩ = some (.int .i64 a4) ∧ w'.cell? ⟨w.heap.size, 5, none⟩ = some (.int .i64 a5) ∧ w'.cell? ⟨w.heap.size, 6, none⟩ = some (.int .i64 a6) ∧ w'.cell? ⟨w.heap.size, 7, none⟩ = some (.int .i64 a7) ∧ w'.cell? ⟨w.heap.size, 8, none⟩ = some (.int .i64 a8) ∧ w'.cell? ⟨w.heap.size, 9, none⟩ = some (.int .i64 a9)) (first | exact HS.out | exact HS.out.below HB2.out)
          (first | (go_at_call 106; (with_reducible refine (left_as _ _ _ _ _ _ _ _ _ _ _ b2'.out b4'.out PP.out).mono ?_); rintro e w2 ⟨rfl, hb2⟩; have HB2 := Lib.hid hb2; clear hb2))
        go_wp2
        go_ret
        exact ⟨ret_int W11.out.symm, HB'.out.drew.trans (HB2.out.mono HB'.out.size)⟩
end
end Go.Proofs.YtkgdcgmbapchcaaGreatDoor.cf
namespace Go.Proofs.YtkgdcgmbapchcaaGreatDoor.cf
open Go.ChangeShapes Go.WideShapes Go.ChangeAt Go.RowKit
set_option linter.unusedVariables false
set_option maxRecDepth 100000
section
variable (a0 a1 a2 a3 a4 a5 a6 a7 a8 a9 : Int) (w : World)
set_option maxHeartbeats 4000000
end
end Go.Proofs.YtkgdcgmbapchcaaGreatDoor.cf
namespace Go.Proofs.YtkgdcgmbapchcaaGreatDoor.cf
open Go.ChangeShapes Go.WideShapes Go.ChangeAt Go.RowKit
set_option linter.unusedVariables false
set_option maxRecDepth 100000
section
variable (a0 a1 a2 a3 a4 a5 a6 a7 a8 a9 : Int) (w : World)
set_option maxHeartbeats 4000000
theorem Wrong_as {n : Int} (hT : Table w) (hn : wrongN [a0, a1, a2, a3, a4, a5, a6, a7, a8, a9] = n) : Calls Tryz.prog 49 #[.agg #[.int .i64 a0, .int .i64 a1, .int .i64 a2, .int .i64 a3, .int .i64 a4, .int .i64 a5, .int .i64 a6, .int .i64 a7, .int .i64 a8, .int .i64 a9]] w
    fun e w' => e = .returned (.int .i64 n) ∧ Below w.heap.size w w' := hn ▸ Wrong_any a0 a1 a2 a3 a4 a5 a6 a7 a8 a9 w hT
theorem Check_yes (hT : Table w) (hn : wrongN [a0, a1, a2, a3, a4, a5, a6, a7, a8, a9] = 0) : Calls Tryz.prog 11 #[.agg #[.int .i64 a0, .int .i64 a1, .int .i64 a2, .int .i64 a3, .int .i64 a4, .int .i64 a5, .int .i64 a6, .int .i64 a7, .int .i64 a8, .int .i64 a9]] w
    fun e w' => e = .returned (.int .i64 0) ∧ Below w.heap.size w w' := by
  have hz := hT.1
  have HT := Lib.hid (hT.below (((Below.refl w.heap.size w)).alloc (Nat.le_refl _) (.cells #[.int .i64 a0, .int .i64 a1, .int .i64 a2, .int .i64 a3, .int .i64 a4, .int .i64 a5, .int .i64 a6, .int .i64 a7, .int .i64 a8, .int .i64 a9] 23)))
  have B0 := Lib.hid (((Below.refl w.heap.size w)).alloc (Nat.le_refl _) (.cells #[.int .i64 a0, .int .i64 a1, .int .i64 a2, .int .i64 a3, .int .i64 a4, .int .i64 a5, .int .i64 a6, .int .i64 a7, .int .i64 a8, .int .i64 a9] 23))
  have HN := Lib.hid hn
  clear hT hn
  go_enter Tryz.func11, Tryz.ntmps11
  go_wp2_with (go_at_call 49; (with_reducible refine (Wrong_as _ _ _ _ _ _ _ _ _ _ _ HT.out HN.out).mono ?_); rintro e w2 ⟨rfl, hb2⟩; have HB2 := Lib.hid hb2; have HS2 := Lib.hid ((Ten.new w 23 a0 a1 a2 a3 a4 a5 a6 a7 a8 a9).below hb2); obtain ⟨c0, c1, c2, c3, c4, c5, c6, c7, c8, c9⟩ := HS2.out; clear hb2)
  go_ret
  exact ⟨rfl, B0.out.trans (HB2.out.mono (by simp))⟩
theorem Check_no {n : Int} (h0 : (n == 0) = false) (hT : Table w) (hn : wrongN [a0, a1, a2, a3, a4, a5, a6, a7, a8, a9] = n) : Calls Tryz.prog 11 #[.agg #[.int .i64 a0, .int .i64 a1, .int .i64 a2, .int .i64 a3, .int .i64 a4, .int .i64 a5, .int .i64 a6, .int .i64 a7, .int .i64 a8, .int .i64 a9]] w
    fun e w' => e = .returned (.int .i64 6) ∧ Below w.heap.size w w' := by
  have hz := hT.1
  have HT := Lib.hid (hT.below (((Below.refl w.heap.size w)).alloc (Nat.le_refl _) (.cells #[.int .i64 a0, .int .i64 a1, .int .i64 a2, .int .i64 a3, .int .i64 a4, .int .i64 a5, .int .i64 a6, .int .i64 a7, .int .i64 a8, .int .i64 a9] 23)))
  have B0 := Lib.hid (((Below.refl w.heap.size w)).alloc (Nat.le_refl _) (.cells #[.int .i64 a0, .int .i64 a1, .int .i64 a2, .int .i64 a3, .int .i64 a4, .int .i64 a5, .int .i64 a6, .int .i64 a7, .int .i64 a8, .int .i64 a9] 23))
  have HN := Lib.hid hn
  clear hT hn
  go_enter Tryz.func11, Tryz.ntmps11
  go_wp2_with (go_at_call 49; (with_reducible refine (Wrong_as _ _ _ _ _ _ _ _ _ _ _ HT.out HN.out).mono ?_); rintro e w2 ⟨rfl, hb2⟩; have HB2 := Lib.hid hb2; have HS2 := Lib.hid ((Ten.new w 23 a0 a1 a2 a3 a4 a5 a6 a7 a8 a9).below hb2); obtain ⟨c0, c1, c2, c3, c4, c5, c6, c7, c8, c9⟩ := HS2.out; clear hb2)
  go_ret
  exact ⟨rfl, B0.out.trans (HB2.out.mono (by simp))⟩
end
end Go.Proofs.YtkgdcgmbapchcaaGreatDoor.cf
