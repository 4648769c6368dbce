/- Texts that this claim stands on. -/
import Derived.Deep.RegionHeld3
import Derived.RegionTactic
import Derived.Test.YtfhebjkoojodiaaDoorPCfM
namespace Go.Proofs.YtfhebjkoojodiaaDoor.cf
open Go.ChangeShapes Go.WideShapes Go.ChangeAt Go.RowKit
set_option linter.unusedVariables false
set_option maxRecDepth 100000
def Table (w : World) : Prop := 0 < w.heap.size ∧ ∀ i, i < 10 → w.cell? ⟨0, i * 2, none⟩ = some (.int .i64 (lo i)) ∧ w.cell? ⟨0, i * 2 + 1, none⟩ = some (.int .i64 (hi i))
theorem Table.below {w w' : World} (h : Table w) (hb : Below w.heap.size w w') : Table w' :=
  ⟨Nat.lt_of_lt_of_le h.1 hb.size, fun i hi => ⟨(hb.cell (p := ⟨0, i * 2, none⟩) h.1).trans (h.2 i hi).1, (hb.cell (p := ⟨0, i * 2 + 1, none⟩) h.1).trans (h.2 i hi).2⟩⟩
abbrev Ten (w : World) (B : Nat) (a0 a1 a2 a3 a4 a5 a6 a7 a8 a9 : Int) : Prop := w.cell? ⟨B, 0, none⟩ = some (.int .i64 a0) ∧ w.cell? ⟨B, 1, none⟩ = some (.int .i64 a1) ∧ w.cell? ⟨B, 2, none⟩ = some (.int .i64 a2) ∧ w.cell? ⟨B, 3, none⟩ = some (.int .i64 a3) ∧ w.cell? ⟨B, 4, none⟩ = some (.int .i64 a4) ∧ w.cell? ⟨B, 5, none⟩ = some (.int .i64 a5) ∧ w.cell? ⟨B, 6, none⟩ = some (.int .i64 a6) ∧ w.cell? ⟨B, 7, none⟩ = some (.int .i64 a7) ∧ w.cell? ⟨B, 8, none⟩ = some (.int .i64 a8) ∧ w.cell? ⟨B, 9, none⟩ = some (.int .i64 a9)
theorem Ten.below {W w' : World} {B : Nat} {a0 a1 a2 a3 a4 a5 a6 a7 a8 a9 : Int} (hb : Below W.heap.size W w') (h : Ten W B a0 a1 a2 a3 a4 a5 a6 a7 a8 a9) : Ten w' B a0 a1 a2 a3 a4 a5 a6 a7 a8 a9 := by
  obtain ⟨h0, h1, h2, h3, h4, h5, h6, h7, h8, h9⟩ := h
  have hz := World.block_lt_of_cell? W _ h0
  obtain ⟨hc, -⟩ := bcell hb
  exact ⟨(hc _ _ hz).trans h0, (hc _ _ hz).trans h1, (hc _ _ hz).trans h2, (hc _ _ hz).trans h3, (hc _ _ hz).trans h4, (hc _ _ hz).trans h5, (hc _ _ hz).trans h6, (hc _ _ hz).trans h7, (hc _ _ hz).trans h8, (hc _ _ hz).trans h9⟩
theorem Ten.new (w : World) (t : TypeId) (a0 a1 a2 a3 a4 a5 a6 a7 a8 a9 : Int) : Ten (w.alloc (.cells #[.int .i64 a0, .int .i64 a1, .int .i64 a2, .int .i64 a3, .int .i64 a4, .int .i64 a5, .int .i64 a6, .int .i64 a7, .int .i64 a8, .int .i64 a9] t)) w.heap.size a0 a1 a2 a3 a4 a5 a6 a7 a8 a9 := by
  unfold Ten
  refine ⟨?_, ?_, ?_, ?_, ?_, ?_, ?_, ?_, ?_, ?_⟩ <;> simp [go_sem]
theorem wrong_short {a0 a1 a2 a3 a4 a5 a6 a7 a8 a9 p : Int} (h : wrongN [a0, a1, a2, a3, a4, a5, a6, a7, a8, a9] = if short [a0, a1, a2, a3, a4, a5, a6, a7, a8, a9] = true then 11 else 0) (hp : a2 * (1000 - a4) = p) (q : p < 1000 * a3) : wrongN [a0, a1, a2, a3, a4, a5, a6, a7, a8, a9] = 11 := by
  rw [h, if_pos]; simp only [short, decide_eq_true_eq]; rw [← hp] at q; exact q
theorem wrong_wide {a0 a1 a2 a3 a4 a5 a6 a7 a8 a9 p : Int} (h : wrongN [a0, a1, a2, a3, a4, a5, a6, a7, a8, a9] = if short [a0, a1, a2, a3, a4, a5, a6, a7, a8, a9] = true then 11 else 0) (hp : a2 * (1000 - a4) = p) (q : ¬ p < 1000 * a3) : wrongN [a0, a1, a2, a3, a4, a5, a6, a7, a8, a9] = 0 := by
  rw [h, if_neg]; simp only [short, decide_eq_true_eq]; rw [← hp] at q; exact q
theorem ret_int {a b : Int} (h : a = b) : Ending.returned (.int .i64 a) = .returned (.int .i64 b) := by rw [h]
section
variable (a0 a1 a2 a3 a4 a5 a6 a7 a8 a9 : Int) (w : World)
set_option maxHeartbeats 4000000
theorem index10 (k : Nat) (hk : k < 10) : ∀ w, (Instr.index 86 (.agg #[.int .i64 a0, .int .i64 a1, .int .i64 a2, .int .i64 a3, .int .i64 a4, .int .i64 a5, .int .i64 a6, .int .i64 a7, .int .i64 a8, .int .i64 a9]) (.int .i64 (k : Int))).run Tryd.prog w = .ok (.int .i64 ([a0, a1, a2, a3, a4, a5, a6, a7, a8, a9].getD k 0)) w := by
  have hk' : k = 0 ∨ k = 1 ∨ k = 2 ∨ k = 3 ∨ k = 4 ∨ k = 5 ∨ k = 6 ∨ k = 7 ∨ k = 8 ∨ k = 9 := by omega
  rcases hk' with rfl | rfl | rfl | rfl | rfl | rfl | rfl | rfl | rfl | rfl
  all_goals exact fun _ => by kernel_rfl
theorem left_as {p : Int} (h2 : 1 ≤ a2 ∧ a2 ≤ 64) (h4 : 0 ≤ a4 ∧ a4 ≤ 1000) (hp : a2 * (1000 - a4) = p) : Calls Tryd.prog 36 #[.agg #[.int .i64 a0, .int .i64 a1, .int .i64 a2, .int .i64 a3, .int .i64 a4, .int .i64 a5, .int .i64 a6, .int .i64 a7, .int .i64 a8, .int .i64 a9]] w
    fun e w' => e = .returned (.int .i64 p) ∧ Below w.heap.size w w' := hp ▸ left_any a0 a1 a2 a3 a4 a5 a6 a7 a8 a9 w h2 h4
theorem Wrong_any (hT : Table w) : Calls Tryd.prog 23 #[.agg #[.int .i64 a0, .int .i64 a1, .int .i64 a2, .int .i64 a3, .int .i64 a4, .int .i64 a5, .int .i64 a6, .int .i64 a7, .int .i64 a8, .int .i64 a9]] w
    fun e w' => e = .returned (.int .i64 (wrongN [a0, a1, a2, a3, a4, a5, a6, a7, a8, a9])) ∧ Below w.heap.size w w' := by
  have hz := hT.1
  have HT := Lib.hid hT.2
  clear hT
  go_enter Tryd.func23, Tryd.ntmps23
  go_wp2_with (go_at_call 35; (with_reducible refine (fields_any _ _ _ _ _ _ _ _ _ _ _).mono ?_); rintro e w1 ⟨rfl, hb⟩)
  have hb' : Below w.heap.size w w1 := ((Below.refl _ _).alloc (Nat.le_refl _) _).trans (hb.mono (by simp))
  have hz1 : w.heap.size < w1.heap.size := by have := hb.size; simp at this; omega
  obtain ⟨hc, hf⟩ := bcell hb
  have HS := Lib.hid ((Ten.new w 23 a0 a1 a2 a3 a4 a5 a6 a7 a8 a9).below hb)
  have HB := Lib.hid hb
  have HB' := Lib.hid hb'
  clear hb hb'
  go_loop [7] (fun i => ∃ k : Nat, k ≤ 10 ∧ i = .int .i64 k ∧ ∀ j, j < k → bad [a0, a1, a2, a3, a4, a5, a6, a7, a8, a9] j = false) (fun i => (10 - intOf i).toNat)
  case atStart => exact ⟨0, by omega, rfl, fun j hj => by omega⟩
  case round =>
    obtain ⟨k, hk, rfl, hg⟩ := hrel
    have HG := Lib.hid hg
    clear hg
    by_cases hlt : k < 10
    · have hk' : k = 0 ∨ k = 1 ∨ k = 2 ∨ k = 3 ∨ k = 4 ∨ k = 5 ∨ k = 6 ∨ k = 7 ∨ k = 8 ∨ k = 9 := by omega
      have hI := index10 a0 a1 a2 a3 a4 a5 a6 a7 a8 a9 k hlt
      obtain ⟨c1, c2⟩ := HT.out k hlt
      clear hk'
      generalize hx : List.getD [a0, a1, a2, a3, a4, a5, a6, a7, a8, a9] k 0 = x at hI
      generalize hl : lo k = l at c1
      generalize hh : hi k = h at c2
      have X := Lib.hid hx
      have Ll := Lib.hid hl
      have Hh := Lib.hid hh
      clear hx hl hh
      by_cases q1 : x < l
      · go_wp2
        go_ret
        exact ⟨ret_int (wrong_first hlt HG.out (bad_lt (by rw [X.out, Ll.out]; exact q1))).symm, HB'.out⟩
      · by_cases q2 : h < x
        · go_wp2
          go_ret
          exact ⟨ret_int (wrong_first hlt HG.out (bad_gt (by rw [X.out, Hh.out]; exact q2))).symm, HB'.out⟩
        · have N := Lib.hid (more HG.out (bad_no (i := k) (by rw [X.out, Ll.out]; exact q1) (by rw [X.out, Hh.out]; exact q2)))
          go_wp2
          go_round
          case rel => exact ⟨k + 1, by omega, by go_num, N.out⟩
          case measure => simp [intOf]; omega
    · have hk' : k = 10 := by omega
      subst hk'
      obtain ⟨-, -, b2, b3, b4, -⟩ := fine HG.out
      obtain ⟨p0, p1⟩ := prod_bd b2 b4
      have WO := Lib.hid (wrong_of HG.out)
      obtain ⟨b30, b31⟩ := b3
      generalize hp : a2 * (1000 - a4) = p at p0 p1
      have PP := Lib.hid hp
      clear hp
      by_cases q : p < 1000 * a3
      · have W11 := Lib.hid (wrong_short WO.out PP.out q)
        have f3 : IntKind.i64.wrap (1000 * a3) = 1000 * a3 := IntWalk.i64_in _ (by omega)
        go_wp2_with fail
        have b2' := Lib.hid b2
        have b4' := Lib.hid b4
        clear b2 b4
        go_region_held3 (fun w' => w'.cell? ⟨w.heap.size, 0, none⟩ = some (.int .i64 a0) ∧ w'.cell? ⟨w.heap.size, 1, none⟩ = some (.int .i64 a1) ∧ w'.cell? ⟨w.heap.size, 2, none⟩ = some (.int .i64 a2) ∧ w'.cell? ⟨w.heap.size, 3, none⟩ = some (.int .i64 a3) ∧ w'.cell? ⟨w.heap.size, 4, none⟩ = some (.int .i64 a4) ∧ w'.cell? ⟨w.heap.size, 5, none⟩ = some (.int .i64 a5) ∧ w'.cell? ⟨w.heap.size, 6, none⟩ = some (.int .i64 a6) ∧ w'.cell? ⟨w.heap.size, 7, none⟩ = some (.int .i64 a7) ∧ w'.cell? ⟨w.heap.size, 8, none⟩ = some (.int .i64 a8) ∧ w'.cell? ⟨w.heap.size, 9, none⟩ = some (.int .i64 a9)) (first | exact HS.out | exact HS.out.below HB2.out)
          (first | (go_at_call 36; (with_reducible refine (left_as _ _ _ _ _ _ _ _ _ _ _ b2'.out b4'.out PP.out).mono ?_); rintro e w2 ⟨rfl, hb2⟩; have HB2 := Lib.hid hb2; clear hb2))
        go_wp2
        go_ret
        exact ⟨ret_int W11.out.symm, HB'.out.drew.trans (HB2.out.mono HB'.out.size)⟩
      · have W11 := Lib.hid (wrong_wide WO.out PP.out q)
        have f3 : IntKind.i64.wrap (1000 * a3) = 1000 * a3 := IntWalk.i64_in _ (by omega)
        go_wp2_with fail
        have b2' := Lib.hid b2
        have b4' := Lib.hid b4
        clear b2 b4
        go_region_held3 (fun w' => w'.cell? ⟨w.heap.size, 0, none⟩ = some (.int .i64 a0) ∧ w'.cell? ⟨w.heap.size, 1, none⟩ = some (.int .i64 a1) ∧ w'.cell? ⟨w.heap.size, 2, none⟩ = some (.int .i64 a2) ∧ w'.cell? ⟨w.heap.size, 3, none⟩ = some (.int .i64 a3) ∧ w'.cell? ⟨w.heap.size, 4, none⟩ = some (.int .i64 a4) ∧ w'.cell? ⟨w.heap.size, 5, none⟩ = some (.int .i64 a5) ∧ w'.cell? ⟨w.heap.size, 6, none⟩ = some (.int .i64 a6) ∧ w'.cell? ⟨w.heap.size, 7, none⟩ = some (.int .i64 a7) ∧ w'.cell? ⟨w.heap.size, 8, none⟩ = some (.int .i64 a8) ∧ w'.cell? ⟨w.heap.size, 9, none⟩ = some (.int .i64 a9)) (first | exact HS.out | exact HS.out.below HB2.out)
          (first | (go_at_call 36; (with_reducible refine (left_as _ _ _ _ _ _ _ _ _ _ _ b2'.out b4'.out PP.out).mono ?_); rintro e w2 ⟨rfl, hb2⟩; have HB2 := Lib.hid hb2; clear hb2))
        go_wp2
        go_ret
        exact ⟨ret_int W11.out.symm, HB'.out.drew.trans (HB2.out.mono HB'.out.size)⟩
end
end Go.Proofs.YtfhebjkoojodiaaDoor.cf
namespace Go.Proofs.YtfhebjkoojodiaaDoor.cf
end Go.Proofs.YtfhebjkoojodiaaDoor.cf
namespace Go.Proofs.YtfhebjkoojodiaaDoor.cf
open Go.ChangeShapes Go.WideShapes Go.ChangeAt Go.RowKit
set_option linter.unusedVariables false
set_option maxRecDepth 100000
section
variable (a0 a1 a2 a3 a4 a5 a6 a7 a8 a9 : Int) (w : World)
set_option maxHeartbeats 4000000
theorem Wrong_as {n : Int} (hT : Table w) (hn : wrongN [a0, a1, a2, a3, a4, a5, a6, a7, a8, a9] = n) : Calls Tryd.prog 23 #[.agg #[.int .i64 a0, .int .i64 a1, .int .i64 a2, .int .i64 a3, .int .i64 a4, .int .i64 a5, .int .i64 a6, .int .i64 a7, .int .i64 a8, .int .i64 a9]] w
    fun e w' => e = .returned (.int .i64 n) ∧ Below w.heap.size w w' := hn ▸ Wrong_any a0 a1 a2 a3 a4 a5 a6 a7 a8 a9 w hT
theorem Check_yes (hT : Table w) (hn : wrongN [a0, a1, a2, a3, a4, a5, a6, a7, a8, a9] = 0) : Calls Tryd.prog 8 #[.agg #[.int .i64 a0, .int .i64 a1, .int .i64 a2, .int .i64 a3, .int .i64 a4, .int .i64 a5, .int .i64 a6, .int .i64 a7, .int .i64 a8, .int .i64 a9]] w
    fun e w' => e = .returned (.int .i64 0) ∧ Below w.heap.size w w' := by
  have hz := hT.1
  have HT := Lib.hid (hT.below (((Below.refl w.heap.size w)).alloc (Nat.le_refl _) (.cells #[.int .i64 a0, .int .i64 a1, .int .i64 a2, .int .i64 a3, .int .i64 a4, .int .i64 a5, .int .i64 a6, .int .i64 a7, .int .i64 a8, .int .i64 a9] 23)))
  have B0 := Lib.hid (((Below.refl w.heap.size w)).alloc (Nat.le_refl _) (.cells #[.int .i64 a0, .int .i64 a1, .int .i64 a2, .int .i64 a3, .int .i64 a4, .int .i64 a5, .int .i64 a6, .int .i64 a7, .int .i64 a8, .int .i64 a9] 23))
  have HN := Lib.hid hn
  clear hT hn
  go_enter Tryd.func8, Tryd.ntmps8
  go_wp2_with (go_at_call 23; (with_reducible refine (Wrong_as _ _ _ _ _ _ _ _ _ _ _ HT.out HN.out).mono ?_); rintro e w2 ⟨rfl, hb2⟩; have HB2 := Lib.hid hb2; have HS2 := Lib.hid ((Ten.new w 23 a0 a1 a2 a3 a4 a5 a6 a7 a8 a9).below hb2); obtain ⟨c0, c1, c2, c3, c4, c5, c6, c7, c8, c9⟩ := HS2.out; clear hb2)
  go_ret
  exact ⟨rfl, B0.out.trans (HB2.out.mono (by simp))⟩
theorem Check_no {n : Int} (h0 : (n == 0) = false) (hT : Table w) (hn : wrongN [a0, a1, a2, a3, a4, a5, a6, a7, a8, a9] = n) : Calls Tryd.prog 8 #[.agg #[.int .i64 a0, .int .i64 a1, .int .i64 a2, .int .i64 a3, .int .i64 a4, .int .i64 a5, .int .i64 a6, .int .i64 a7, .int .i64 a8, .int .i64 a9]] w
    fun e w' => e = .returned (.int .i64 6) ∧ Below w.heap.size w w' := by
  have hz := hT.1
  have HT := Lib.hid (hT.below (((Below.refl w.heap.size w)).alloc (Nat.le_refl _) (.cells #[.int .i64 a0, .int .i64 a1, .int .i64 a2, .int .i64 a3, .int .i64 a4, .int .i64 a5, .int .i64 a6, .int .i64 a7, .int .i64 a8, .int .i64 a9] 23)))
  have B0 := Lib.hid (((Below.refl w.heap.size w)).alloc (Nat.le_refl _) (.cells #[.int .i64 a0, .int .i64 a1, .int .i64 a2, .int .i64 a3, .int .i64 a4, .int .i64 a5, .int .i64 a6, .int .i64 a7, .int .i64 a8, .int .i64 a9] 23))
  have HN := Lib.hid hn
  clear hT hn
  go_enter Tryd.func8, Tryd.ntmps8
  go_wp2_with (go_at_call 23; (with_reducible refine (Wrong_as _ _ _ _ _ _ _ _ _ _ _ HT.out HN.out).mono ?_); rintro e w2 ⟨rfl, hb2⟩; have HB2 := Lib.hid hb2; have HS2 := Lib.hid ((Ten.new w 23 a0 a1 a2 a3 a4 a5 a6 a7 a8 a9).below hb2); obtain ⟨c0, c1, c2, c3, c4, c5, c6, c7, c8, c9⟩ := HS2.out; clear hb2)
  go_ret
  exact ⟨rfl, B0.out.trans (HB2.out.mono (by simp))⟩
end
end Go.Proofs.YtfhebjkoojodiaaDoor.cf
