/- A ledger's Work, Count, Last, New. -/
import Derived.Test.YtgfgchmpdocihaaLgC
namespace Go.Proofs.Ytgfgchmpdocihaa.lg
open Go.ChangeShapes Go.WideShapes Go.ChangeAt Go.RowKit gen lb
set_option linter.unusedVariables false
set_option maxHeartbeats 1000000
set_option maxRecDepth 100000
section
variable {w w' : World} {g R N win most : Nat} {ls : List (List Bool)} {L : List Nat}
theorem Work_no {t n : Int} (HA : Calls Try.prog 14 #[.pointer (some ⟨g, 0, none⟩), .int .i64 t, .int .i64 n] w fun e w' => e = .returned (.bool false) ∧ w.grownBy w' none) : Calls Try.prog 10 #[.pointer (some ⟨g, 0, none⟩), .int .i64 t, .int .i64 n] w fun e w' => e = .returned (.bool false) ∧ w.grownBy w' none := by
  have A := Lib.hid HA
  clear HA
  go_enter Try.func10, Try.ntmps10
  go_wp2_with (go_at_call 14; (with_reducible refine A.out.mono ?_); rintro r w1 ⟨rfl, hg⟩; have G1 := Lib.hid hg; clear hg)
  go_ret
  exact ⟨rfl, G1.out⟩
theorem Work_yes (h : Lg w g R N win most ls) (t : Nat) (ht : t < N) (n : Nat) (hn : n ≤ most) (hc : cnt (beh win n (ls.getD t []) true) ≤ most) : Calls Try.prog 10 #[.pointer (some ⟨g, 0, none⟩), .int .i64 (t : Int), .int .i64 (n : Int)] w (StA g R N win most (ls.set t (beh win n (ls.getD t []) true)) w) := by
  have HA := Lib.hid (Admit_in h t ht n hn)
  rw [decide_eq_true hc] at HA
  have HL := Lib.hid (show ∀ W, w.grownBy W none → Lg W g R N win most ls from fun W hW => h.new hW)
  have BH := Lib.hid (show ∀ W, w.grownBy W none → Calls Try.prog 17 #[.pointer (some ⟨g, 0, none⟩), .int .i64 (t : Int), .int .i64 (n : Int), .bool true] W (LbAns (beh win n (ls.getD t []) true) W) from fun W hW => behind_any (h.new hW) t ht n (by have := h.w64; have := h.ms; omega) true)
  have BL := Lib.hid (beh_length (n := n) true (h.le t))
  have n8 := h.n8
  have HT := Lib.hid ht
  have t0 : (0 : Int) ≤ (t : Int) := by omega
  have t1 : (t : Int) < (N : Int) := by omega
  have gne := h.ne
  clear h hc
  go_enter Try.func10, Try.ntmps10
  go_wp2_with (go_at_call 14; (with_reducible refine HA.out.mono ?_); rintro r w1 ⟨rfl, hg⟩; have G1 := Lib.hid hg; have c2 := (HL.out _ hg).c2; clear hg)
  go_region_held3 (fun W => W.cell? ⟨g, 2, none⟩ = some (.slice (some ⟨R, 0, none⟩) N N)) (first | exact c2 | exact e2 | exact (gr.grown_set _ _ _ _).cell e2 (by simpa using gne) | go_keep) (first
    | (go_at_call 17; (with_reducible refine (BH.out _ (by first | exact G1.out | exact G1.out.trans (gr.grown_drew _ _) | exact G1.out.trans (li.grown_drewN _ _ _))).mono ?_); rintro r w2 ⟨A2, N2, c2', rfl, hn2, o2, g2⟩; have O2 := Lib.hid (o2.mono (Nat.zero_le _)); have G2 := Lib.hid (show w.grownBy w2 none from by first | exact G1.out.trans g2 | exact (G1.out.trans (gr.grown_drew _ _)).trans g2 | exact (G1.out.trans (li.grown_drewN _ _ _)).trans g2); have e2 := (HL.out _ G2.out).c2; have fz := (HL.out _ G2.out).free (t * 3); obtain ⟨A9, N9, c9, z1, z2, b1, b2, b3, _, _⟩ := (HL.out _ G2.out).at_ HT.out; clear hn2 o2 g2))
  have L3 := Lib.hid ((HL.out _ G2.out).set HT.out O2.out BL.out)
  have G3 := Lib.hid (li.grown_then G2.out (gr.grown_set w2 R (t * 3) (.slice A2 N2 c2')))
  clear b1 b2 b3 fz e2
  generalize w2.setCell ⟨R, t * 3, none⟩ (.slice A2 N2 c2') = w3 at L3 G3 ⊢
  have e3 := L3.out.c2
  have fz1 := L3.out.free (t * 3 + 2)
  obtain ⟨A8, N8, c8, x1, x2, b1, b2, b3, _, _⟩ := L3.out.at_ HT.out
  go_wp2
  go_ret
  exact ⟨rfl, L3.out.num HT.out 2 (.inr rfl) _, G3.out.trans (gr.grown_set _ _ _ _)⟩
theorem Last_any (h : Lg w g R N win most ls) (t : Nat) (ht : t < N) : Calls Try.prog 13 #[.pointer (some ⟨g, 0, none⟩), .int .i64 (t : Int)] w (LbAns (ls.getD t []) w) := by
  have HS := Lib.hid (has_in h t ht)
  obtain ⟨A, k, c, z1, z2, a1, a2, a3, hk, hl⟩ := h.at_ ht
  have CL := Lib.hid (sclone_any (hl.rb hk) (by rw [hk]; have := h.le t; have := h.w64; omega))
  have c2 := h.c2
  have n8 := h.n8
  have t0 : (0 : Int) ≤ (t : Int) := by omega
  have t1 : (t : Int) < (N : Int) := by omega
  clear h hl hk
  generalize ls.getD t [] = l at CL ⊢
  go_enter Try.func13, Try.ntmps13
  go_wp2_with (first
    | (go_at_call 16; (with_reducible refine HS.out.mono ?_); rintro r w' ⟨rfl, hw⟩; subst hw)
    | (go_at_call 19; (with_reducible refine CL.out.mono ?_); rintro r w2 ⟨A2, N2, c2', rfl, hn2, o2, g2⟩; have O2 := Lib.hid o2; have HN2 := Lib.hid hn2; have G2 := Lib.hid g2; clear hn2 o2 g2))
  go_ret
  exact ⟨A2, N2, c2', rfl, HN2.out, O2.out, G2.out⟩
theorem Count_any (h : Lg w g R N win most ls) (t : Nat) (ht : t < N) : Calls Try.prog 12 #[.pointer (some ⟨g, 0, none⟩), .int .i64 (t : Int)] w fun e w' => e = .returned (.int .i64 (cnt (ls.getD t []) : Int)) ∧ w.grownBy w' none := by
  have LA := Lib.hid (Last_any h t ht)
  have LE := Lib.hid (Nat.le_trans (h.le t) h.w64)
  clear h
  generalize ls.getD t [] = l at LA LE ⊢
  go_enter Try.func12, Try.ntmps12
  go_wp2_with (first
    | (go_at_call 13; (with_reducible refine LA.out.mono ?_); rintro r w2 ⟨A2, N2, c2', rfl, hn2, o2, g2⟩; have O2 := Lib.hid o2; have HN2 := Lib.hid hn2; have G2 := Lib.hid g2; clear hn2 o2 g2)
    | (have mark := G2; go_at_call 18; (with_reducible refine (count_any (m := l) (O2.out.rb HN2.out) (by have := HN2.out; have := LE.out; omega)).mono ?_); rintro r w' ⟨rfl, hw⟩; subst hw))
  go_ret
  exact ⟨rfl, G2.out⟩
end
/-! ### New -/
/-- The nearest number that may be. -/
def near (n a b : Int) : Int := if n < a then a else if b < n then b else n
theorem ret_int {a b : Int} (h : a = b) : Ending.returned (.int .i64 a) = .returned (.int .i64 b) := by rw [h]
theorem near_nat (n : Int) (a b : Nat) (h : a ≤ b) : ∃ k : Nat, near n a b = k ∧ a ≤ k ∧ k ≤ b := by
  refine ⟨(near n a b).toNat, ?_, ?_, ?_⟩ <;> (unfold near; repeat' split) <;> omega
theorem near_id (k a b : Nat) (h1 : a ≤ k) (h2 : k ≤ b) : near k a b = k := by
  unfold near
  rw [if_neg (by omega), if_neg (by omega)]
theorem Clamp_any (n a b : Int) (w : World) : Calls Try.prog 15 #[.int .i64 n, .int .i64 a, .int .i64 b] w fun e w' => e = .returned (.int .i64 (near n a b)) ∧ w = w' := by
  by_cases h : n < a
  · go_enter Try.func15, Try.ntmps15
    go_wp2
    go_ret
    exact ⟨by simp [near, h], rfl⟩
  by_cases h2 : b < n
  all_goals
    go_enter Try.func15, Try.ntmps15
    go_wp2
    go_ret
    exact ⟨ret_int (by unfold near; repeat' split
                       all_goals omega), rfl⟩
theorem Near_any (n a b : Int) (w : World) : Calls Try.prog 5 #[.int .i64 n, .int .i64 a, .int .i64 b] w fun e w' => e = .returned (.int .i64 (near n a b)) ∧ w = w' := by
  by_cases h : n < a
  · go_enter Try.func5, Try.ntmps5
    go_wp2
    go_ret
    exact ⟨by simp [near, h], rfl⟩
  by_cases h2 : b < n
  all_goals
    go_enter Try.func5, Try.ntmps5
    go_wp2
    go_ret
    exact ⟨ret_int (by unfold near; repeat' split
                       all_goals omega), rfl⟩
/-- The value of no list. -/
abbrev nl : Value := .slice none 0 0
theorem info_spent : (Try.prog.info? 44).map (fun i => (i.zero, i.size, i.bytes)) = some (some (.agg #[nl, .int .i64 0, .int .i64 0]), 3, 40) := by kernel_rfl
theorem made_at (N t : Nat) (ht : t < N) (j : Nat) (hj : j < 3) : (madeCells #[nl, .int .i64 0, .int .i64 0] (N * 3))[t * 3 + j]? = some (#[nl, .int .i64 0, .int .i64 0][j]!) := by
  unfold madeCells
  have h1 : t * 3 + j < N * 3 := by omega
  have h2 : (t * 3 + j) % 3 = j := by omega
  simp [h1, h2]
theorem make_spent (n : Nat) (hn : n ≤ 8) (w : World) :
    (Instr.makeSlice 38 (.int .i64 (n : Int)) (.int .i64 (n : Int))).run Try.prog w = .ok (.slice (some ⟨w.heap.size, 0, none⟩) n n) (w.alloc (.cells (madeCells #[nl, .int .i64 0, .int .i64 0] (n * 3)) 44)) := by
  obtain ⟨i0, hi, hz0, hz1, hz2⟩ := info_parts info_spent
  have h := run_make (P := Try.prog) w 38 44 i0 _ Try.underlying38 hi hz0 .i64 .i64 n n (by omega) (Int.le_refl _) (by rw [hz2]; omega) (by omega)
  rw [h]
  simp only [Int.toNat_natCast, hz1]
  rfl
/-- A ledger that was made. -/
def NewAns (N W M : Nat) (w : World) (r : Ending) (w' : World) : Prop := ∃ g R, r = .returned (.pointer (some ⟨g, 0, none⟩)) ∧ Lg w' g R N W M (List.replicate N []) ∧ w.heap.size ≤ g ∧ w.heap.size ≤ R ∧ w.grownBy w' none
theorem rep_at (N t : Nat) : (List.replicate N ([] : List Bool)).getD t [] = [] := by
  rw [List.getD_eq_getElem?_getD, List.getElem?_replicate]
  split <;> rfl
theorem Lg.fresh (w : World) (N W M : Nat) (h8 : N ≤ 8) (h1 : 1 ≤ W) (h2 : W ≤ 64) (h3 : M ≤ W) :
    Lg ((w.alloc (.cells (madeCells #[nl, .int .i64 0, .int .i64 0] (N * 3)) 44)).alloc (.cells #[.int .i64 (W : Int), .int .i64 (M : Int), .slice (some ⟨w.heap.size, 0, none⟩) N N] 40)) (w.heap.size + 1) w.heap.size N W M (List.replicate N []) := by
  have hsz : (w.alloc (.cells (madeCells #[nl, .int .i64 0, .int .i64 0] (N * 3)) 44)).heap.size = w.heap.size + 1 := by simp
  refine ⟨?_, ⟨madeCells #[nl, .int .i64 0, .int .i64 0] (N * 3), ?_, fun t ht => ?_⟩, by simp, h8, h1, h2, h3, fun t => by rw [rep_at]; simp⟩
  · rw [← hsz, heap_alloc_new]
  · rw [Below.heap_alloc _ _ _ (by omega), heap_alloc_new]
  · rw [rep_at]
    exact ⟨nl, 0, 0, made_at N t ht 0 (by omega), made_at N t ht 1 (by omega), made_at N t ht 2 (by omega), Lb.nil _ _⟩
theorem New_any (N W M : Nat) (h8 : N ≤ 8) (h1 : 1 ≤ W) (h2 : W ≤ 64) (h3 : M ≤ W) (w : World) : Calls Try.prog 6 #[.int .i64 (N : Int), .int .i64 (W : Int), .int .i64 (M : Int)] w (NewAns N W M w) := by
  have FR := Lib.hid (Lg.fresh w N W M h8 h1 h2 h3)
  have mk := make_spent N h8
  have e1 : near (W : Int) 1 64 = (W : Int) := by unfold near; rw [if_neg (by omega), if_neg (by omega)]
  have e2 : near (M : Int) 0 (W : Int) = (M : Int) := by unfold near; rw [if_neg (by omega), if_neg (by omega)]
  have e3 : near (N : Int) 0 8 = (N : Int) := by unfold near; rw [if_neg (by omega), if_neg (by omega)]
  have C1 := Lib.hid (fun w => (show Calls Try.prog 15 #[.int .i64 (W : Int), .int .i64 1, .int .i64 64] w (fun e w' => e = .returned (.int .i64 (W : Int)) ∧ w = w') from by have := Clamp_any W 1 64 w; rwa [e1] at this))
  have C2 := Lib.hid (fun w => (show Calls Try.prog 15 #[.int .i64 (M : Int), .int .i64 0, .int .i64 (W : Int)] w (fun e w' => e = .returned (.int .i64 (M : Int)) ∧ w = w') from by have := Clamp_any M 0 W w; rwa [e2] at this))
  have C3 := Lib.hid (fun w => (show Calls Try.prog 15 #[.int .i64 (N : Int), .int .i64 0, .int .i64 8] w (fun e w' => e = .returned (.int .i64 (N : Int)) ∧ w = w') from by have := Clamp_any N 0 8 w; rwa [e3] at this))
  generalize madeCells #[nl, .int .i64 0, .int .i64 0] (N * 3) = cs at mk FR
  go_enter Try.func6, Try.ntmps6
  go_wp2_with (first
    | (go_at_call 15; (with_reducible refine (C1.out _).mono ?_); rintro e w' ⟨rfl, hw⟩; subst hw)
    | (go_at_call 15; (with_reducible refine (C2.out _).mono ?_); rintro e w' ⟨rfl, hw⟩; subst hw)
    | (go_at_call 15; (with_reducible refine (C3.out _).mono ?_); rintro e w' ⟨rfl, hw⟩; subst hw))
  go_ret
  exact ⟨_, _, rfl, FR.out, by omega, Nat.le_refl _, (World.grownBy_alloc _ _ _).trans (World.grownBy_alloc _ _ _)⟩
end Go.Proofs.Ytgfgchmpdocihaa.lg
