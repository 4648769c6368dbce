/- A ledger's Run, Admit, Work. -/
import Derived.Test.YtgfgchmpdocihaaLgB
import Derived.Deep.RegionHeld3
import Derived.Deep.RegionHeldLaw
import Derived.BigQuiet
namespace Go.Proofs.Ytgfgchmpdocihaa.lg
open Go.ChangeShapes Go.WideShapes Go.ChangeAt Go.RowKit gen lb
set_option linter.unusedVariables false
set_option maxHeartbeats 1000000
set_option maxRecDepth 100000
theorem set_same {ls : List (List Bool)} {k : Nat} (l : List Bool) (h : k < ls.length) : (ls.set k l).getD k [] = l := by
  rw [List.getD_eq_getElem?_getD, List.getElem?_set]
  simp [h]
theorem set_else {ls : List (List Bool)} {k i : Nat} (l : List Bool) (h : k ≠ i) : (ls.set k l).getD i [] = ls.getD i [] := by
  rw [List.getD_eq_getElem?_getD, List.getElem?_set, if_neg h, ← List.getD_eq_getElem?_getD]
section
variable {w w' : World} {g R N win most : Nat} {ls : List (List Bool)} {L : List Nat}
theorem lb_off {w : World} {base : Nat} {v : Value} {m : List Bool} {R : Nat} {cs : Array Value} (h : Lb w base v m) (hR : w.heap[R]? = some (.cells cs 44 (0, 0))) : v.ownBlock = none ∨ v.ownBlock ≠ some R :=
  .inr (h.off hR (fun cs z => by simp))
theorem Lg.set (h : Lg w g R N win most ls) {t : Nat} (ht : t < N) {v : Value} {l : List Bool} (hv : Lb w 0 v l) (hl : l.length ≤ win) : Lg (w.setCell ⟨R, t * 3, none⟩ v) g R N win most (ls.set t l) := by
  obtain ⟨cs, h1, h2⟩ := h.row
  have e3 := heap_setCell_same w R (t * 3) _ _ v h1
  have GS := gr.grown_set w R (t * 3) v
  refine ⟨(heap_setCell_other w ⟨R, t * 3, none⟩ g v (fun e => h.ne (by simpa using e))).trans h.box, ⟨_, e3, fun i hi => ?_⟩, by rw [List.length_set]; exact h.len, h.n8, h.w1, h.w64, h.ms, fun i => ?_⟩
  · obtain ⟨v1, x, y, a1, a2, a3, a4⟩ := h2 i hi
    by_cases e : t = i
    · subst e
      rw [set_same _ (by rw [h.len]; exact hi)]
      have hb := (Array.getElem?_eq_some_iff.1 a1).1
      refine ⟨v, x, y, by rw [Array.getElem?_setIfInBounds_self_of_lt hb], ?_, ?_, hv.kept GS (lb_off hv h1)⟩
      · rw [Array.getElem?_setIfInBounds_ne (by omega)]; exact a2
      · rw [Array.getElem?_setIfInBounds_ne (by omega)]; exact a3
    · rw [set_else _ e]
      refine ⟨v1, x, y, ?_, ?_, ?_, a4.kept GS (lb_off a4 h1)⟩
      · rw [Array.getElem?_setIfInBounds_ne (by omega)]; exact a1
      · rw [Array.getElem?_setIfInBounds_ne (by omega)]; exact a2
      · rw [Array.getElem?_setIfInBounds_ne (by omega)]; exact a3
  · by_cases e : t = i
    · subst e
      by_cases hi : t < ls.length
      · rw [set_same _ hi]; exact hl
      · rw [List.set_eq_of_length_le (by omega)]; exact h.le t
    · rw [set_else _ e]; exact h.le i
/-- A thread's number is another one. -/
theorem Lg.num (h : Lg w g R N win most ls) {t : Nat} (ht : t < N) (j : Nat) (hj : j = 1 ∨ j = 2) (z : Int) : Lg (w.setCell ⟨R, t * 3 + j, none⟩ (.int .i64 z)) g R N win most ls := by
  obtain ⟨cs, h1, h2⟩ := h.row
  have e3 := heap_setCell_same w R (t * 3 + j) _ _ (.int .i64 z) h1
  have GS := gr.grown_set w R (t * 3 + j) (.int .i64 z)
  refine ⟨(heap_setCell_other w ⟨R, t * 3 + j, none⟩ g _ (fun e => h.ne (by simpa using e))).trans h.box, ⟨_, e3, fun i hi => ?_⟩, h.len, h.n8, h.w1, h.w64, h.ms, h.le⟩
  obtain ⟨v1, x, y, a1, a2, a3, a4⟩ := h2 i hi
  have b2 := (Array.getElem?_eq_some_iff.1 a2).1
  have b3 := (Array.getElem?_eq_some_iff.1 a3).1
  by_cases e : t = i
  · subst e
    rcases hj with rfl | rfl
    · refine ⟨v1, z, y, ?_, by rw [Array.getElem?_setIfInBounds_self_of_lt b2], ?_, a4.kept GS (lb_off a4 h1)⟩
      · rw [Array.getElem?_setIfInBounds_ne (by omega)]; exact a1
      · rw [Array.getElem?_setIfInBounds_ne (by omega)]; exact a3
    · refine ⟨v1, x, z, ?_, ?_, by rw [Array.getElem?_setIfInBounds_self_of_lt b3], a4.kept GS (lb_off a4 h1)⟩
      · rw [Array.getElem?_setIfInBounds_ne (by omega)]; exact a1
      · rw [Array.getElem?_setIfInBounds_ne (by omega)]; exact a2
  · refine ⟨v1, x, y, ?_, ?_, ?_, a4.kept GS (lb_off a4 h1)⟩
    · rw [Array.getElem?_setIfInBounds_ne (by omega)]; exact a1
    · rw [Array.getElem?_setIfInBounds_ne (by omega)]; exact a2
    · rw [Array.getElem?_setIfInBounds_ne (by omega)]; exact a3
/-- What a call answers that tells letters. -/
def StA (g R N win most : Nat) (ls : List (List Bool)) (w : World) (r : Ending) (w' : World) : Prop := r = .returned (.bool true) ∧ Lg w' g R N win most ls ∧ w.grownBy w' (some R)
theorem Run_no (h : Lg w g R N win most ls) (t : Nat) (ht : t < N) (n : Int) (hn : n < 0 ∨ 64 < n) : Calls Try.prog 8 #[.pointer (some ⟨g, 0, none⟩), .int .i64 (t : Int), .int .i64 n] w fun e w' => e = .returned (.bool false) ∧ w = w' := by
  have HS := Lib.hid (has_in h t ht)
  clear h
  by_cases h0 : n < 0
  · have d0 : decide (n < 0) = true := decide_eq_true h0
    go_enter Try.func8, Try.ntmps8
    go_wp2_with (go_at_call 16; (with_reducible refine HS.out.mono ?_); rintro r w' ⟨rfl, hw⟩; subst hw)
    go_ret
    exact ⟨rfl, rfl⟩
  · have d0 : decide (n < 0) = false := decide_eq_false h0
    have d1 : decide ((64 : Int) < n) = true := decide_eq_true (by omega)
    go_enter Try.func8, Try.ntmps8
    go_wp2_with (go_at_call 16; (with_reducible refine HS.out.mono ?_); rintro r w' ⟨rfl, hw⟩; subst hw)
    go_ret
    exact ⟨rfl, rfl⟩
theorem Run_yes (h : Lg w g R N win most ls) (t : Nat) (ht : t < N) (n : Nat) (hn : n ≤ 64) : Calls Try.prog 8 #[.pointer (some ⟨g, 0, none⟩), .int .i64 (t : Int), .int .i64 (n : Int)] w (StA g R N win most (ls.set t (beh win n (ls.getD t []) false)) w) := by
  have HS := Lib.hid (has_in h t ht)
  have HL := Lib.hid (show ∀ W, w.grownBy W none → Lg W g R N win most ls from fun W hW => h.new hW)
  have BH := Lib.hid (show ∀ W, w.grownBy W none → Calls Try.prog 17 #[.pointer (some ⟨g, 0, none⟩), .int .i64 (t : Int), .int .i64 (n : Int), .bool false] W (LbAns (beh win n (ls.getD t []) false) W) from fun W hW => behind_any (h.new hW) t ht n hn false)
  have BL := Lib.hid (beh_length (n := n) false (h.le t))
  have c2 := h.c2
  have n8 := h.n8
  have HT := Lib.hid ht
  have t0 : (0 : Int) ≤ (t : Int) := by omega
  have t1 : (t : Int) < (N : Int) := by omega
  have d0 : decide ((n : Int) < 0) = false := decide_eq_false (by omega)
  have d1 : decide ((64 : Int) < (n : Int)) = false := decide_eq_false (by omega)
  have gne := h.ne
  clear h
  go_enter Try.func8, Try.ntmps8
  go_wp2_with (go_at_call 16; (with_reducible refine HS.out.mono ?_); rintro r w' ⟨rfl, hw⟩; subst hw)
  go_region_held3 (fun W => W.cell? ⟨g, 2, none⟩ = some (.slice (some ⟨R, 0, none⟩) N N)) (first | exact c2 | exact e2 | exact (gr.grown_set _ _ _ _).cell e2 (by simpa using gne) | go_keep) (first
    | (go_at_call 17; (with_reducible refine (BH.out _ (by first | exact World.grownBy.refl _ _ | exact gr.grown_drew _ _ | exact li.grown_drewN _ _ _)).mono ?_); rintro r w2 ⟨A2, N2, c2', rfl, hn2, o2, g2⟩; have O2 := Lib.hid (o2.mono (Nat.zero_le _)); have G2 := Lib.hid (show w.grownBy w2 none from by first | exact g2 | exact (gr.grown_drew _ _).trans g2 | exact (li.grown_drewN _ _ _).trans g2); have e2 := (HL.out _ G2.out).c2; have fz := (HL.out _ G2.out).free (t * 3); obtain ⟨A9, N9, c9, z1, z2, b1, b2, b3, _, _⟩ := (HL.out _ G2.out).at_ HT.out; clear hn2 o2 g2))
  have L3 := Lib.hid ((HL.out _ G2.out).set HT.out O2.out BL.out)
  have G3 := Lib.hid (li.grown_then G2.out (gr.grown_set w2 R (t * 3) (.slice A2 N2 c2')))
  clear b1 b2 b3 fz e2
  generalize w2.setCell ⟨R, t * 3, none⟩ (.slice A2 N2 c2') = w3 at L3 G3 ⊢
  have e3 := L3.out.c2
  have fz1 := L3.out.free (t * 3 + 1)
  obtain ⟨A8, N8, c8, x1, x2, b1, b2, b3, _, _⟩ := L3.out.at_ HT.out
  go_wp2
  go_ret
  exact ⟨rfl, L3.out.num HT.out 1 (.inl rfl) _, li.grown_then (World.grownBy.refl _ _) (G3.out.trans (gr.grown_set _ _ _ _))⟩
theorem Admit_no (h : Lg w g R N win most ls) (t : Nat) (ht : t < N) (n : Int) (hn : n < 0 ∨ (most : Int) < n) : Calls Try.prog 14 #[.pointer (some ⟨g, 0, none⟩), .int .i64 (t : Int), .int .i64 n] w fun e w' => e = .returned (.bool false) ∧ w.grownBy w' none := by
  have HS := Lib.hid (fun k => (has_in (h.new (li.grown_drewN w k none)) t ht).mono (fun e w' (hh : e = .returned (.bool true) ∧ w.drewN k = w') => (⟨hh.1, hh.2.symm⟩ : e = .returned (.bool true) ∧ w' = w.drewN k)))
  have c1 := h.c1
  clear h
  by_cases h0 : n < 0
  · have d0 : decide ((0 : Int) ≤ n) = false := decide_eq_false (by omega)
    go_enter Try.func14, Try.ntmps14
    go_wp2
    go_quiet (first | (go_at_call 16; refine Calls.quiet_of_same (HS.out _)))
    go_wp2
    go_ret
    exact ⟨rfl, li.grown_drewN _ _ _⟩
  · have d0 : decide ((0 : Int) ≤ n) = true := decide_eq_true (by omega)
    have d1 : decide (n ≤ (most : Int)) = false := decide_eq_false (by omega)
    go_enter Try.func14, Try.ntmps14
    go_wp2
    go_quiet (first | (go_at_call 16; refine Calls.quiet_of_same (HS.out _)))
    go_wp2
    go_ret
    exact ⟨rfl, li.grown_drewN _ _ _⟩
theorem Admit_in (h : Lg w g R N win most ls) (t : Nat) (ht : t < N) (n : Nat) (hn : n ≤ most) : Calls Try.prog 14 #[.pointer (some ⟨g, 0, none⟩), .int .i64 (t : Int), .int .i64 (n : Int)] w fun e w' => e = .returned (.bool (decide (cnt (beh win n (ls.getD t []) true) ≤ most))) ∧ w.grownBy w' none := by
  have HS := Lib.hid (fun W (hW : w.grownBy W none) => has_in (h.new hW) t ht)
  have BH := Lib.hid (show ∀ W, w.grownBy W none → Calls Try.prog 17 #[.pointer (some ⟨g, 0, none⟩), .int .i64 (t : Int), .int .i64 (n : Int), .bool true] W (LbAns (beh win n (ls.getD t []) true) W) from fun W hW => behind_any (h.new hW) t ht n (by have := h.w64; have := h.ms; omega) true)
  have BL := Lib.hid (beh_length (n := n) true (h.le t))
  have W64 := Lib.hid h.w64
  have C1 := Lib.hid (fun W (hW : w.grownBy W none) => (h.new hW).c1)
  have c1 := h.c1
  clear h
  generalize beh win n (ls.getD t []) true = l at *
  have d0 : decide ((0 : Int) ≤ (n : Int)) = true := decide_eq_true (by omega)
  have d1 : decide ((n : Int) ≤ (most : Int)) = true := decide_eq_true (by omega)
  go_enter Try.func14, Try.ntmps14
  go_wp2
  go_region_held3 (fun W => W.cell? ⟨g, 1, none⟩ = some (.int .i64 (most : Int))) (first | exact c1 | exact c2 | go_keep) (first
    | (have mark := G2; go_at_call 18; (with_reducible refine (count_any (m := l) (O2.out.rb HN2.out) (by have := HN2.out; have := BL.out; have := W64.out; omega)).mono ?_); rintro r w' ⟨rfl, hw⟩; subst hw)
    | (go_at_call 17; (with_reducible refine (BH.out _ (by first | exact World.grownBy.refl _ _ | exact gr.grown_drew _ _ | exact li.grown_drewN _ _ _)).mono ?_); rintro r w2 ⟨A2, N2, c2', rfl, hn2, o2, g2⟩; have O2 := Lib.hid o2; have HN2 := Lib.hid hn2; have G2 := Lib.hid (show w.grownBy w2 none from by first | exact g2 | exact (gr.grown_drew _ _).trans g2 | exact (li.grown_drewN _ _ _).trans g2); have c2 := C1.out _ G2.out; clear hn2 o2 g2)
    | (go_at_call 16; (with_reducible refine (HS.out _ (by first | exact World.grownBy.refl _ _ | exact gr.grown_drew _ _ | exact li.grown_drewN _ _ _)).mono ?_); rintro r w' ⟨rfl, hw⟩; subst hw))
  all_goals go_wp2
  all_goals go_ret
  all_goals exact ⟨rfl, G2.out⟩
end
end Go.Proofs.Ytgfgchmpdocihaa.lg
