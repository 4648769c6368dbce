/- A ledger in memory; has, behind, count. -/
import Derived.Test.YtgfgchmpdocihaaLgA
namespace Go.Proofs.Ytgfgchmpdocihaa.lg
open Go.ChangeShapes Go.WideShapes Go.ChangeAt Go.RowKit gen lb
set_option linter.unusedVariables false
set_option maxHeartbeats 1000000
set_option maxRecDepth 100000

/-- What a thread's three cells hold. -/
def Tri (w : World) (cs : Array Value) (t : Nat) (l : List Bool) : Prop :=
  ∃ v x y, cs[t * 3]? = some v ∧ cs[t * 3 + 1]? = some (.int .i64 x) ∧ cs[t * 3 + 2]? = some (.int .i64 y) ∧ Lb w 0 v l
/-- A ledger at g, its threads at R. -/
structure Lg (w : World) (g R N win most : Nat) (ls : List (List Bool)) : Prop where
  box : w.heap[g]? = some (.cells #[.int .i64 (win : Int), .int .i64 (most : Int), .slice (some ⟨R, 0, none⟩) N N] 40 (0, 0))
  row : ∃ cs, w.heap[R]? = some (.cells cs 44 (0, 0)) ∧ ∀ t, t < N → Tri w cs t (ls.getD t [])
  len : ls.length = N
  n8 : N ≤ 8
  w1 : 1 ≤ win
  w64 : win ≤ 64
  ms : most ≤ win
  le : ∀ t, (ls.getD t []).length ≤ win
section
variable {w w' : World} {g R N win most : Nat} {ls : List (List Bool)} {L : List Nat}
theorem Lg.g_lt (h : Lg w g R N win most ls) : g < w.heap.size := (Array.getElem?_eq_some_iff.1 h.box).1
theorem Lg.R_lt (h : Lg w g R N win most ls) : R < w.heap.size := by
  obtain ⟨cs, h1, _⟩ := h.row
  exact (Array.getElem?_eq_some_iff.1 h1).1
theorem Lg.ne (h : Lg w g R N win most ls) : g ≠ R := by
  obtain ⟨cs, h1, _⟩ := h.row
  exact gr.ty_ne h.box h1 (by decide)
theorem Lg.new (h : Lg w g R N win most ls) (hg : w.grownBy w' none) : Lg w' g R N win most ls := by
  obtain ⟨cs, h1, h2⟩ := h.row
  have hR := h.R_lt
  have hG := h.g_lt
  refine ⟨(hg.block g hG (by simp)).trans h.box, ⟨cs, (hg.block R hR (by simp)).trans h1, fun t ht => ?_⟩, h.len, h.n8, h.w1, h.w64, h.ms, h.le⟩
  obtain ⟨v, x, y, a1, a2, a3, a4⟩ := h2 t ht
  exact ⟨v, x, y, a1, a2, a3, a4.new hg⟩
/-- What is not the ledger's is written on. -/
theorem Lg.off (h : Lg w g R N win most ls) {q : Nat} (hg : w.grownBy w' (some q)) (h1 : q ≠ g) (h2 : q ≠ R) (h3 : ∀ cs z, w.heap[q]? ≠ some (.cells cs 4 z)) : Lg w' g R N win most ls := by
  obtain ⟨cs, a1, a2⟩ := h.row
  refine ⟨(hg.block g h.g_lt (by simpa using fun e => h1 e.symm)).trans h.box, ⟨cs, (hg.block R h.R_lt (by simpa using fun e => h2 e.symm)).trans a1, fun t ht => ?_⟩, h.len, h.n8, h.w1, h.w64, h.ms, h.le⟩
  obtain ⟨v, x, y, b1, b2, b3, b4⟩ := a2 t ht
  refine ⟨v, x, y, b1, b2, b3, b4.kept hg (.inr fun e => ?_)⟩
  have hlt := b4.lt q e
  have hq : w.heap[q]? = some w.heap[q] := by simp [hlt]
  exact b4.off hq (fun cs z e2 => h3 cs z (hq.trans (congrArg some e2))) e
theorem Lg.c0 (h : Lg w g R N win most ls) : w.cell? ⟨g, 0, none⟩ = some (.int .i64 (win : Int)) := by rw [cell_of_row w g 0 _ _ _ h.box]; rfl
theorem Lg.c1 (h : Lg w g R N win most ls) : w.cell? ⟨g, 1, none⟩ = some (.int .i64 (most : Int)) := by rw [cell_of_row w g 1 _ _ _ h.box]; rfl
theorem Lg.c2 (h : Lg w g R N win most ls) : w.cell? ⟨g, 2, none⟩ = some (.slice (some ⟨R, 0, none⟩) N N) := by rw [cell_of_row w g 2 _ _ _ h.box]; rfl
theorem Lg.free (h : Lg w g R N win most ls) (i : Nat) : w.frozen? ⟨R, i, none⟩ = false := by
  obtain ⟨cs, h1, _⟩ := h.row
  exact frozen_of_row w R i _ _ h1
/-- A thread's list and its two numbers. -/
theorem Lg.at_ (h : Lg w g R N win most ls) {t : Nat} (ht : t < N) :
    ∃ A n c x y, w.cell? ⟨R, t * 3, none⟩ = some (.slice A n c) ∧ w.cell? ⟨R, t * 3 + 1, none⟩ = some (.int .i64 x) ∧ w.cell? ⟨R, t * 3 + 2, none⟩ = some (.int .i64 y) ∧ n = (ls.getD t []).length ∧ Lb w 0 (.slice A n c) (ls.getD t []) := by
  obtain ⟨cs, h1, h2⟩ := h.row
  obtain ⟨v, x, y, a1, a2, a3, a4⟩ := h2 t ht
  obtain ⟨A, n, c, rfl, hn, _, _⟩ := a4.shape
  exact ⟨A, n, c, x, y, by rw [cell_of_row w R _ _ _ _ h1, a1], by rw [cell_of_row w R _ _ _ _ h1, a2], by rw [cell_of_row w R _ _ _ _ h1, a3], hn, a4⟩
theorem has_in (h : Lg w g R N win most ls) (t : Nat) (ht : t < N) : Calls Try.prog 16 #[.pointer (some ⟨g, 0, none⟩), .int .i64 (t : Int)] w fun e w' => e = .returned (.bool true) ∧ w = w' := by
  have c2 := h.c2
  have n8 := h.n8
  clear h
  have t0 : decide ((0 : Int) ≤ (t : Int)) = true := decide_eq_true (by omega)
  have t1 : decide ((t : Int) < (N : Int)) = true := decide_eq_true (by omega)
  go_enter Try.func16, Try.ntmps16
  go_wp2
  go_ret
  exact ⟨rfl, rfl⟩
/-- How many of a list are the collector's. -/
theorem count_any {A : Option Addr} {n c : Nat} {m : List Bool} (h : Rb w A n c m) (hn : n ≤ 4194304) : Calls Try.prog 18 #[.slice A n c] w fun e w' => e = .returned (.int .i64 (cnt m : Int)) ∧ w = w' := by
  have H := Lib.hid h
  clear h
  go_enter Try.func18, Try.ntmps18
  go_wp2
  go_loopw [3, 8] (fun s i wr => ∃ k : Nat, k ≤ n ∧ i = .int .i64 k ∧ s = .int .i64 (cnt (m.take k) : Int) ∧ wr = w) (fun _ i _ => n - (intOf i).toNat)
  case atStart => exact ⟨0, Nat.zero_le _, rfl, by simp [cnt], rfl⟩
  case round =>
    obtain ⟨k, hk, rfl, rfl, rfl⟩ := hrel
    by_cases hlt : k < n
    · obtain ⟨b1, o1, rfl, g1⟩ := H.out.at_ hlt
      have hkm : k < m.length := by rw [H.out.1]; exact hlt
      have T2 := Lib.hid (show cnt (m.take (k + 1)) = cnt (m.take k) + cnt [m.getD k false] by
        rw [List.take_succ_eq_append_getElem hkm, cnt_append, List.getD_eq_getElem?_getD, List.getElem?_eq_getElem hkm]
        rfl)
      have t1 : cnt (m.take k) ≤ k := Nat.le_trans (cnt_le _) (by rw [List.length_take]; omega)
      clear hkm
      generalize m.getD k false = y at g1 T2
      generalize cnt (m.take k) = s at *
      cases y
      · go_wp2
        go_roundw
        case rel => exact ⟨k + 1, by omega, by go_num, by rw [T2.out]; rfl, trivial⟩
        case measure => simp [intOf]; omega
      · go_wp2
        go_roundw
        case rel => exact ⟨k + 1, by omega, by go_num, by rw [T2.out]; show _ = Value.int .i64 ((s + 1 : Nat) : Int); go_num, trivial⟩
        case measure => simp [intOf]; omega
    · obtain rfl : k = n := by omega
      go_wp2
      go_ret
      exact ⟨by rw [List.take_of_length_le (by rw [H.out.1]; exact Nat.le_refl _)]; rfl, rfl⟩
theorem cut_rb {w : World} {base k c d : Nat} {A : Option Addr} {l : List Bool} (h : Lb w base (.slice A k c) l) (hk : k = l.length) (hd : d ≤ k) : Rb w (if c = d then A else A.map (·.add d)) (k - d) (c - d) (l.drop d) := by
  have hr := h.rb hk
  rcases h.head with ⟨rfl, rfl, rfl⟩ | ⟨b, rfl⟩
  · obtain rfl : d = 0 := by omega
    simpa using hr
  · refine hr.drop (k := d) (by omega) (by have := hr.2.1; omega) (by have := hr.2.2.1; omega) (fun e => ?_) (fun hj => ?_)
    · split at e <;> cases e
    · rw [if_neg (by have := hr.2.1; omega)]
      simp [Addr.add]
      omega
theorem cut_zero {w : World} {base k c : Nat} {A : Option Addr} {l : List Bool} (h : Lb w base (.slice A k c) l) : A = if c = 0 then A else A.map (·.add 0) := by
  rcases h.head with ⟨rfl, rfl, rfl⟩ | ⟨b, rfl⟩
  · simp
  · split
    · rfl
    · simp [Addr.add]
/-- What is last behind letters that come. -/
theorem behind_any (h : Lg w g R N win most ls) (t : Nat) (ht : t < N) (n : Nat) (hn : n ≤ 64) (y : Bool) :
    Calls Try.prog 17 #[.pointer (some ⟨g, 0, none⟩), .int .i64 (t : Int), .int .i64 (n : Int), .bool y] w (LbAns (beh win n (ls.getD t []) y) w) := by
  obtain ⟨A, k, c, z1, z2, a1, a2, a3, hk, hl⟩ := h.at_ ht
  have hkw : k ≤ win := by rw [hk]; exact h.le t
  have c0 := h.c0
  have c2 := h.c2
  have w1 := h.w1
  have w64 := h.w64
  have n8 := h.n8
  have t0 : (0 : Int) ≤ (t : Int) := by omega
  have t1 : (t : Int) < (N : Int) := by omega
  clear h
  generalize ls.getD t [] = l at hk hl ⊢
  obtain ⟨come, hcome⟩ : ∃ come, come = min n win := ⟨_, rfl⟩
  have hc1 : come ≤ win ∧ come ≤ n := by omega
  obtain ⟨d, hd⟩ : ∃ d, d = k + come - win := ⟨_, rfl⟩
  have hd1 : d ≤ k := by omega
  have CU := Lib.hid (cut_rb hl hk hd1)
  have HE := Lib.hid (show beh win n l y = l.drop d ++ List.replicate come y by unfold beh; rw [hd, hcome, hk])
  have HR := Lib.hid (fun W b (hb : World.cell? W ⟨b, 0, none⟩ = some (.bool y)) => Repeat_any (Rb.one hb) come (by omega))
  have CL := Lib.hid (fun A' n' c' (e1 : A' = if c = d then A else A.map (·.add d)) (e2 : n' = k - d) (e3 : c' = c - d) => (show Calls Try.prog 19 #[.slice A' n' c'] w (LbAns (l.drop d) w) from by
    subst e1 e2 e3
    exact sclone_any CU.out (by omega)))
  have HL := Lib.hid hl
  have HK := Lib.hid hk
  clear hl hk CU
  have hcs : (win < n ∧ k = 0 ∧ come = win ∧ d = 0) ∨ (win < n ∧ 0 < k ∧ come = win ∧ d = k) ∨ (n ≤ win ∧ win < k + n ∧ come = n ∧ d = k + n - win) ∨ (n ≤ win ∧ k + n ≤ win ∧ come = n ∧ d = 0) := by omega
  clear hcome hd
  have NL : (l.drop d).length ≤ 64 := by rw [List.length_drop]; have := HK.out; omega
  generalize l.drop d = l1 at CL HE NL
  rcases hcs with ⟨q1, q2, q3, q4⟩ | ⟨q1, q2, q3, q4⟩ | ⟨q1, q2, q3, q4⟩ | ⟨q1, q2, q3, q4⟩
  · subst q2 q3 q4
    go_enter Try.func17, Try.ntmps17
    go_wp2_with (first
      | (go_at_call 19; (with_reducible refine (CL.out _ _ _ (by first | rfl | (rw [q4]) | exact cut_zero HL.out) (by first | rfl | omega) (by first | rfl | omega)).mono ?_); rintro r w2 ⟨A2, N2, c2, rfl, hn2, o2, g2⟩; have HN2 := Lib.hid hn2; have O2 := Lib.hid o2; have G2 := Lib.hid g2; clear hn2 o2 g2)
      | (go_at_call 20; (with_reducible refine (HR.out _ _ (by go_simp)).mono ?_); rintro r w3 ⟨A3, N3, c3, rfl, hn3, o3, g3⟩; have HN3 := Lib.hid hn3; have O3 := Lib.hid o3; have G3 := Lib.hid ((World.grownBy_alloc w2 _ none).trans g3); clear hn3 o3 g3)
      | (refine append_bools rfl (.tmp 38) (.tmp 42) rfl w.heap.size (.slice A2 N2 c2) l1 rfl (O2.out.new G3.out) A3 N3 c3 _ rfl (O3.out.rb HN3.out) (by have := HN3.out; simp at this; omega) (by have := G2.out.size; have := G3.out.size; omega) ?_; intro A4 N4 c4 w4 hn4 o4 g4; have HN4 := Lib.hid hn4; have O4 := Lib.hid o4; have G4 := Lib.hid (li.grown_own (G2.out.trans G3.out) (O2.out.new G3.out) g4 (Nat.le_refl _)); clear hn4 o4 g4))
    all_goals
      go_ret
      rw [HE.out]
      exact ⟨A4, N4, c4, rfl, HN4.out, O4.out, G4.out⟩
  · subst q3 q4
    go_enter Try.func17, Try.ntmps17
    go_wp2_with (first
      | (go_at_call 19; (with_reducible refine (CL.out _ _ _ (by first | rfl | (rw [q4]) | exact cut_zero HL.out) (by first | rfl | omega) (by first | rfl | omega)).mono ?_); rintro r w2 ⟨A2, N2, c2, rfl, hn2, o2, g2⟩; have HN2 := Lib.hid hn2; have O2 := Lib.hid o2; have G2 := Lib.hid g2; clear hn2 o2 g2)
      | (go_at_call 20; (with_reducible refine (HR.out _ _ (by go_simp)).mono ?_); rintro r w3 ⟨A3, N3, c3, rfl, hn3, o3, g3⟩; have HN3 := Lib.hid hn3; have O3 := Lib.hid o3; have G3 := Lib.hid ((World.grownBy_alloc w2 _ none).trans g3); clear hn3 o3 g3)
      | (refine append_bools rfl (.tmp 38) (.tmp 42) rfl w.heap.size (.slice A2 N2 c2) l1 rfl (O2.out.new G3.out) A3 N3 c3 _ rfl (O3.out.rb HN3.out) (by have := HN3.out; simp at this; omega) (by have := G2.out.size; have := G3.out.size; omega) ?_; intro A4 N4 c4 w4 hn4 o4 g4; have HN4 := Lib.hid hn4; have O4 := Lib.hid o4; have G4 := Lib.hid (li.grown_own (G2.out.trans G3.out) (O2.out.new G3.out) g4 (Nat.le_refl _)); clear hn4 o4 g4))
    all_goals
      go_ret
      rw [HE.out]
      exact ⟨A4, N4, c4, rfl, HN4.out, O4.out, G4.out⟩
  · subst q3
    go_enter Try.func17, Try.ntmps17
    go_wp2_with (first
      | (go_at_call 19; (with_reducible refine (CL.out _ _ _ (by first | rfl | (rw [q4]) | exact cut_zero HL.out) (by first | rfl | omega) (by first | rfl | omega)).mono ?_); rintro r w2 ⟨A2, N2, c2, rfl, hn2, o2, g2⟩; have HN2 := Lib.hid hn2; have O2 := Lib.hid o2; have G2 := Lib.hid g2; clear hn2 o2 g2)
      | (go_at_call 20; (with_reducible refine (HR.out _ _ (by go_simp)).mono ?_); rintro r w3 ⟨A3, N3, c3, rfl, hn3, o3, g3⟩; have HN3 := Lib.hid hn3; have O3 := Lib.hid o3; have G3 := Lib.hid ((World.grownBy_alloc w2 _ none).trans g3); clear hn3 o3 g3)
      | (refine append_bools rfl (.tmp 38) (.tmp 42) rfl w.heap.size (.slice A2 N2 c2) l1 rfl (O2.out.new G3.out) A3 N3 c3 _ rfl (O3.out.rb HN3.out) (by have := HN3.out; simp at this; omega) (by have := G2.out.size; have := G3.out.size; omega) ?_; intro A4 N4 c4 w4 hn4 o4 g4; have HN4 := Lib.hid hn4; have O4 := Lib.hid o4; have G4 := Lib.hid (li.grown_own (G2.out.trans G3.out) (O2.out.new G3.out) g4 (Nat.le_refl _)); clear hn4 o4 g4))
    all_goals
      go_ret
      rw [HE.out]
      exact ⟨A4, N4, c4, rfl, HN4.out, O4.out, G4.out⟩
  · subst q3 q4
    go_enter Try.func17, Try.ntmps17
    go_wp2_with (first
      | (go_at_call 19; (with_reducible refine (CL.out _ _ _ (by first | rfl | (rw [q4]) | exact cut_zero HL.out) (by first | rfl | omega) (by first | rfl | omega)).mono ?_); rintro r w2 ⟨A2, N2, c2, rfl, hn2, o2, g2⟩; have HN2 := Lib.hid hn2; have O2 := Lib.hid o2; have G2 := Lib.hid g2; clear hn2 o2 g2)
      | (go_at_call 20; (with_reducible refine (HR.out _ _ (by go_simp)).mono ?_); rintro r w3 ⟨A3, N3, c3, rfl, hn3, o3, g3⟩; have HN3 := Lib.hid hn3; have O3 := Lib.hid o3; have G3 := Lib.hid ((World.grownBy_alloc w2 _ none).trans g3); clear hn3 o3 g3)
      | (refine append_bools rfl (.tmp 38) (.tmp 42) rfl w.heap.size (.slice A2 N2 c2) l1 rfl (O2.out.new G3.out) A3 N3 c3 _ rfl (O3.out.rb HN3.out) (by have := HN3.out; simp at this; omega) (by have := G2.out.size; have := G3.out.size; omega) ?_; intro A4 N4 c4 w4 hn4 o4 g4; have HN4 := Lib.hid hn4; have O4 := Lib.hid o4; have G4 := Lib.hid (li.grown_own (G2.out.trans G3.out) (O2.out.new G3.out) g4 (Nat.le_refl _)); clear hn4 o4 g4))
    all_goals
      go_ret
      rw [HE.out]
      exact ⟨A4, N4, c4, rfl, HN4.out, O4.out, G4.out⟩
end
end Go.Proofs.Ytgfgchmpdocihaa.lg
