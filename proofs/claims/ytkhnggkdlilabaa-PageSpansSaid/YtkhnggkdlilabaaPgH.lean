/- What a step of the law's own script on a table does. -/
import Derived.Test.YtkhnggkdlilabaaPgG
import Derived.BigRegion
import Derived.RegionTactic
import Derived.Deep.RegionHeld3
import Derived.Deep.RegionWith
namespace Go.Proofs.Ytkhnggkdlilabaa.pg
open Go.ChangeShapes Go.WideShapes Go.ChangeAt Go.RowKit gen calls cls li
set_option linter.unusedVariables false

/-- The two cells of a call that lies at the head of block B. -/
def Pair (w : World) (B : Nat) (k z : Int) : Prop := w.cell? ⟨B, 0, none⟩ = some (.int .i64 k) ∧ w.cell? ⟨B, 1, none⟩ = some (.int .i64 z)
theorem Pair.new (w : World) (t : TypeId) (k z : Int) : Pair (w.alloc (.cells #[.int .i64 k, .int .i64 z] t)) w.heap.size k z := ⟨by simp [go_sem], by simp [go_sem]⟩
theorem Pair.kept {w w' : World} {B : Nat} {k z : Int} {row : Option Nat} (h : Pair w B k z) (hg : w.grownBy w' row) (hr : some B ≠ row) : Pair w' B k z := ⟨hg.cell h.1 hr, hg.cell h.2 hr⟩
/-- Where the list behind a step lies: in a new block, or where the one ahead lay. -/
def From (w : World) (v v' : Value) : Prop := ∀ q, v'.ownBlock = some q → w.heap.size ≤ q ∨ v.ownBlock = some q
theorem From.same (w : World) (v : Value) : From w v v := fun _ h => .inr h
theorem From.own {w w' : World} {v v' : Value} {base n : Nat} {t : TypeId} {xs : List Value} (h : w'.ownsRow base t 1 v' n xs) (hb : w.heap.size ≤ base) : From w v v' := fun q hq => .inl (Nat.le_trans hb (own_base h q hq))
theorem From.then {w w' : World} {v v' v'' : Value} (h : From w v v') (h' : From w' v' v'') (hs : w.heap.size ≤ w'.heap.size) : From w v v'' := fun q hq => by
  rcases h' q hq with h1 | h1
  · exact .inl (by omega)
  · exact h q h1
/-- What a step answers: kinds that both agree on. -/
def StepAns (g r m : Nat) (v0 : Value) (w : World) (e : Ending) (w' : World) : Prop :=
  ∃ A c ys, e = .returned (.tuple #[.slice A m c, .bool true]) ∧ ys.length = m ∧ Ks ys ∧ Tab w' g r ys ∧ Lst w' r (.slice A m c) ys ∧ w.grownBy w' (some r) ∧ From w v0 (.slice A m c)
theorem grown_drew (w : World) (row : Option Nat) : w.grownBy w.drew row := ⟨rfl, rfl, rfl, Nat.le_refl _, fun _ _ _ => rfl⟩
section
variable {g r : Nat} {xs : List Int} {w : World} {A : Option Addr} {c m : Nat}
set_option maxHeartbeats 4000000
set_option maxRecDepth 100000

theorem step_take_no (h : Tab w g r xs) (hx : Ks xs) (hm : xs.length = m) (hl : Lst w r (.slice A m c) xs) (z : Int) (hz : fits z = true) (hno : ¬ (1 ≤ z ∧ z ≤ 4)) :
    Calls Try.prog 22 #[.pointer (some ⟨g, 0, none⟩), .slice A m c, .agg #[.int .i64 1, .int .i64 z]] w (StepAns g r m (.slice A m c) w) := by
  have hs : m ≤ 64 := by have := h.le; omega
  have HM := Lib.hid hm
  have HX := Lib.hid hx
  have HL := Lib.hid hl
  have G0 := Lib.hid (World.grownBy_alloc w (.cells #[.int .i64 1, .int .i64 z] 33) none)
  have H0 := Lib.hid (h.kept G0.out (by simp) (by simp))
  have R := Lib.hid ((hl.made G0.out).rd' hm)
  have N := Lib.hid (Pair.new w 33 1 z)
  obtain ⟨k0, k1⟩ := N.out
  have TK := Lib.hid (fun w => Take_small_no (q := some ⟨g, 0, none⟩) z w hz hno)
  have SZ := Lib.hid (fun w => rsz_any z w hz)
  have e0 : sz z = 0 := sz_no (by omega)
  rw [e0] at SZ
  cases hf : find 1 0 xs with
  | none =>
    have e1 := fnd_none (n := 1) (by omega) hf
    clear h hx hm hl hz hno hf
    go_enter Try.func22, Try.ntmps22
    go_wp2_with (first
      | (go_at_call 11; (with_reducible refine (TK.out _).mono ?_); rintro e w' ⟨rfl, rfl⟩)
      | (go_at_call 31; (with_reducible refine (rFind_any hs R.out 1).mono ?_); rintro e w' ⟨rfl, rfl⟩; rw [e1]))
    go_ret2
    exact ⟨A, c, xs, rfl, HM.out, HX.out, H0.out, HL.out.made G0.out, grown_then G0.out (grown_refl _ _), From.same _ _⟩
  | some p =>
    have e1 := fnd_some (n := 1) (by omega) hf
    clear h hx hm hl hz hno hf
    have l1 : ¬ ((p : Int) < 0) := by omega
    go_enter Try.func22, Try.ntmps22
    go_wp2_with (first
      | (go_at_call 11; (with_reducible refine (TK.out _).mono ?_); rintro e w' ⟨rfl, rfl⟩)
      | (go_at_call 31; (with_reducible refine (rFind_any hs R.out 1).mono ?_); rintro e w' ⟨rfl, rfl⟩; rw [e1])
      | (go_at_call 32; (with_reducible refine (SZ.out _).mono ?_); rintro e w3 ⟨rfl, hg⟩; have G3 := Lib.hid (G0.out.trans hg); have H3 := Lib.hid (H0.out.kept hg (by simp) (by simp)); clear hg))
    go_ret2
    exact ⟨A, c, xs, rfl, HM.out, HX.out, H3.out, HL.out.made G3.out, grown_then G3.out (grown_refl _ _), From.same _ _⟩
theorem step_take_none (h : Tab w g r xs) (hx : Ks xs) (hm : xs.length = m) (hl : Lst w r (.slice A m c) xs) (z : Int) (hz : 1 ≤ z ∧ z ≤ 4) (hf : find 1 0 xs = none) :
    Calls Try.prog 22 #[.pointer (some ⟨g, 0, none⟩), .slice A m c, .agg #[.int .i64 1, .int .i64 z]] w (StepAns g r m (.slice A m c) w) := by
  have hs : m ≤ 64 := by have := h.le; omega
  have HM := Lib.hid hm
  have HX := Lib.hid hx
  have HL := Lib.hid hl
  have G0 := Lib.hid (World.grownBy_alloc w (.cells #[.int .i64 1, .int .i64 z] 33) none)
  have H0 := Lib.hid (h.kept G0.out (by simp) (by simp))
  have N := Lib.hid (Pair.new w 33 1 z)
  obtain ⟨k0, k1⟩ := N.out
  have TK := Lib.hid (Take_none hz (lowest_none H0.out (n := 1) (by omega) hf))
  have e1 := fnd_none (n := 1) (by omega) hf
  clear h hx hm hl hz hf
  go_enter Try.func22, Try.ntmps22
  go_wp2_with (first
    | (go_at_call 11; (with_reducible refine TK.out.mono ?_); rintro e w3 ⟨rfl, hg⟩; have G3 := Lib.hid (G0.out.trans hg); have H3 := Lib.hid (H0.out.kept hg (by simp) (by simp)); have R3 := Lib.hid ((HL.out.made G3.out).rd' HM.out); clear hg)
    | (go_at_call 31; (with_reducible refine (rFind_any hs R3.out 1).mono ?_); rintro e w' ⟨rfl, rfl⟩; rw [e1]))
  go_ret2
  exact ⟨A, c, xs, rfl, HM.out, HX.out, H3.out, HL.out.made G3.out, grown_then G3.out (grown_refl _ _), From.same _ _⟩
theorem step_take_some (h : Tab w g r xs) (hx : Ks xs) (hm : xs.length = m) (hl : Lst w r (.slice A m c) xs) (z : Int) (hz : 1 ≤ z ∧ z ≤ 4) {p : Nat} (hf : find 1 0 xs = some p) :
    Calls Try.prog 22 #[.pointer (some ⟨g, 0, none⟩), .slice A m c, .agg #[.int .i64 1, .int .i64 z]] w (StepAns g r m (.slice A m c) w) := by
  have hs : m ≤ 64 := by have := h.le; omega
  have hp := (find_at (n := 1) (by omega) hf).1
  have HLT := Lib.hid h.lt
  have HM := Lib.hid hm
  have HL := Lib.hid hl
  have G0 := Lib.hid (World.grownBy_alloc w (.cells #[.int .i64 1, .int .i64 z] 33) none)
  have H0 := Lib.hid (h.kept G0.out (by simp) (by simp))
  have N := Lib.hid (Pair.new w 33 1 z)
  obtain ⟨k0, k1⟩ := N.out
  have TK := Lib.hid (Take_some H0.out hz hf)
  have SZ := Lib.hid (fun w => rsz_any z w (by simp [fits]; omega))
  have e1 := fnd_some (n := 1) (by omega) hf
  have e0 : (sz z == 0) = false := by have := sz_pos hz; simp; omega
  have HY := Lib.hid (hx.set p (v := z) (by omega) hp)
  have S1 := Lib.hid (fun w1 (h1 : Rd w1 w1.heap.size A m c xs) => rSet_any (xs.set p z) hs h1 p 1 z (by simp [fits]; omega) (by omega) (by rw [List.length_set, hm]) (fun i hi => by
    rw [set_getD _ _ _ _ hp]
    repeat' split
    all_goals first | rfl | omega))
  have HYL := Lib.hid (show (xs.set p z).length = m by rw [List.length_set, hm])
  generalize xs.set p z = ys at *
  have l1 : ¬ ((p : Int) < 0) := by omega
  clear h hx hm hl hz hf hp
  go_enter Try.func22, Try.ntmps22
  go_wp2_with (first
    | (go_at_call 11; (with_reducible refine TK.out.mono ?_); rintro e w3 ⟨rfl, ht, hg⟩; have G3 := Lib.hid (grown_then G0.out hg); have H3 := Lib.hid ht; have L3 := Lib.hid ((HL.out.made G0.out).grown hg); have R3 := Lib.hid (L3.out.rd' HM.out); have N3 := Lib.hid (N.out.kept hg (by have := HLT.out; simp; omega)); obtain ⟨k2, k3⟩ := N3.out; clear hg ht)
    | (go_at_call 31; (with_reducible refine (rFind_any hs R3.out 1).mono ?_); rintro e w' ⟨rfl, rfl⟩; rw [e1])
    | (go_at_call 32; (with_reducible refine (SZ.out _).mono ?_); rintro e w4 ⟨rfl, hg⟩; have G4 := Lib.hid (grown_more G3.out hg); have H4 := Lib.hid (H3.out.kept hg (by simp) (by simp)); have L4 := Lib.hid (L3.out.made hg); have N4 := Lib.hid (N3.out.kept hg (by simp)); obtain ⟨k4, k5⟩ := N4.out; clear hg)
    | (go_at_call 33; (with_reducible refine (S1.out _ (L4.out.rd' HM.out)).mono ?_); rintro e w5 ⟨A5, c5, rfl, ho, hg⟩; rw [HYL.out] at ho ⊢; have O5 := Lib.hid ho; have G5 := Lib.hid (grown_more G4.out hg); have H5 := Lib.hid (H4.out.kept hg (by simp) (by simp)); clear ho hg))
  go_ret2
  exact ⟨A5, c5, ys, rfl, HYL.out, HY.out, H5.out, own_lst O5.out HYL.out (by have := G4.out.size; have := HLT.out; omega), G5.out, From.own O5.out G4.out.size⟩

theorem step_span_no (h : Tab w g r xs) (hx : Ks xs) (hm : xs.length = m) (hl : Lst w r (.slice A m c) xs) (z : Int) (hf : fnd xs z = -1) (hs2 : ∀ W, w.grownBy W none → Calls Try.prog 12 #[.pointer (some ⟨g, 0, none⟩), .int .i64 z] W fun e w' => e = .returned (.tuple #[.int .i64 0, .bool false]) ∧ W.grownBy w' none) :
    Calls Try.prog 22 #[.pointer (some ⟨g, 0, none⟩), .slice A m c, .agg #[.int .i64 2, .int .i64 z]] w (StepAns g r m (.slice A m c) w) := by
  have hs : m ≤ 64 := by have := h.le; omega
  have HM := Lib.hid hm
  have HX := Lib.hid hx
  have HL := Lib.hid hl
  have G0 := Lib.hid (World.grownBy_alloc w (.cells #[.int .i64 2, .int .i64 z] 33) none)
  have H0 := Lib.hid (h.kept G0.out (by simp) (by simp))
  have N := Lib.hid (Pair.new w 33 2 z)
  obtain ⟨k0, k1⟩ := N.out
  have TK := Lib.hid (hs2 _ G0.out)
  clear h hx hm hl hs2
  go_enter Try.func22, Try.ntmps22
  go_wp2_with (first
    | (go_at_call 12; (with_reducible refine TK.out.mono ?_); rintro e w3 ⟨rfl, hg⟩; have G3 := Lib.hid (G0.out.trans hg); have H3 := Lib.hid (H0.out.kept hg (by simp) (by simp)); have R3 := Lib.hid ((HL.out.made G3.out).rd' HM.out); have N3 := Lib.hid (N.out.kept hg (by simp)); obtain ⟨k2, k3⟩ := N3.out; clear hg)
    | (go_at_call 31; (with_reducible refine (rFind_any hs R3.out z).mono ?_); rintro e w' ⟨rfl, rfl⟩; rw [hf]))
  go_ret2
  exact ⟨A, c, xs, rfl, HM.out, HX.out, H3.out, HL.out.made G3.out, grown_then G3.out (grown_refl _ _), From.same _ _⟩
theorem step_span_some (h : Tab w g r xs) (hx : Ks xs) (hm : xs.length = m) (hl : Lst w r (.slice A m c) xs) (z p : Nat) (hz : 1 ≤ z) (hf : find z 0 xs = some p) :
    Calls Try.prog 22 #[.pointer (some ⟨g, 0, none⟩), .slice A m c, .agg #[.int .i64 2, .int .i64 z]] w (StepAns g r m (.slice A m c) w) := by
  have hs : m ≤ 64 := by have := h.le; omega
  obtain ⟨_, _, _, hpz⟩ := find_at (n := z) (by omega) hf
  have HLT := Lib.hid h.lt
  have HM := Lib.hid hm
  have HL := Lib.hid hl
  have G0 := Lib.hid (World.grownBy_alloc w (.cells #[.int .i64 2, .int .i64 z] 33) none)
  have H0 := Lib.hid (h.kept G0.out (by simp) (by simp))
  have N := Lib.hid (Pair.new w 33 2 z)
  obtain ⟨k0, k1⟩ := N.out
  have TK := Lib.hid (Span_some H0.out hz hf)
  have e1 := fnd_some (n := (z : Int)) (by omega) hf
  have HY := Lib.hid (hx.span p z hz (by omega))
  have S1 := Lib.hid (fun w1 (h1 : Rd w1 w1.heap.size A m c xs) => rSpan_any hs h1 p z hz (by omega))
  have HYL := Lib.hid (show (spanN xs p z).length = m by rw [spanN_length, hm])
  generalize spanN xs p z = ys at *
  have l1 : ¬ ((p : Int) < 0) := by omega
  clear h hx hm hl hz hf hpz
  go_enter Try.func22, Try.ntmps22
  go_wp2_with (first
    | (go_at_call 12; (with_reducible refine TK.out.mono ?_); rintro e w3 ⟨rfl, ht, hg⟩; have G3 := Lib.hid (grown_then G0.out hg); have H3 := Lib.hid ht; have L3 := Lib.hid ((HL.out.made G0.out).grown hg); have R3 := Lib.hid (L3.out.rd' HM.out); have N3 := Lib.hid (N.out.kept hg (by have := HLT.out; simp; omega)); obtain ⟨k2, k3⟩ := N3.out; clear hg ht)
    | (go_at_call 31; (with_reducible refine (rFind_any hs R3.out z).mono ?_); rintro e w' ⟨rfl, rfl⟩; rw [e1])
    | (go_at_call 34; (with_reducible refine (S1.out _ R3.out).mono ?_); rintro e w5 ⟨A5, c5, rfl, ho, hg⟩; rw [HYL.out] at ho ⊢; have O5 := Lib.hid ho; have G5 := Lib.hid (grown_more G3.out hg); have H5 := Lib.hid (H3.out.kept hg (by simp) (by simp)); clear ho hg))
  go_ret2
  exact ⟨A5, c5, ys, rfl, HYL.out, HY.out, H5.out, own_lst O5.out HYL.out (by have := G3.out.size; have := HLT.out; omega), G5.out, From.own O5.out G3.out.size⟩
end
end Go.Proofs.Ytkhnggkdlilabaa.pg
