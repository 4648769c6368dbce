/- What layer 9's Count, Longest and lowest tell: they range over the runs of free pages. -/
import Derived.Test.YtfhmhlofjoahlaaGreatDoorPgC
namespace Go.Proofs.YtfhmhlofjoahlaaGreatDoor.pg
open Go.ChangeShapes Go.WideShapes Go.ChangeAt Go.RowKit gen calls cls li rg
set_option linter.unusedVariables false
attribute [local go_sem] Oper.semAt_some

/-! ### Plain -/
theorem runs_pos (l : List Int) : ∀ off, ∀ x ∈ runs off l, 0 < x.2 := by
  refine by_runs (p := fun l => ∀ off, ∀ x ∈ runs off l, 0 < x.2) (fun off x hx => by rw [runs_nil] at hx; cases hx) (fun l hl ih off x hx => ?_) l
  by_cases h : 0 < lead 0 l
  · rw [runs_yes h] at hx
    rcases List.mem_cons.1 hx with rfl | hx
    · show (0 : Int) < (lead 0 l : Int); omega
    · exact ih _ _ hx
  · have h : lead 0 l = 0 := by omega
    rw [runs_no h] at hx
    rw [h] at ih
    exact ih _ _ hx
theorem zeros_le (l : List Int) : zeros l ≤ l.length := by
  induction l with
  | nil => simp [zeros]
  | cons x l ih => unfold zeros; split <;> simp <;> omega
theorem longest_le (l : List Int) : longest l ≤ l.length := by
  induction l with
  | nil => simp [longest]
  | cons x l ih =>
    have := lead_le 0 (x :: l)
    rw [List.length_cons] at this ⊢
    unfold longest; omega
theorem total_append (a b : List (Int × Int)) : total (a ++ b) = total a + total b := by
  induction a with
  | nil => simp [total]
  | cons x a ih => rw [List.cons_append, total_cons, total_cons, ih]; omega
theorem total_pos {a : List (Int × Int)} (h : ∀ x ∈ a, 0 < x.2) : 0 ≤ total a := by
  induction a with
  | nil => simp [total]
  | cons x a ih =>
    rw [total_cons]
    have := ih (fun y hy => h y (List.mem_cons_of_mem _ hy))
    have := h x (List.mem_cons_self ..)
    omega
theorem total_within {xs : List Int} {pre post : List (Int × Int)} {x : Int × Int} (h : runs 0 xs = pre ++ x :: post) : 0 ≤ total pre ∧ 0 < x.2 ∧ total pre + x.2 ≤ xs.length := by
  have hp := runs_pos xs 0
  have ht := runs_total xs 0
  have hz := zeros_le xs
  rw [h] at hp ht
  rw [total_append, total_cons] at ht
  have h1 := total_pos (a := pre) (fun y hy => hp y (by simp [hy]))
  have h2 := hp x (by simp)
  have h3 := total_pos (a := post) (fun y hy => hp y (by simp [hy]))
  omega
theorem most_pos (a : List (Int × Int)) : 0 ≤ most a := by
  have : ∀ (a : List (Int × Int)) (z : Int), 0 ≤ z → 0 ≤ a.foldl (fun a x => max a x.2) z := by
    intro a
    induction a with
    | nil => intro z hz; exact hz
    | cons x a ih => intro z hz; exact ih _ (show 0 ≤ max z x.2 by omega)
  exact this a 0 (by omega)
theorem below_grown {a w : World} (h : Below a.heap.size a w) : a.grownBy w none := ⟨h.os, h.tape, h.output, h.size, fun k hk _ => h.block k hk⟩

/-- A cell of a number, at the head of block B. -/
def One (W : World) (B : Nat) (v : Value) : Prop := W.cell? ⟨B, 0, none⟩ = some v ∧ W.frozen? ⟨B, 0, none⟩ = false
theorem One.new (w : World) (v : Value) (t : TypeId) : One (w.alloc (.cells #[v] t)) w.heap.size v := ⟨by simp [go_sem], by simp [go_sem]⟩
theorem One.own {β : Type} {B C : Nat} {v : β → Value} : OwnFrom C (fun s W => One W B (v s)) := fun s A A' row hs hg hr => ⟨cell_kept hs.1 hg (fun r e => (hr r e).2), (frozen_kept hs.1 hg (fun r e => (hr r e).2)).trans hs.2⟩
theorem One.alloc {w : World} {B : Nat} {v : Value} (h : One w B v) (o : Obj) : One (w.alloc o) B v := ⟨cell_kept h.1 (World.grownBy_alloc w o none) (fun r e => by cases e), (frozen_kept h.1 (World.grownBy_alloc w o none) (fun r e => by cases e)).trans h.2⟩
theorem One.set {w : World} {B : Nat} {v : Value} (h : One w B v) (u : Value) : One (w.setCell ⟨B, 0, none⟩ u) B u := ⟨World.cell?_setCell_same' _ _ _ (by rw [h.1]; rfl), by rw [World.frozen?_setCell]; exact h.2⟩
theorem One.other {w : World} {B C : Nat} {v : Value} (h : One w B v) (hne : B ≠ C) (u : Value) : One (w.setCell ⟨C, 0, none⟩ u) B v := ⟨by rw [World.cell?_setCell_other w ⟨C, 0, none⟩ ⟨B, 0, none⟩ u (fun e => hne (by injection e with e1; exact e1.symm))]; exact h.1, by rw [World.frozen?_setCell]; exact h.2⟩
theorem One.put {w : World} {B l : Nat} {v : Value} {o : Obj} (h : One w B v) (o' : Obj) (hl : w.heap[l]? = some o) (ho : o.isCells = false) : One (w.putObj l o') B v :=
  One.own (β := Unit) (C := 0) (v := fun _ => v) () _ _ (some l) h (grownBy_putObj' w l o') (fun r e => by cases e; exact ⟨Nat.zero_le _, o, hl, ho⟩)

set_option maxRecDepth 100000 in
theorem Count_of {q : Option Addr} {rs : List (Int × Int)} {w : World} (h : ∀ W, w.grownBy W none → Hands Tryz.prog 99 #[.pointer q] w.heap.size W rs) (hw : ∀ pre x post, rs = pre ++ x :: post → 0 ≤ total pre ∧ 0 < x.2 ∧ total pre + x.2 ≤ 64) :
    Calls Tryz.prog 69 #[.pointer q] w fun e w' => e = .returned (.int .i64 (total rs)) ∧ w.grownBy w' none := by
  refine (callsIn_wide (n := 3)).1 ?_
  have HH := Lib.hid (h _ (World.grownBy_alloc w (.cells #[.int .i64 0] 3) none))
  have HW := Lib.hid hw
  clear h hw
  refine callsIn_of_wp_marks Tryz.func69 rfl trivial ?_ rfl
  simp only [Tryz.ntmps69, List.size_toArray, List.length_cons, List.length_nil, Nat.reduceAdd, Nat.reduceSub, Array.replicate_succ, Array.replicate_zero, List.push_toArray, List.append_toArray, List.nil_append, List.cons_append]
  have HB := Lib.hid ((Below.refl w.heap.size w).alloc (Nat.le_refl _) (.cells #[.int .i64 0] 3))
  have HO := Lib.hid (One.new w (.int .i64 0) 3)
  gi_wp2
  refine range_bound (gf := 99) (bd := #[.pointer q]) (n₀ := w.heap.size) (xs := rs) rfl (enters_of Tryz.func99 (by kernel_rfl) rfl) (by simp) HH.out rfl
    (fun pre W => One W w.heap.size (.int .i64 (total pre)) ∧ Below w.heap.size w W) (fun _ _ _ => False)
    (OwnFrom.and (One.own (v := fun pre => .int .i64 (total pre))) (ownFrom_below (Nat.le_refl _) (by simp)))
    (fun _ _ _ _ _ hs _ _ => hs)
    ⟨HO.out, HB.out⟩
    (fun x => { tmps := #[.pointer q, undef, .int .i64 0, .pointer (some ⟨w.heap.size, 0, none⟩), undef, .int .i64 x.2, .pointer q, .func (.func 99) #[.pointer q] #[], .int .i64 x.1, .int .i64 x.2, undef, undef, undef, undef], defers := [] }) ?assign ?body ?done ?stop
  case assign =>
    intro l x W K hK
    gi_wp2
    exact hK
  case body =>
    rintro l pre x post W hx ⟨ho, hb⟩
    obtain ⟨t1, t2, t3⟩ := HW.out _ _ _ hx
    have HO2 := Lib.hid ho
    have HB2 := Lib.hid hb
    obtain ⟨c1, c2⟩ := ho
    have e := Lib.hid (total_snoc pre x)
    generalize total pre = t at *
    clear hb
    gi_wp2
    refine ⟨KeepsOthers.setCell _ _ _, (Below.refl w.heap.size W).setCell (p := ⟨w.heap.size, 0, none⟩) (Nat.le_refl _) _, ?_, HB2.out.setCell (p := ⟨w.heap.size, 0, none⟩) (Nat.le_refl _) _⟩
    rw [e.out]
    exact HO2.out.set _
  case done =>
    rintro D W hD ⟨ho, hb⟩ hK
    obtain ⟨c1, c2⟩ := ho
    have HB2 := Lib.hid hb
    clear hb
    gi_wp2
    refine ⟨by simp, .inl ⟨_, _, rfl, run_takeDeferred hK, ?_⟩⟩
    exact ⟨_, results_tmp rfl _ _ _, rfl, below_grown (HB2.out.trans (belowK_b (w := w) (Nat.le_refl _) W D _ _ (by simp at hD; omega) hK rfl rfl))⟩
  case stop =>
    rintro D c pre W _ h _
    exact h.elim
/-- What lowest answers. -/
def lowAns : Option Nat → Value
  | none => .tuple #[.int .i64 0, .bool false]
  | some p => .tuple #[.int .i64 p, .bool true]
/-- None so far was long enough. -/
def Less (n : Int) (pre : List (Int × Int)) : Prop := ∀ y ∈ pre, y.2 < n
theorem Less.snoc {n : Int} {pre : List (Int × Int)} (h : Less n pre) {x : Int × Int} (hx : x.2 < n) : Less n (pre ++ [x]) := fun y hy => by
  rcases List.mem_append.1 hy with hy | hy
  · exact h y hy
  · obtain rfl : y = x := by simpa using hy
    exact hx
set_option maxRecDepth 100000 in
theorem lowest_of {q : Option Addr} {rs : List (Int × Int)} {w : World} {n : Int} {o : Option Nat} (h : ∀ W, w.grownBy W none → Hands Tryz.prog 99 #[.pointer q] w.heap.size W rs)
    (h1 : Less n rs → o = none) (h2 : ∀ pre (x : Int × Int) post, rs = pre ++ x :: post → Less n pre → n ≤ x.2 → ∃ p : Nat, o = some p ∧ x.1 = (p : Int)) :
    Calls Tryz.prog 121 #[.pointer q, .int .i64 n] w fun e w' => e = .returned (lowAns o) ∧ w.grownBy w' none := by
  refine (callsIn_wide (n := 3)).1 ?_
  have g3 : w.grownBy (((w.alloc (.cells #[.int .i64 n] 3)).alloc (.cells #[.int .i64 0] 3)).alloc (.cells #[.bool false] 4)) none := ((World.grownBy_alloc _ _ _).trans (World.grownBy_alloc _ _ _)).trans (World.grownBy_alloc _ _ _)
  have HH := Lib.hid (h _ g3)
  have HN := Lib.hid h1
  have HS := Lib.hid h2
  clear h h1 h2
  refine callsIn_of_wp_marks Tryz.func121 rfl trivial ?_ rfl
  simp only [Tryz.ntmps121, List.size_toArray, List.length_cons, List.length_nil, Nat.reduceAdd, Nat.reduceSub, Array.replicate_succ, Array.replicate_zero, List.push_toArray, List.append_toArray, List.nil_append, List.cons_append]
  have HB := Lib.hid (grown_below g3)
  have N1 := Lib.hid (((One.new w (.int .i64 n) 3).alloc (.cells #[.int .i64 0] 3)).alloc (.cells #[.bool false] 4))
  have N2 := Lib.hid ((One.new (w.alloc (.cells #[.int .i64 n] 3)) (.int .i64 0) 3).alloc (.cells #[.bool false] 4))
  have N3 := Lib.hid (One.new ((w.alloc (.cells #[.int .i64 n] 3)).alloc (.cells #[.int .i64 0] 3)) (.bool false) 4)
  clear g3
  simp only [World.size_alloc] at N2 N3
  gi_wp2
  refine range_bound (gf := 99) (bd := #[.pointer q]) (n₀ := w.heap.size) (xs := rs) rfl (enters_of Tryz.func99 (by kernel_rfl) rfl) (by simp; omega) HH.out rfl
    (fun pre W => (((One W w.heap.size (.int .i64 n) ∧ One W (w.heap.size + 1) (.int .i64 0)) ∧ One W (w.heap.size + 1 + 1) (.bool false)) ∧ Below w.heap.size w W) ∧ Less n pre)
    (fun c pre W => ((One W (w.heap.size + 1) (.int .i64 (pre.getLast?.getD (0, 0)).1) ∧ One W (w.heap.size + 1 + 1) (.bool true)) ∧ Below w.heap.size w W) ∧ (c = .ret ∧ ∃ p : Nat, o = some p ∧ (pre.getLast?.getD (0, 0)).1 = p))
    (OwnFrom.and (OwnFrom.and (OwnFrom.and (OwnFrom.and (One.own (v := fun pre => .int .i64 n)) (One.own (v := fun pre => .int .i64 0))) (One.own (v := fun pre => .bool false))) (ownFrom_below (Nat.le_refl _) (by simp; omega))) (fun _ _ _ _ hs _ _ => hs))
    (fun c => OwnFrom.and (OwnFrom.and (OwnFrom.and (One.own (v := fun (pre : List (Int × Int)) => .int .i64 (pre.getLast?.getD (0, 0)).1)) (One.own (v := fun pre => .bool true))) (ownFrom_below (Nat.le_refl _) (by simp; omega))) (fun _ _ _ _ hs _ _ => hs))
    ⟨⟨⟨⟨N1.out, N2.out⟩, N3.out⟩, HB.out⟩, fun y hy => by cases hy⟩
    (fun x => { tmps := #[.pointer q, .int .i64 n, undef, .pointer (some ⟨w.heap.size, 0, none⟩), .pointer (some ⟨w.heap.size + 1, 0, none⟩), .pointer (some ⟨w.heap.size + 1 + 1, 0, none⟩), .int .i64 x.1, .int .i64 x.2, .pointer q, .func (.func 99) #[.pointer q] #[], .int .i64 x.1, .int .i64 x.2, undef, undef, undef, undef], defers := [] }) ?assign ?body ?done ?stop
  case assign =>
    intro l x W K hK
    gi_wp2
    exact hK
  case body =>
    rintro l pre x post W hx ⟨⟨⟨⟨o1, o2⟩, o3⟩, hb⟩, hp⟩
    have O1 := Lib.hid o1
    have O2 := Lib.hid o2
    have O3 := Lib.hid o3
    have HB2 := Lib.hid hb
    have HP := Lib.hid hp
    have HS2 := Lib.hid (HS.out _ _ _ hx hp)
    obtain ⟨c1, _⟩ := o1
    obtain ⟨c2, f2⟩ := o2
    obtain ⟨c3, f3⟩ := o3
    clear hb hp hx
    obtain ⟨a, m⟩ := x
    by_cases hc : n ≤ m
    · have HC := Lib.hid (HS2.out hc)
      gi_wp2
      refine ⟨(KeepsOthers.setCell _ _ _).trans (KeepsOthers.setCell _ _ _), ⟨⟨?_, ?_⟩, ?_⟩, rfl, ?_⟩
      · simpa using (O2.out.set (.int .i64 a)).other (C := w.heap.size + 1 + 1) (by omega) (.bool true)
      · exact (O3.out.other (C := w.heap.size + 1) (by omega) (.int .i64 a)).set (.bool true)
      · exact (HB2.out.setCell (p := ⟨w.heap.size + 1, 0, none⟩) (by simp) _).setCell (p := ⟨w.heap.size + 1 + 1, 0, none⟩) (by simp; omega) _
      · simpa using HC.out
    · gi_wp2
      refine ⟨KeepsOthers.refl _, Below.refl _ _, ⟨⟨⟨O1.out, O2.out⟩, O3.out⟩, HB2.out⟩, HP.out.snoc (show m < n by omega)⟩
  case done =>
    rintro D W hD ⟨⟨⟨⟨o1, o2⟩, o3⟩, hb⟩, hp⟩ hK
    have eo := HN.out hp
    subst eo
    have O2 := Lib.hid o2
    have O3 := Lib.hid o3
    have HB2 := Lib.hid hb
    obtain ⟨c2, f2⟩ := o2
    obtain ⟨c3, f3⟩ := o3
    clear hb hp
    gi_wp2
    have hK' := ((KeepsOthers.setCell W ⟨w.heap.size + 1, 0, none⟩ (.int .i64 0)).trans (KeepsOthers.setCell _ ⟨w.heap.size + 1 + 1, 0, none⟩ (.bool false))).same D _ hK rfl
    refine ⟨by simp, .inl ⟨_, _, rfl, run_takeDeferred hK', ?_⟩⟩
    have p2 := (((O2.out.set (.int .i64 0)).other (C := w.heap.size + 1 + 1) (by omega) (.bool false)).put (.deferred none) hK' rfl).1
    have p3 := (((O3.out.other (C := w.heap.size + 1) (by omega) (.int .i64 0)).set (.bool false)).put (.deferred none) hK' rfl).1
    refine ⟨lowAns none, ?_, rfl, below_grown (((HB2.out.setCell (p := ⟨w.heap.size + 1, 0, none⟩) (by simp) _).setCell (p := ⟨w.heap.size + 1 + 1, 0, none⟩) (by simp; omega) _).trans (belowK_b (w := w) (Nat.le_refl _) _ D _ _ (by simp at hD; omega) hK' rfl rfl))⟩
    simp [results, Tryz.f121, go_sem, p2, p3, lowAns]
  case stop =>
    rintro D c pre W hD ⟨⟨⟨o2, o3⟩, hb⟩, rfl, p, rfl, hp⟩ hK
    rw [hp] at o2
    have HB2 := Lib.hid hb
    clear hb
    gi_wp2
    refine ⟨by simp, .inl ⟨_, _, rfl, run_takeDeferred hK, ?_⟩⟩
    have p2 := (o2.put (.deferred none) hK rfl).1
    have p3 := (o3.put (.deferred none) hK rfl).1
    refine ⟨lowAns (some p), ?_, rfl, below_grown (HB2.out.trans (belowK_b (w := w) (Nat.le_refl _) W D _ _ (by simp at hD; omega) hK rfl rfl))⟩
    simp [results, Tryz.f121, go_sem, p2, p3, lowAns]

theorem hands_any {g r : Nat} {xs : List Int} {w : World} (h : Tab w g r xs) : ∀ W, w.grownBy W none → Hands Tryz.prog 99 #[.pointer (some ⟨g, 0, none⟩)] w.heap.size W (runs 0 xs) :=
  fun W hg => runs_hands (h.kept hg (by simp) (by simp)) h.lt.1 h.lt.2
theorem Count_any {g r : Nat} {xs : List Int} {w : World} (h : Tab w g r xs) :
    Calls Tryz.prog 69 #[.pointer (some ⟨g, 0, none⟩)] w fun e w' => e = .returned (.int .i64 (zeros xs)) ∧ w.grownBy w' none := by
  have hl := h.le
  have := Count_of (hands_any h) (fun pre x post hx => by have := total_within hx; omega)
  rwa [runs_total] at this
theorem lowest_any {g r : Nat} {xs : List Int} {w : World} (h : Tab w g r xs) (n : Int) (hn : 1 ≤ n) :
    Calls Tryz.prog 121 #[.pointer (some ⟨g, 0, none⟩), .int .i64 n] w fun e w' => e = .returned (lowAns (find n 0 xs)) ∧ w.grownBy w' none :=
  lowest_of (hands_any h) (fun hl => find_none hn hl) (fun pre x post hx hp hle => find_some hn hx hp hle)

/-! ### Of nobody's -/
theorem Nobody.kept {w w' : World} {q : Option Addr} {row : Option Nat} (h : Nobody w q) (hg : w.grownBy w' row) (hr : row = none) : Nobody w' q := by
  rcases h with rfl | ⟨g, rfl, h⟩
  · exact .inl rfl
  · exact .inr ⟨g, rfl, hg.cell h (by rw [hr]; simp)⟩
theorem runs_nobody {q : Option Addr} {w : World} {n₀ : Nat} (h : ∀ W, Below n₀ w W → Nobody W q) : Hands Tryz.prog 99 #[.pointer q] n₀ w [] := fun l J Jx W hb hY h0 => by
  have HP := Lib.hid (pages_nobody (h W hb))
  clear h hb
  refine callsIn_of_wp Tryz.func99 rfl trivial ?_ rfl
  simp only [Tryz.ntmps99, List.size_toArray, List.length_cons, List.length_nil, Nat.reduceAdd, Nat.reduceSub, Array.replicate_succ, Array.replicate_zero, List.push_toArray, List.append_toArray, List.nil_append, List.cons_append]
  gi_wp2_with (refine ⟨trivial, ?_⟩; gi_at_call 85; refine (callsIn_wide.2 HP.out).mono ?_; rintro e w' ⟨rfl, rfl⟩)
  gi_loopw [6] (fun f wr => f = .int .i64 0 ∧ wr = W) (fun _ _ => 0)
  case atStart => exact ⟨rfl, rfl⟩
  case round =>
    obtain ⟨rfl, hw⟩ := hrel
    subst hw
    gi_wp2
    go_end0
    exact ⟨⟨_, rfl⟩, .inl h0⟩
theorem hands_nobody {q : Option Addr} {w : World} (h : Nobody w q) : ∀ W, w.grownBy W none → Hands Tryz.prog 99 #[.pointer q] w.heap.size W [] :=
  fun W hg => runs_nobody fun V hb => by
    have h1 := h.kept hg rfl
    rcases h with rfl | ⟨g, rfl, h⟩
    · exact .inl rfl
    · rcases h1 with h1 | ⟨g', e, h1⟩
      · cases h1
      · injection e with e
        injection e with e
        subst e
        exact .inr ⟨_, rfl, (hb.cell (p := ⟨g, 0, none⟩) (World.block_lt_of_cell? _ _ h)).trans h1⟩
theorem Count_nobody {q : Option Addr} {w : World} (h : Nobody w q) : Calls Tryz.prog 69 #[.pointer q] w fun e w' => e = .returned (.int .i64 0) ∧ w.grownBy w' none :=
  Count_of (hands_nobody h) (fun pre x post hx => by simp at hx)
theorem lowest_nobody {q : Option Addr} {w : World} (h : Nobody w q) (n : Int) : Calls Tryz.prog 121 #[.pointer q, .int .i64 n] w fun e w' => e = .returned (.tuple #[.int .i64 0, .bool false]) ∧ w.grownBy w' none :=
  lowest_of (o := none) (hands_nobody h) (fun _ => rfl) (fun pre x post hx => by simp at hx)
end Go.Proofs.YtfhmhlofjoahlaaGreatDoor.pg
