/- Texts that this claim stands on. -/
import Derived.Shelf.Abstract
import Derived.OwnWalkIn
import Derived.TacticsInMore
import Derived.LoopNIn
import Derived.LoopIn
import Derived.Test.YtkgdcgmbapchcaaGreatDoorQPgX
import Derived.Test.YtkgdcgmbapchcaaGreatDoorQGnQ
namespace Go.Proofs.YtkgdcgmbapchcaaGreatDoor.pg
open Go.ChangeShapes Go.WideShapes Go.ChangeAt Go.RowKit gen calls cls li rg
set_option linter.unusedVariables false
attribute [local go_sem] Oper.semAt_some
theorem Tab.below {w w' : World} {g r n₀ : Nat} {xs : List Int} (h : Tab w g r xs) (hb : Below n₀ w w') (h1 : g < n₀) (h2 : r < n₀) : Tab w' g r xs := by
  obtain ⟨zs, a, b, c⟩ := h
  exact ⟨zs, (hb.block g h1).trans a, (hb.block r h2).trans b, c⟩
set_option maxRecDepth 100000 in
theorem runs_hands {g r n₀ : Nat} {xs : List Int} {w : World} (h : Tab w g r xs) (h1 : g < n₀) (h2 : r < n₀) :
    Hands Tryz.prog 282 #[.pointer (some ⟨g, 0, none⟩)] n₀ w (runs 0 xs) := fun l J Jx W hb hY h0 => by
  have T := Lib.hid (h.below hb h1 h2)
  have hl := h.le
  have HL := Lib.hid hl
  have HB := Lib.hid (fun (A B : World) (h : Tab A g r xs) (hb : Below n₀ A B) => h.below hb h1 h2)
  clear h hb
  obtain ⟨c, hc1, hc2, f⟩ := T.out.field
  have HP := Lib.hid (pages_some g _ W f)
  clear f
  refine callsIn_of_wp Tryz.func282 rfl trivial ?_ rfl
  simp only [Tryz.ntmps282, List.size_toArray, List.length_cons, List.length_nil, Nat.reduceAdd, Nat.reduceSub, Array.replicate_succ, Array.replicate_zero, List.push_toArray, List.append_toArray, List.nil_append, List.cons_append]
  have hn : ((xs.length : Nat) : Int) ≤ 64 := by omega
  have HN := Lib.hid (fun (p : Nat) => lead_fits (k := 0) (xs := xs) p)
  generalize hlen : xs.length = n at *
  have HLEN := Lib.hid hlen
  clear hlen
  gi_wp2_with (refine ⟨trivial, ?_⟩; gi_at_call 276; refine (callsIn_wide.2 HP.out).mono ?_; rintro e w' ⟨rfl, rfl⟩)
  gi_loopw [5, 6] (fun m f wr => ∃ (p : Nat) (pre : List (Int × Int)), p ≤ 65 ∧ f = .int .i64 p ∧ runs 0 xs = pre ++ runs p (xs.drop p) ∧ J pre wr ∧ Tab wr g r xs) (fun _ f _ => 66 - (intOf f).toNat)
  case atStart => exact ⟨0, [], by omega, rfl, by simp, h0, T.out⟩
  case round =>
    obtain ⟨p, pre, hp, rfl, hr, hj, ht⟩ := hrel
    have HR := Lib.hid hr
    have HJ := Lib.hid hj
    have HT := Lib.hid ht
    clear hr hj ht
    have HK := Lib.hid (fun q => Kind_any HT.out q)
    by_cases hlt : p < n
    · have HE := Lib.hid (fun j => lead_eq (k := 0) (xs := xs) (n := j) (p := p) (by decide))
      have HF := Lib.hid (HN.out p)
      have HI := Lib.hid (fun j (hj : kind xs ((p + j : Nat) : Int) ≠ -1) => show p + j < n by have := kind_there hj; have e := HLEN.out; omega)
      gi_wp2
      gi_loopw [5] (fun m w1 => ∃ j : Nat, j ≤ 64 ∧ m = .int .i64 j ∧ (∀ i, i < j → kind xs ((p + i : Nat) : Int) = 0) ∧ w1 = wr) (fun m _ => 65 - (intOf m).toNat)
      case atStart => exact ⟨0, by omega, rfl, fun i hi => by omega, rfl⟩
      case round =>
        obtain ⟨j, hj, rfl, hi, hw⟩ := hrel
        subst hw
        have HJJ := Lib.hid hi
        clear hi
        have e1 : ((p + j : Nat) : Int) = (p : Int) + (j : Int) := by omega
        by_cases h6 : kind xs ((p : Int) + (j : Int)) = 0
        · have hj2 : p + j < n := HI.out j (by rw [e1, h6]; decide)
          have H6 := Lib.hid h6
          have E1 := Lib.hid e1
          clear h6 e1
          gi_wp2_with (refine ⟨trivial, ?_⟩; gi_at_call 230; refine (callsIn_wide.2 (HK.out _)).mono ?_; rintro e w' ⟨rfl, rfl⟩; rw [H6.out])
          go_roundw
          case rel => exact ⟨j + 1, by omega, by go_num, fun i hi => by
            rcases Nat.lt_or_ge i j with c | c
            · exact HJJ.out i c
            · obtain rfl : i = j := by omega
              rw [E1.out]
              exact H6.out, trivial⟩
          case measure => simp [intOf]; omega
        · have b6 : (kind xs ((p : Int) + (j : Int)) == 0) = false := by simpa using h6
          have hld := HE.out j HJJ.out (by rw [e1]; exact h6)
          have hfit : p + j ≤ n := by have := HF.out (by omega); rw [hld] at this; exact this
          clear h6 e1
          by_cases hj0 : j = 0
          · subst hj0
            have HX := Lib.hid (show runs 0 xs = pre ++ runs (p + 1) (xs.drop (p + 1)) by rw [HR.out, runs_no hld, List.drop_drop])
            have b7 : (kind xs (p : Int) == 0) = false := by simpa using b6
            clear hld b6
            gi_wp2_with (refine ⟨trivial, ?_⟩; gi_at_call 230; refine (callsIn_wide.2 (HK.out _)).mono ?_; rintro e w' ⟨rfl, rfl⟩)
            refine ⟨fun _ h => (by cases h), ?_⟩
            gi_wp2
            go_roundw
            case rel => exact ⟨p + 1, pre, by omega, by go_num, HX.out, HJ.out, HT.out⟩
            case measure => simp [intOf]; omega
          · have hpos : 0 < lead 0 (xs.drop p) := by omega
            have hx : runs 0 xs = pre ++ ((p : Int), (j : Int)) :: runs (p + j + 1) (xs.drop (p + j + 1)) := by
              rw [HR.out, runs_yes hpos, hld, List.drop_drop, show p + (j + 1) = p + j + 1 by omega]
            have HX := Lib.hid hx
            obtain ⟨fn, tmps, assign, body, hy, hR⟩ := hY pre _ _ _ hx HJ.out
            have l1 : (0 : Int) < (j : Int) := by omega
            clear hld hpos hx
            dsimp only [two] at hy
            gi_wp2_with (refine ⟨trivial, ?_⟩; gi_at_call 230; refine (callsIn_wide.2 (HK.out _)).mono ?_; rintro e w' ⟨rfl, rfl⟩)
            refine hR.mono ?_
            rintro e W3 (⟨rfl, hj3, hb3⟩ | ⟨rfl, hx3⟩)
            · have J3 := Lib.hid hj3
              have T3 := Lib.hid (HB.out _ _ HT.out hb3)
              clear hj3 hb3
              gi_wp2
              go_roundw
              case rel => exact ⟨p + j + 1, pre ++ [((p : Int), (j : Int))], by omega, by go_num, by rw [HX.out, List.append_assoc]; rfl, J3.out, T3.out⟩
              case measure => simp [intOf]; omega
            · gi_wp2
              refine bodyPost_ret (results_none rfl _ _ _) rfl ?_
              exact ⟨⟨_, rfl⟩, .inr ⟨_, hx3⟩⟩
    · have hd : xs.drop p = [] := List.drop_of_length_le (by have := HLEN.out; omega)
      have HX := Lib.hid (show runs 0 xs = pre by rw [HR.out, hd, runs_nil, List.append_nil])
      clear hd
      gi_wp2
      go_end0
      exact ⟨⟨_, rfl⟩, .inl (by rw [HX.out]; exact HJ.out)⟩
end Go.Proofs.YtkgdcgmbapchcaaGreatDoor.pg
namespace Go.Proofs.YtkgdcgmbapchcaaGreatDoor.pg
open Go.ChangeShapes Go.WideShapes Go.ChangeAt Go.RowKit gen calls cls li rg
set_option linter.unusedVariables false
attribute [local go_sem] Oper.semAt_some
theorem runs_pos (l : List Int) : ∀ off, ∀ x ∈ runs off l, 0 < x.2 := by
  refine by_runs (p := fun l => ∀ off, ∀ x ∈ runs off l, 0 < x.2) (fun off x hx => by rw [runs_nil] at hx; cases hx) (fun l hl ih off x hx => ?_) l
  by_cases h : 0 < lead 0 l
  · rw [runs_yes h] at hx
    rcases List.mem_cons.1 hx with rfl | hx
    · show (0 : Int) < (lead 0 l : Int); omega
    · exact ih _ _ hx
  · have h : lead 0 l = 0 := by omega
    rw [runs_no h] at hx
    rw [h] at ih
    exact ih _ _ hx
theorem zeros_le (l : List Int) : zeros l ≤ l.length := by
  induction l with
  | nil => simp [zeros]
  | cons x l ih => unfold zeros; split <;> simp <;> omega
theorem total_append (a b : List (Int × Int)) : total (a ++ b) = total a + total b := by
  induction a with
  | nil => simp [total]
  | cons x a ih => rw [List.cons_append, total_cons, total_cons, ih]; omega
theorem total_pos {a : List (Int × Int)} (h : ∀ x ∈ a, 0 < x.2) : 0 ≤ total a := by
  induction a with
  | nil => simp [total]
  | cons x a ih =>
    rw [total_cons]
    have := ih (fun y hy => h y (List.mem_cons_of_mem _ hy))
    have := h x (List.mem_cons_self ..)
    omega
theorem total_within {xs : List Int} {pre post : List (Int × Int)} {x : Int × Int} (h : runs 0 xs = pre ++ x :: post) : 0 ≤ total pre ∧ 0 < x.2 ∧ total pre + x.2 ≤ xs.length := by
  have hp := runs_pos xs 0
  have ht := runs_total xs 0
  have hz := zeros_le xs
  rw [h] at hp ht
  rw [total_append, total_cons] at ht
  have h1 := total_pos (a := pre) (fun y hy => hp y (by simp [hy]))
  have h2 := hp x (by simp)
  have h3 := total_pos (a := post) (fun y hy => hp y (by simp [hy]))
  omega
theorem below_grown {a w : World} (h : Below a.heap.size a w) : a.grownBy w none := ⟨h.os, h.tape, h.output, h.size, fun k hk _ => h.block k hk⟩
def One (W : World) (B : Nat) (v : Value) : Prop := W.cell? ⟨B, 0, none⟩ = some v ∧ W.frozen? ⟨B, 0, none⟩ = false
theorem One.new (w : World) (v : Value) (t : TypeId) : One (w.alloc (.cells #[v] t)) w.heap.size v := ⟨by simp [go_sem], by simp [go_sem]⟩
theorem One.own {β : Type} {B C : Nat} {v : β → Value} : OwnFrom C (fun s W => One W B (v s)) := fun s A A' row hs hg hr => ⟨cell_kept hs.1 hg (fun r e => (hr r e).2), (frozen_kept hs.1 hg (fun r e => (hr r e).2)).trans hs.2⟩
theorem One.alloc {w : World} {B : Nat} {v : Value} (h : One w B v) (o : Obj) : One (w.alloc o) B v := ⟨cell_kept h.1 (World.grownBy_alloc w o none) (fun r e => by cases e), (frozen_kept h.1 (World.grownBy_alloc w o none) (fun r e => by cases e)).trans h.2⟩
theorem One.set {w : World} {B : Nat} {v : Value} (h : One w B v) (u : Value) : One (w.setCell ⟨B, 0, none⟩ u) B u := ⟨World.cell?_setCell_same' _ _ _ (by rw [h.1]; rfl), by rw [World.frozen?_setCell]; exact h.2⟩
theorem One.other {w : World} {B C : Nat} {v : Value} (h : One w B v) (hne : B ≠ C) (u : Value) : One (w.setCell ⟨C, 0, none⟩ u) B v := ⟨by rw [World.cell?_setCell_other w ⟨C, 0, none⟩ ⟨B, 0, none⟩ u (fun e => hne (by injection e with e1; exact e1.symm))]; exact h.1, by rw [World.frozen?_setCell]; exact h.2⟩
theorem One.put {w : World} {B l : Nat} {v : Value} {o : Obj} (h : One w B v) (o' : Obj) (hl : w.heap[l]? = some o) (ho : o.isCells = false) : One (w.putObj l o') B v :=
  One.own (β := Unit) (C := 0) (v := fun _ => v) () _ _ (some l) h (grownBy_putObj' w l o') (fun r e => by cases e; exact ⟨Nat.zero_le _, o, hl, ho⟩)
set_option maxRecDepth 100000 in
theorem Count_of {q : Option Addr} {rs : List (Int × Int)} {w : World} (h : ∀ W, w.grownBy W none → Hands Tryz.prog 282 #[.pointer q] w.heap.size W rs) (hw : ∀ pre x post, rs = pre ++ x :: post → 0 ≤ total pre ∧ 0 < x.2 ∧ total pre + x.2 ≤ 64) :
    Calls Tryz.prog 238 #[.pointer q] w fun e w' => e = .returned (.int .i64 (total rs)) ∧ w.grownBy w' none := by
  refine (callsIn_wide (n := 3)).1 ?_
  have HH := Lib.hid (h _ (World.grownBy_alloc w (.cells #[.int .i64 0] 3) none))
  have HW := Lib.hid hw
  clear h hw
  refine callsIn_of_wp_marks Tryz.func238 rfl trivial ?_ rfl
  simp only [Tryz.ntmps238, List.size_toArray, List.length_cons, List.length_nil, Nat.reduceAdd, Nat.reduceSub, Array.replicate_succ, Array.replicate_zero, List.push_toArray, List.append_toArray, List.nil_append, List.cons_append]
  have HB := Lib.hid ((Below.refl w.heap.size w).alloc (Nat.le_refl _) (.cells #[.int .i64 0] 3))
  have HO := Lib.hid (One.new w (.int .i64 0) 3)
  gi_wp2
  refine range_bound (gf := 282) (bd := #[.pointer q]) (n₀ := w.heap.size) (xs := rs) rfl (enters_of Tryz.func282 (by kernel_rfl) rfl) (by simp) HH.out rfl
    (fun pre W => One W w.heap.size (.int .i64 (total pre)) ∧ Below w.heap.size w W) (fun _ _ _ => False)
    (OwnFrom.and (One.own (v := fun pre => .int .i64 (total pre))) (ownFrom_below (Nat.le_refl _) (by simp)))
    (fun _ _ _ _ _ hs _ _ => hs)
    ⟨HO.out, HB.out⟩
    (fun x => { tmps := #[.pointer q, undef, .int .i64 0, .pointer (some ⟨w.heap.size, 0, none⟩), undef, .int .i64 x.2, .pointer q, .func (.func 282) #[.pointer q] #[], .int .i64 x.1, .int .i64 x.2, undef, undef, undef, undef], defers := [] }) ?assign ?body ?done ?stop
  case assign =>
    intro l x W K hK
    gi_wp2
    exact hK
  case body =>
    rintro l pre x post W hx ⟨ho, hb⟩
    obtain ⟨t1, t2, t3⟩ := HW.out _ _ _ hx
    have HO2 := Lib.hid ho
    have HB2 := Lib.hid hb
    obtain ⟨c1, c2⟩ := ho
    have e := Lib.hid (total_snoc pre x)
    generalize total pre = t at *
    clear hb
    gi_wp2
    refine ⟨KeepsOthers.setCell _ _ _, (Below.refl w.heap.size W).setCell (p := ⟨w.heap.size, 0, none⟩) (Nat.le_refl _) _, ?_, HB2.out.setCell (p := ⟨w.heap.size, 0, none⟩) (Nat.le_refl _) _⟩
    rw [e.out]
    exact HO2.out.set _
  case done =>
    rintro D W hD ⟨ho, hb⟩ hK
    obtain ⟨c1, c2⟩ := ho
    have HB2 := Lib.hid hb
    clear hb
    gi_wp2
    refine ⟨by simp, .inl ⟨_, _, rfl, run_takeDeferred hK, ?_⟩⟩
    exact ⟨_, results_tmp rfl _ _ _, rfl, below_grown (HB2.out.trans (belowK_b (w := w) (Nat.le_refl _) W D _ _ (by simp at hD; omega) hK rfl rfl))⟩
  case stop =>
    rintro D c pre W _ h _
    exact h.elim
def lowAns : Option Nat → Value
  | none => .tuple #[.int .i64 0, .bool false]
  | some p => .tuple #[.int .i64 p, .bool true]
def Less (n : Int) (pre : List (Int × Int)) : Prop := ∀ y ∈ pre, y.2 < n
theorem Less.snoc {n : Int} {pre : List (Int × Int)} (h : Less n pre) {x : Int × Int} (hx : x.2 < n) : Less n (pre ++ [x]) := fun y hy => by
  rcases List.mem_append.1 hy with hy | hy
  · exact h y hy
  · obtain rfl : y = x := by simpa using hy
    exact hx
set_option maxRecDepth 100000 in
theorem lowest_of {q : Option Addr} {rs : List (Int × Int)} {w : World} {n : Int} {o : Option Nat} (h : ∀ W, w.grownBy W none → Hands Tryz.prog 282 #[.pointer q] w.heap.size W rs)
    (h1 : Less n rs → o = none) (h2 : ∀ pre (x : Int × Int) post, rs = pre ++ x :: post → Less n pre → n ≤ x.2 → ∃ p : Nat, o = some p ∧ x.1 = (p : Int)) :
    Calls Tryz.prog 319 #[.pointer q, .int .i64 n] w fun e w' => e = .returned (lowAns o) ∧ w.grownBy w' none := by
  refine (callsIn_wide (n := 3)).1 ?_
  have g3 : w.grownBy (((w.alloc (.cells #[.int .i64 n] 3)).alloc (.cells #[.int .i64 0] 3)).alloc (.cells #[.bool false] 4)) none := ((World.grownBy_alloc _ _ _).trans (World.grownBy_alloc _ _ _)).trans (World.grownBy_alloc _ _ _)
  have HH := Lib.hid (h _ g3)
  have HN := Lib.hid h1
  have HS := Lib.hid h2
  clear h h1 h2
  refine callsIn_of_wp_marks Tryz.func319 rfl trivial ?_ rfl
  simp only [Tryz.ntmps319, List.size_toArray, List.length_cons, List.length_nil, Nat.reduceAdd, Nat.reduceSub, Array.replicate_succ, Array.replicate_zero, List.push_toArray, List.append_toArray, List.nil_append, List.cons_append]
  have HB := Lib.hid (grown_below g3)
  have N1 := Lib.hid (((One.new w (.int .i64 n) 3).alloc (.cells #[.int .i64 0] 3)).alloc (.cells #[.bool false] 4))
  have N2 := Lib.hid ((One.new (w.alloc (.cells #[.int .i64 n] 3)) (.int .i64 0) 3).alloc (.cells #[.bool false] 4))
  have N3 := Lib.hid (One.new ((w.alloc (.cells #[.int .i64 n] 3)).alloc (.cells #[.int .i64 0] 3)) (.bool false) 4)
  clear g3
  simp only [World.size_alloc] at N2 N3
  gi_wp2
  refine range_bound (gf := 282) (bd := #[.pointer q]) (n₀ := w.heap.size) (xs := rs) rfl (enters_of Tryz.func282 (by kernel_rfl) rfl) (by simp; omega) HH.out rfl
    (fun pre W => (((One W w.heap.size (.int .i64 n) ∧ One W (w.heap.size + 1) (.int .i64 0)) ∧ One W (w.heap.size + 1 + 1) (.bool false)) ∧ Below w.heap.size w W) ∧ Less n pre)
    (fun c pre W => ((One W (w.heap.size + 1) (.int .i64 (pre.getLast?.getD (0, 0)).1) ∧ One W (w.heap.size + 1 + 1) (.bool true)) ∧ Below w.heap.size w W) ∧ (c = .ret ∧ ∃ p : Nat, o = some p ∧ (pre.getLast?.getD (0, 0)).1 = p))
    (OwnFrom.and (OwnFrom.and (OwnFrom.and (OwnFrom.and (One.own (v := fun pre => .int .i64 n)) (One.own (v := fun pre => .int .i64 0))) (One.own (v := fun pre => .bool false))) (ownFrom_below (Nat.le_refl _) (by simp; omega))) (fun _ _ _ _ hs _ _ => hs))
    (fun c => OwnFrom.and (OwnFrom.and (OwnFrom.and (One.own (v := fun (pre : List (Int × Int)) => .int .i64 (pre.getLast?.getD (0, 0)).1)) (One.own (v := fun pre => .bool true))) (ownFrom_below (Nat.le_refl _) (by simp; omega))) (fun _ _ _ _ hs _ _ => hs))
    ⟨⟨⟨⟨N1.out, N2.out⟩, N3.out⟩, HB.out⟩, fun y hy => by cases hy⟩
    (fun x => { tmps := #[.pointer q, .int .i64 n, undef, .pointer (some ⟨w.heap.size, 0, none⟩), .pointer (some ⟨w.heap.size + 1, 0, none⟩), .pointer (some ⟨w.heap.size + 1 + 1, 0, none⟩), .int .i64 x.1, .int .i64 x.2, .pointer q, .func (.func 282) #[.pointer q] #[], .int .i64 x.1, .int .i64 x.2, undef, undef, undef, undef], defers := [] }) ?assign ?body ?done ?stop
  case assign =>
    intro l x W K hK
    gi_wp2
    exact hK
  case body =>
    rintro l pre x post W hx ⟨⟨⟨⟨o1, o2⟩, o3⟩, hb⟩, hp⟩
    have O1 := Lib.hid o1
    have O2 := Lib.hid o2
    have O3 := Lib.hid o3
    have HB2 := Lib.hid hb
    have HP := Lib.hid hp
    have HS2 := Lib.hid (HS.out _ _ _ hx hp)
    obtain ⟨c1, _⟩ := o1
    obtain ⟨c2, f2⟩ := o2
    obtain ⟨c3, f3⟩ := o3
    clear hb hp hx
    obtain ⟨a, m⟩ := x
    by_cases hc : n ≤ m
    · have HC := Lib.hid (HS2.out hc)
      gi_wp2
      refine ⟨(KeepsOthers.setCell _ _ _).trans (KeepsOthers.setCell _ _ _), ⟨⟨?_, ?_⟩, ?_⟩, rfl, ?_⟩
      · simpa using (O2.out.set (.int .i64 a)).other (C := w.heap.size + 1 + 1) (by omega) (.bool true)
      · exact (O3.out.other (C := w.heap.size + 1) (by omega) (.int .i64 a)).set (.bool true)
      · exact (HB2.out.setCell (p := ⟨w.heap.size + 1, 0, none⟩) (by simp) _).setCell (p := ⟨w.heap.size + 1 + 1, 0, none⟩) (by simp; omega) _
      · simpa using HC.out
    · gi_wp2
      refine ⟨KeepsOthers.refl _, Below.refl _ _, ⟨⟨⟨O1.out, O2.out⟩, O3.out⟩, HB2.out⟩, HP.out.snoc (show m < n by omega)⟩
  case done =>
    rintro D W hD ⟨⟨⟨⟨o1, o2⟩, o3⟩, hb⟩, hp⟩ hK
    have eo := HN.out hp
    subst eo
    have O2 := Lib.hid o2
    have O3 := Lib.hid o3
    have HB2 := Lib.hid hb
    obtain ⟨c2, f2⟩ := o2
    obtain ⟨c3, f3⟩ := o3
    clear hb hp
    gi_wp2
    have hK' := ((KeepsOthers.setCell W ⟨w.heap.size + 1, 0, none⟩ (.int .i64 0)).trans (KeepsOthers.setCell _ ⟨w.heap.size + 1 + 1, 0, none⟩ (.bool false))).same D _ hK rfl
    refine ⟨by simp, .inl ⟨_, _, rfl, run_takeDeferred hK', ?_⟩⟩
    have p2 := (((O2.out.set (.int .i64 0)).other (C := w.heap.size + 1 + 1) (by omega) (.bool false)).put (.deferred none) hK' rfl).1
    have p3 := (((O3.out.other (C := w.heap.size + 1) (by omega) (.int .i64 0)).set (.bool false)).put (.deferred none) hK' rfl).1
    refine ⟨lowAns none, ?_, rfl, below_grown (((HB2.out.setCell (p := ⟨w.heap.size + 1, 0, none⟩) (by simp) _).setCell (p := ⟨w.heap.size + 1 + 1, 0, none⟩) (by simp; omega) _).trans (belowK_b (w := w) (Nat.le_refl _) _ D _ _ (by simp at hD; omega) hK' rfl rfl))⟩
    simp [results, Tryz.f319, go_sem, p2, p3, lowAns]
  case stop =>
    rintro D c pre W hD ⟨⟨⟨o2, o3⟩, hb⟩, rfl, p, rfl, hp⟩ hK
    rw [hp] at o2
    have HB2 := Lib.hid hb
    clear hb
    gi_wp2
    refine ⟨by simp, .inl ⟨_, _, rfl, run_takeDeferred hK, ?_⟩⟩
    have p2 := (o2.put (.deferred none) hK rfl).1
    have p3 := (o3.put (.deferred none) hK rfl).1
    refine ⟨lowAns (some p), ?_, rfl, below_grown (HB2.out.trans (belowK_b (w := w) (Nat.le_refl _) W D _ _ (by simp at hD; omega) hK rfl rfl))⟩
    simp [results, Tryz.f319, go_sem, p2, p3, lowAns]
theorem hands_any {g r : Nat} {xs : List Int} {w : World} (h : Tab w g r xs) : ∀ W, w.grownBy W none → Hands Tryz.prog 282 #[.pointer (some ⟨g, 0, none⟩)] w.heap.size W (runs 0 xs) :=
  fun W hg => runs_hands (h.kept hg (by simp) (by simp)) h.lt.1 h.lt.2
theorem Count_any {g r : Nat} {xs : List Int} {w : World} (h : Tab w g r xs) :
    Calls Tryz.prog 238 #[.pointer (some ⟨g, 0, none⟩)] w fun e w' => e = .returned (.int .i64 (zeros xs)) ∧ w.grownBy w' none := by
  have hl := h.le
  have := Count_of (hands_any h) (fun pre x post hx => by have := total_within hx; omega)
  rwa [runs_total] at this
theorem lowest_any {g r : Nat} {xs : List Int} {w : World} (h : Tab w g r xs) (n : Int) (hn : 1 ≤ n) :
    Calls Tryz.prog 319 #[.pointer (some ⟨g, 0, none⟩), .int .i64 n] w fun e w' => e = .returned (lowAns (find n 0 xs)) ∧ w.grownBy w' none :=
  lowest_of (hands_any h) (fun hl => find_none hn hl) (fun pre x post hx hp hle => find_some hn hx hp hle)
theorem Nobody.kept {w w' : World} {q : Option Addr} {row : Option Nat} (h : Nobody w q) (hg : w.grownBy w' row) (hr : row = none) : Nobody w' q := by
  rcases h with rfl | ⟨g, rfl, h⟩
  · exact .inl rfl
  · exact .inr ⟨g, rfl, hg.cell h (by rw [hr]; simp)⟩
theorem runs_nobody {q : Option Addr} {w : World} {n₀ : Nat} (h : ∀ W, Below n₀ w W → Nobody W q) : Hands Tryz.prog 282 #[.pointer q] n₀ w [] := fun l J Jx W hb hY h0 => by
  have HP := Lib.hid (pages_nobody (h W hb))
  clear h hb
  refine callsIn_of_wp Tryz.func282 rfl trivial ?_ rfl
  simp only [Tryz.ntmps282, List.size_toArray, List.length_cons, List.length_nil, Nat.reduceAdd, Nat.reduceSub, Array.replicate_succ, Array.replicate_zero, List.push_toArray, List.append_toArray, List.nil_append, List.cons_append]
  gi_wp2_with (refine ⟨trivial, ?_⟩; gi_at_call 276; refine (callsIn_wide.2 HP.out).mono ?_; rintro e w' ⟨rfl, rfl⟩)
  gi_loopw [6] (fun f wr => f = .int .i64 0 ∧ wr = W) (fun _ _ => 0)
  case atStart => exact ⟨rfl, rfl⟩
  case round =>
    obtain ⟨rfl, hw⟩ := hrel
    subst hw
    gi_wp2
    go_end0
    exact ⟨⟨_, rfl⟩, .inl h0⟩
theorem hands_nobody {q : Option Addr} {w : World} (h : Nobody w q) : ∀ W, w.grownBy W none → Hands Tryz.prog 282 #[.pointer q] w.heap.size W [] :=
  fun W hg => runs_nobody fun V hb => by
    have h1 := h.kept hg rfl
    rcases h with rfl | ⟨g, rfl, h⟩
    · exact .inl rfl
    · rcases h1 with h1 | ⟨g', e, h1⟩
      · cases h1
      · injection e with e
        injection e with e
        subst e
        exact .inr ⟨_, rfl, (hb.cell (p := ⟨g, 0, none⟩) (World.block_lt_of_cell? _ _ h)).trans h1⟩
theorem Count_nobody {q : Option Addr} {w : World} (h : Nobody w q) : Calls Tryz.prog 238 #[.pointer q] w fun e w' => e = .returned (.int .i64 0) ∧ w.grownBy w' none :=
  Count_of (hands_nobody h) (fun pre x post hx => by simp at hx)
end Go.Proofs.YtkgdcgmbapchcaaGreatDoor.pg
namespace Go.Proofs.YtkgdcgmbapchcaaGreatDoor.pg
open Go.ChangeShapes Go.WideShapes Go.ChangeAt Go.RowKit gen calls cls li
set_option linter.unusedVariables false
theorem lowest_some {g r : Nat} {xs : List Int} {w : World} (h : Tab w g r xs) {n : Int} (hn : 1 ≤ n) {p : Nat} (hf : find n 0 xs = some p) :
    Calls Tryz.prog 319 #[.pointer (some ⟨g, 0, none⟩), .int .i64 n] w fun e w' => e = .returned (.tuple #[.int .i64 p, .bool true]) ∧ Tab w' g r xs ∧ w.grownBy w' none := by
  have := lowest_any h n hn
  rw [hf] at this
  exact this.mono fun e w' ⟨h1, h2⟩ => ⟨h1, h.kept h2 (by simp) (by simp), h2⟩
theorem lowest_none {g r : Nat} {xs : List Int} {w : World} (h : Tab w g r xs) {n : Int} (hn : 1 ≤ n) (hf : find n 0 xs = none) :
    Calls Tryz.prog 319 #[.pointer (some ⟨g, 0, none⟩), .int .i64 n] w fun e w' => e = .returned (.tuple #[.int .i64 0, .bool false]) ∧ w.grownBy w' none := by
  have := lowest_any h n hn
  rw [hf] at this
  exact this
theorem Take_small_no {q : Option Addr} (k : Int) (w : World) (hk : fits k = true) (h : ¬ (1 ≤ k ∧ k ≤ 4)) :
    Calls Tryz.prog 298 #[.pointer q, .int .i64 k] w fun e w' => e = .returned (.tuple #[.int .i64 0, .bool false]) ∧ w = w' := by
  have HS := Lib.hid (fun w => small_no w hk h)
  clear hk h
  go_enter Tryz.func298, Tryz.ntmps298
  go_wp2_with (go_at_call 312; (with_reducible refine (HS.out _).mono ?_); rintro e w' ⟨rfl, rfl⟩)
  go_ret2
  exact ⟨rfl, rfl⟩
theorem Take_none {q : Option Addr} {k : Int} {w : World} (h : 1 ≤ k ∧ k ≤ 4) (hl : Calls Tryz.prog 319 #[.pointer q, .int .i64 1] w fun e w' => e = .returned (.tuple #[.int .i64 0, .bool false]) ∧ w.grownBy w' none) :
    Calls Tryz.prog 298 #[.pointer q, .int .i64 k] w fun e w' => e = .returned (.tuple #[.int .i64 0, .bool false]) ∧ w.grownBy w' none := by
  have HS := Lib.hid (fun w => small_yes w h)
  have HL := Lib.hid hl
  clear h hl
  go_enter Tryz.func298, Tryz.ntmps298
  go_wp2_with (first
    | (go_at_call 312; (with_reducible refine (HS.out _).mono ?_); rintro e w' ⟨rfl, rfl⟩)
    | (go_at_call 319; (with_reducible refine HL.out.mono ?_); rintro e w' ⟨rfl, hg⟩; have HG := Lib.hid hg; clear hg))
  go_ret2
  exact ⟨rfl, HG.out⟩
theorem Take_some {g r : Nat} {xs : List Int} {k : Int} {w : World} (h : Tab w g r xs) (hk : 1 ≤ k ∧ k ≤ 4) {p : Nat} (hf : find 1 0 xs = some p) :
    Calls Tryz.prog 298 #[.pointer (some ⟨g, 0, none⟩), .int .i64 k] w fun e w' => e = .returned (.tuple #[.int .i64 p, .bool true]) ∧ Tab w' g r (xs.set p k) ∧ w.grownBy w' (some r) := by
  have HS := Lib.hid (fun w => small_yes w hk)
  have HL := Lib.hid (lowest_some h (n := 1) (by omega) hf)
  have hp := (find_at (n := 1) (by omega) hf).1
  have hl := h.le
  have hp' := Lib.hid hp
  clear h hk hf
  go_enter Tryz.func298, Tryz.ntmps298
  go_wp2_with (first
    | (go_at_call 312; (with_reducible refine (HS.out _).mono ?_); rintro e w' ⟨rfl, rfl⟩)
    | (go_at_call 319; (with_reducible refine HL.out.mono ?_); rintro e w1 ⟨rfl, ht, hg⟩; have HT := Lib.hid ht; have HG := Lib.hid hg; clear hg; obtain ⟨c, hc1, hc2, f⟩ := ht.field; have d := ht.word hp; have fr := ht.free p; clear ht; generalize hn : xs.length = n at *))
  go_ret2
  have := HT.out.set (by rw [hn]; exact hp) k
  exact ⟨rfl, this.1, li.grown_then HG.out this.2⟩
theorem Span_below {q : Option Addr} {n : Int} (w : World) (h : n < 1) :
    Calls Tryz.prog 296 #[.pointer q, .int .i64 n] w fun e w' => e = .returned (.tuple #[.int .i64 0, .bool false]) ∧ w = w' := by
  go_enter Tryz.func296, Tryz.ntmps296
  go_wp2
  go_ret2
  exact ⟨rfl, rfl⟩
theorem Span_none {q : Option Addr} {n : Int} {w : World} (h : 1 ≤ n) (hl : Calls Tryz.prog 319 #[.pointer q, .int .i64 n] w fun e w' => e = .returned (.tuple #[.int .i64 0, .bool false]) ∧ w.grownBy w' none) :
    Calls Tryz.prog 296 #[.pointer q, .int .i64 n] w fun e w' => e = .returned (.tuple #[.int .i64 0, .bool false]) ∧ w.grownBy w' none := by
  have HL := Lib.hid hl
  clear hl
  go_enter Tryz.func296, Tryz.ntmps296
  go_wp2_with (go_at_call 319; (with_reducible refine HL.out.mono ?_); rintro e w' ⟨rfl, hg⟩; have HG := Lib.hid hg; clear hg)
  go_ret2
  exact ⟨rfl, HG.out⟩
theorem Span_some {g r : Nat} {xs : List Int} {n : Nat} {w : World} (h : Tab w g r xs) (hn : 1 ≤ n) {p : Nat} (hf : find n 0 xs = some p) :
    Calls Tryz.prog 296 #[.pointer (some ⟨g, 0, none⟩), .int .i64 n] w fun e w' => e = .returned (.tuple #[.int .i64 p, .bool true]) ∧ Tab w' g r (spanN xs p n) ∧ w.grownBy w' (some r) := by
  have HL := Lib.hid (lowest_some h (by omega) hf)
  obtain ⟨hp, _, _, hpn⟩ := find_at (n := n) (by omega) hf
  have hl := h.le
  have HP := Lib.hid (show p + n ≤ xs.length by omega)
  have HPL := Lib.hid hp
  have l1 : (1 : Int) ≤ n := by omega
  have l2 : p + n ≤ 64 := by omega
  clear h hf hpn
  go_enter Tryz.func296, Tryz.ntmps296
  go_wp2_with (first
    | (go_at_call 319; (with_reducible refine HL.out.mono ?_); rintro e w1 ⟨rfl, ht, hg⟩; have HT := Lib.hid ht; have HG := Lib.hid hg; clear hg; obtain ⟨c, hc1, hc2, f⟩ := ht.field; have d := ht.word hp; have fr := ht.free p; clear ht; generalize hm : xs.length = m at *))
  go_loopw [8] (fun i wr => ∃ k : Nat, k + 1 ≤ n ∧ i = .int .i64 ((k + 1 : Nat) : Int) ∧ Tab wr g r (fillN (xs.set p 5) (p + 1) 6 k) ∧ w1.grownBy wr (some r)) (fun i _ => n - (intOf i).toNat)
  case atStart =>
    have := HT.out.set (by rw [hm]; exact hp) 5
    exact ⟨0, by omega, rfl, this.1, this.2⟩
  case round =>
    obtain ⟨k, hk, rfl, ht, hg⟩ := hrel
    have HT2 := Lib.hid ht
    have HG2 := Lib.hid hg
    have hlen : (fillN (xs.set p 5) (p + 1) 6 k).length = m := by rw [fillN_length, List.length_set, hm]
    by_cases hlt : k + 1 < n
    · obtain ⟨c2, hc3, hc4, f2⟩ := ht.field
      have d2 := ht.word (k := p + (k + 1)) (by rw [hlen]; have := HP.out; omega)
      have fr2 := ht.free (p + (k + 1))
      have l3 : p + (k + 1) < m := by have := HP.out; omega
      rw [hlen] at f2 hc3
      have E := Lib.hid hlen
      generalize (fillN (xs.set p 5) (p + 1) 6 k).getD (p + (k + 1)) 0 = y at d2
      clear ht hg hlen f d fr
      go_wp2
      go_roundw
      case rel =>
        have := HT2.out.set (k := p + (k + 1)) (by rw [E.out]; exact l3) 6
        refine ⟨k + 1, by omega, by go_num, ?_, HG2.out.trans this.2⟩
        rw [fillN, show p + 1 + k = p + (k + 1) by omega]
        exact this.1
      case measure => simp [intOf]; omega
    · obtain rfl : n = k + 1 := by omega
      clear ht hg hlen f d fr
      go_wp2
      go_ret2
      exact ⟨rfl, HT2.out, li.grown_then HG.out HG2.out⟩
end Go.Proofs.YtkgdcgmbapchcaaGreatDoor.pg
namespace Go.Proofs.YtkgdcgmbapchcaaGreatDoor.pg
open Go.ChangeShapes Go.WideShapes Go.ChangeAt Go.RowKit gen calls cls li
set_option linter.unusedVariables false
end Go.Proofs.YtkgdcgmbapchcaaGreatDoor.pg
namespace Go.Proofs.YtkgdcgmbapchcaaGreatDoor.pg
open Go.ChangeShapes Go.WideShapes Go.ChangeAt Go.RowKit gen calls cls li
set_option linter.unusedVariables false
end Go.Proofs.YtkgdcgmbapchcaaGreatDoor.pg
namespace Go.Proofs.YtkgdcgmbapchcaaGreatDoor.pg
set_option linter.unusedVariables false
def Wf (xs : List Int) : Prop := ∀ i, xs.getD i 0 = 6 → ∃ j, i = j + 1 ∧ (xs.getD j 0 = 5 ∨ xs.getD j 0 = 6)
theorem Wf.zero (n : Nat) : Wf (List.replicate n 0) := fun i h => by
  rw [List.getD_eq_getElem?_getD, List.getElem?_replicate] at h
  split at h <;> simp at h
theorem getD_in {xs : List Int} {i : Nat} (h : xs.getD i 0 ≠ 0) : i < xs.length := by
  rcases Nat.lt_or_ge i xs.length with h1 | h1
  · exact h1
  · rw [List.getD_eq_getElem?_getD, List.getElem?_eq_none h1] at h
    exact absurd rfl h
theorem Wf.take {xs : List Int} (h : Wf xs) {p : Nat} {k : Int} (hp : p < xs.length) (h0 : xs.getD p 0 = 0) (hk : k ≠ 6) : Wf (xs.set p k) := fun i hi => by
  rw [set_getD _ _ _ _ hp] at hi
  by_cases e : i = p
  · rw [if_pos e] at hi
    exact absurd hi hk
  · rw [if_neg e] at hi
    obtain ⟨j, rfl, hj⟩ := h i hi
    refine ⟨j, rfl, ?_⟩
    rw [set_getD _ _ _ _ hp]
    by_cases e2 : j = p
    · subst e2; omega
    · rw [if_neg e2]; exact hj
theorem Wf.span {xs : List Int} (h : Wf xs) {p n : Nat} (hn : 1 ≤ n) (hp : p + n ≤ xs.length) (h0 : ∀ i, i < n → xs.getD (p + i) 0 = 0) : Wf (spanN xs p n) := fun i hi => by
  rw [spanN_getD _ _ _ hn hp] at hi
  by_cases e : i = p
  · rw [if_pos e] at hi; omega
  · rw [if_neg e] at hi
    by_cases e2 : p < i ∧ i < p + n
    · refine ⟨i - 1, by omega, ?_⟩
      rw [spanN_getD _ _ _ hn hp]
      by_cases e3 : i - 1 = p
      · rw [if_pos e3]; exact .inl rfl
      · rw [if_neg e3, if_pos (by omega)]; exact .inr rfl
    · rw [if_neg e2] at hi
      obtain ⟨j, rfl, hj⟩ := h i hi
      refine ⟨j, rfl, ?_⟩
      rw [spanN_getD _ _ _ hn hp]
      by_cases e4 : p ≤ j ∧ j < p + n
      · have := h0 (j - p) (by omega)
        rw [show p + (j - p) = j by omega] at this
        omega
      · rw [if_neg (by omega), if_neg (by omega)]; exact hj
theorem Wf.fill {xs : List Int} (h : Wf xs) {p n : Nat} (hp : p + n ≤ xs.length) (h6 : xs.getD (p + n) 0 ≠ 6) : Wf (fillN xs p 0 n) := fun i hi => by
  rw [fillN_getD _ _ _ _ hp] at hi
  by_cases e : p ≤ i ∧ i < p + n
  · rw [if_pos e] at hi; omega
  · rw [if_neg e] at hi
    obtain ⟨j, rfl, hj⟩ := h i hi
    refine ⟨j, rfl, ?_⟩
    rw [fillN_getD _ _ _ _ hp]
    by_cases e2 : p ≤ j ∧ j < p + n
    · have : j + 1 = p + n := by omega
      rw [this] at hi
      exact absurd hi h6
    · rw [if_neg e2]; exact hj
theorem kind_getD {xs : List Int} {p : Nat} {k : Int} (hk : k ≠ 0) : xs.getD p 0 = k → kind xs (p : Int) = k := fun h => by
  rw [kind_in (getD_in (by rw [h]; exact hk))]; exact h
theorem Wf.freed {xs : List Int} (h : Wf xs) {p : Nat} (hne : siz xs (p : Int) ≠ 0) : Wf (fillN xs p 0 (siz xs (p : Int)).toNat) := by
  have hin := siz_in hne
  have hw := siz_wide xs p
  refine h.fill (by omega) (fun h6 => ?_)
  have k6 := kind_getD (by decide) h6
  by_cases hs : 1 ≤ kind xs (p : Int) ∧ kind xs (p : Int) ≤ 4
  · rw [siz_small hs] at h6 k6
    obtain ⟨j, hj, h56⟩ := h _ h6
    have e : j = p := by have : (1 : Int).toNat = 1 := rfl; omega
    subst e
    rcases h56 with h5 | h5
    · rw [kind_getD (by decide) h5] at hs; omega
    · rw [kind_getD (by decide) h5] at hs; omega
  · have h5 : kind xs (p : Int) = 5 := by
      by_cases c : kind xs (p : Int) = 5
      · exact c
      · exact absurd (siz_none hs c) hne
    rw [siz_large h5] at k6
    have := (lead_is (k := 6) (by decide) (xs := xs) (p := p + 1)).2
    have e : p + (1 + ((lead 6 (xs.drop (p + 1)) : Nat) : Int)).toNat = p + 1 + lead 6 (xs.drop (p + 1)) := by omega
    rw [e] at k6
    exact this k6
theorem low_wf {xs : List Int} (h : Wf xs) : ∀ p : Nat, xs.getD p 0 = 6 → ∃ q : Nat, lowI xs p = q ∧ q < p ∧ xs.getD q 0 = 5 ∧ ∀ i, q < i → i ≤ p → xs.getD i 0 = 6
  | 0, h6 => by obtain ⟨j, hj, _⟩ := h 0 h6; omega
  | p + 1, h6 => by
    obtain ⟨j, hj, h56⟩ := h _ h6
    obtain rfl : j = p := by omega
    have e : lowI xs ((j + 1 : Nat) : Int) = lowI xs (j : Int) := by
      rw [lowI_step (kind_getD (by decide) h6)]
      congr 1; omega
    rcases h56 with h5 | h5
    · refine ⟨j, ?_, by omega, h5, fun i h1 h2 => ?_⟩
      · rw [e, lowI_stop (by rw [kind_getD (by decide) h5]; decide)]
      · obtain rfl : i = j + 1 := by omega
        exact h6
    · obtain ⟨q, h1, h2, h3, h4⟩ := low_wf h j h5
      refine ⟨q, by rw [e]; exact h1, by omega, h3, fun i c1 c2 => ?_⟩
      by_cases c : i ≤ j
      · exact h4 i c1 c
      · obtain rfl : i = j + 1 := by omega
        exact h6
theorem told_p {xs : List Int} (h : Wf xs) (hk : Ks xs) {p : Nat} (hp : p < xs.length) :
    (xs.getD p 0 = 0 ∧ frs xs p = -1) ∨ ((1 ≤ xs.getD p 0 ∧ xs.getD p 0 ≤ 5) ∧ frs xs p = p) ∨ (xs.getD p 0 = 6 ∧ ∃ q : Nat, frs xs p = q ∧ q < p ∧ xs.getD q 0 = 5 ∧ (p : Int) < q + siz xs q) := by
  have hw := hk p
  have ek := kind_in hp
  by_cases h6 : xs.getD p 0 = 6
  · right; right
    obtain ⟨q, h1, h2, h3, h4⟩ := low_wf h p h6
    have k5 := kind_getD (by decide) h3
    have hs := siz_large k5
    refine ⟨h6, q, ?_, h2, h3, ?_⟩
    · unfold frs
      rw [h1, if_neg (by omega)]
    · rw [hs]
      have hl := (lead_is (k := 6) (by decide) (xs := xs) (p := q + 1)).2
      by_cases c : q + 1 + lead 6 (xs.drop (q + 1)) ≤ p
      · exact absurd (kind_getD (by decide) (h4 _ (by omega) c)) hl
      · omega
  · have hl : lowI xs p = p := lowI_stop (by rw [ek]; exact h6)
    by_cases h0 : xs.getD p 0 = 0
    · left
      refine ⟨h0, ?_⟩
      unfold frs
      rw [hl, siz_none (by omega) (by omega), if_pos rfl]
    · right; left
      refine ⟨by omega, ?_⟩
      unfold frs
      rw [hl, if_neg]
      by_cases h5 : xs.getD p 0 = 5
      · rw [siz_large (by rw [ek]; exact h5)]; omega
      · rw [siz_small (by omega)]; omega
theorem find_zero {xs : List Int} {n : Nat} (hn : 1 ≤ n) {p : Nat} (h : find n 0 xs = some p) : ∀ i, i < n → xs.getD (p + i) 0 = 0 := fun i hi => by
  obtain ⟨_, _, h3, h4⟩ := find_at (n := (n : Int)) (by omega) h
  have := h3 i (by omega)
  rwa [kind_in (by omega)] at this
end Go.Proofs.YtkgdcgmbapchcaaGreatDoor.pg
