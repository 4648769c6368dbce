/- The walk of RootsRefs: an address is told just if a reference to it is there, and no address twice. -/
import Derived.Test.YtpghghmmoihimaaRoF
namespace Go.Proofs.Ytpghghmmoihimaa.ro
open Go.ChangeShapes Go.WideShapes Go.ChangeAt Go.RowKit gen li va wd
set_option linter.unusedVariables false
set_option maxHeartbeats 8000000
set_option maxRecDepth 100000
/-- How often a number stands in a list. -/
def cnt (xs : List Int) (a : Int) : Nat := (xs.filter fun z => decide (z = a)).length
theorem cnt_more {xs : List Int} {k : Nat} (h : k < xs.length) (a : Int) : cnt (xs.take (k + 1)) a = cnt (xs.take k) a + if xs.getD k 0 = a then 1 else 0 := by
  unfold cnt
  rw [li.take_more h 0, List.filter_append, List.length_append]
  congr 1
  by_cases e : xs.getD k 0 = a
  · rw [if_pos e, List.filter_cons_of_pos (by simpa using e)]; rfl
  · rw [if_neg e, List.filter_cons_of_neg (by simpa using e)]; rfl
theorem cnt_le (xs : List Int) (a : Int) : cnt xs a ≤ xs.length := List.length_filter_le _ _
theorem mem_rfA {a : List Int} {x : Va} {z : Int} : z ∈ rfA a x ↔ z ∈ a ∨ x = (2, z) := by
  obtain ⟨x1, x2⟩ := x
  by_cases h1 : x1 = 2
  · by_cases h2 : x2 ∈ a
    · rw [rfA_no2 h2]
      refine ⟨.inl, fun h => h.elim id (fun e => ?_)⟩
      injection e with _ e
      exact e ▸ h2
    · rw [rfA_yes h1 h2, List.mem_append, List.mem_singleton]
      refine ⟨fun h => h.imp id (fun e => by rw [h1, e]), fun h => h.imp id (fun e => ?_)⟩
      injection e with _ e
      exact e.symm
  · rw [rfA_no1 h1]
    refine ⟨.inl, fun h => h.elim id (fun e => ?_)⟩
    injection e with e _
    exact absurd e h1
theorem mem_fold : ∀ (m : List Va) (a : List Int) (z : Int), z ∈ m.foldl rfA a ↔ z ∈ a ∨ (2, z) ∈ m
  | [], a, z => by simp
  | x :: m, a, z => by
    rw [List.foldl_cons, mem_fold m, mem_rfA, List.mem_cons]
    refine ⟨fun h => ?_, fun h => ?_⟩
    · rcases h with (h | h) | h
      · exact .inl h
      · exact .inr (.inl h.symm)
      · exact .inr (.inr h)
    · rcases h with h | h | h
      · exact .inl (.inl h)
      · exact .inl (.inr h.symm)
      · exact .inr h
theorem mem_rf (m : List Va) (z : Int) : z ∈ rf m ↔ (2, z) ∈ m := by
  unfold rf
  rw [mem_fold]
  simp
theorem nodup_rfA {a : List Int} {x : Va} (h : a.Nodup) : (rfA a x).Nodup := by
  unfold rfA
  split
  · rename_i e
    rw [List.nodup_append]
    refine ⟨h, by simp, fun y hy z hz => ?_⟩
    rw [List.mem_singleton] at hz
    subst hz
    exact fun e2 => e.2 (e2 ▸ hy)
  · exact h
theorem nodup_fold : ∀ (m : List Va) (a : List Int), a.Nodup → (m.foldl rfA a).Nodup
  | [], a, h => h
  | x :: m, a, h => nodup_fold m _ (nodup_rfA h)
theorem nodup_rf (m : List Va) : (rf m).Nodup := nodup_fold m [] List.nodup_nil
theorem cnt_nodup : ∀ {xs : List Int} (a : Int), xs.Nodup → cnt xs a = if a ∈ xs then 1 else 0
  | [], a, _ => by simp [cnt]
  | x :: xs, a, h => by
    obtain ⟨h1, h2⟩ := List.nodup_cons.1 h
    have ih := cnt_nodup a h2
    by_cases e : x = a
    · subst e
      rw [if_neg h1] at ih
      unfold cnt at ih ⊢
      rw [List.filter_cons_of_pos (by simp), List.length_cons, ih, if_pos (by simp)]
    · unfold cnt at ih ⊢
      rw [List.filter_cons_of_neg (by simpa using e), ih]
      have : (a ∈ x :: xs) ↔ a ∈ xs := by simp [Ne.symm e]
      by_cases h3 : a ∈ xs
      · rw [if_pos h3, if_pos (this.2 h3)]
      · rw [if_neg h3, if_neg (fun h => h3 (this.1 h))]
theorem cnt_rf (m : List Va) (a : Int) : cnt (rf m) a = if (2, a) ∈ m then 1 else 0 := by
  rw [cnt_nodup a (nodup_rf m)]
  by_cases h : (2, a) ∈ m
  · rw [if_pos h, if_pos ((mem_rf m a).2 h)]
  · rw [if_neg h, if_neg (fun e => h ((mem_rf m a).1 e))]
/-- What Push does with any value. -/
def psh (m : List Va) (x : Va) : List Va × Bool := if chk x.1 x.2 = 0 ∧ m.length < 16 then (m ++ [x], true) else (m, false)
theorem Push_any {w : World} {g : Nat} {m : List Va} (h : Rt w g m) (k n : Int) :
    Calls Try.prog 15 #[.pointer (some ⟨g, 0, none⟩), .agg #[.int .i64 k, .int .i64 n]] w fun e w' => ∃ b m', psh m (k, n) = (m', b) ∧ e = .returned (.bool b) ∧ Rt w' g m' ∧ w.grownBy w' (some g) := by
  by_cases hc : chk k n = 0 ∧ m.length < 16
  · refine (Push_yes h hc.2 k n hc.1).mono ?_
    rintro e w' ⟨rfl, hr, hg⟩
    exact ⟨true, _, by unfold psh; rw [if_pos hc], rfl, hr, hg⟩
  · have no : psh m (k, n) = (m, false) := by unfold psh; rw [if_neg hc]
    by_cases h16 : m.length = 16
    · refine (Push_full h h16 k n).mono ?_
      rintro e w' ⟨rfl, hg⟩
      exact ⟨false, m, no, rfl, h.new hg, grown_then hg (World.grownBy.refl _ _)⟩
    · refine (Push_bad h (by have := h.2; omega) k n (fun e => hc ⟨e, by have := h.2; omega⟩)).mono ?_
      rintro e w' ⟨rfl, hg⟩
      exact ⟨false, m, no, rfl, h.new hg, grown_then hg (World.grownBy.refl _ _)⟩
theorem psh_mem {m m' : List Va} {x y : Va} {b : Bool} (h : psh m x = (m', b)) : y ∈ m' ↔ y ∈ m ∨ (b = true ∧ x = y) := by
  unfold psh at h
  split at h
  · injection h with h1 h2
    subst h1 h2
    rw [List.mem_append, List.mem_singleton]
    exact ⟨fun h => h.imp id (fun e => ⟨rfl, e.symm⟩), fun h => h.imp id (fun e => e.2.symm)⟩
  · injection h with h1 h2
    subst h1 h2
    exact ⟨.inl, fun h => h.elim id (fun e => by cases e.1)⟩
theorem RootsRefs_any (D : Option Addr) (l c2 : Nat) (f : Nat → Nat → Int) (a : Int) (w : World) (hc : l ≤ c2) (hc2 : c2 ≤ maxLen) (ho : Rws w w.heap.size D l 2 f) :
    Calls Try.prog 5 #[.slice D l c2, .int .i64 a] w fun e w' => e = .returned (.bool true) ∧ w.grownBy w' none := by
  have HO := Lib.hid ho
  clear ho
  unfold maxLen at hc2
  go_enter Try.func5, Try.ntmps5
  go_wp2_with (first
    | (go_at_call 6; (with_reducible refine (alive_any _).mono ?_); rintro e w1 ⟨rfl, hg⟩; have G1 := Lib.hid hg; have R1 := Lib.hid (Rt.zero w1); have G2 := Lib.hid (hg.trans (grown_zero w1)); have LE := Lib.hid hg.size; clear hg))
  go_loopw [6, 7] (fun b i wr => ∃ (k : Nat) (m : List Va), k ≤ l ∧ k ≤ 30 ∧ i = .int .i64 k ∧ b = .bool (decide ((2, a) ∈ m)) ∧ Rt wr w1.heap.size m ∧ w.grownBy wr none) (fun _ i _ => 30 - (intOf i).toNat)
  case atStart => exact ⟨0, [], Nat.zero_le _, Nat.zero_le _, rfl, rfl, R1.out, G2.out⟩
  case round =>
    obtain ⟨k, m, hk, hk2, rfl, rfl, hr, hg⟩ := hrel
    have RR := Lib.hid hr
    have GG := Lib.hid hg
    have O1 := Lib.hid (HO.out.kept hg (by simp))
    clear hr hg
    by_cases hlt : k < l ∧ k < 30
    · obtain ⟨lt1, lt2⟩ := hlt
      obtain ⟨b, off, rfl, hb, hcc, hw⟩ := O1.out k lt1
      have d0 := hcc 0 (by omega)
      rw [Nat.add_zero] at d0
      have d1 := hcc 1 (by omega)
      generalize f k 0 = x0 at d0
      generalize f k 1 = x1 at d1
      have l1 : (0 : Int) ≤ (k : Int) := by omega
      have l2 : (k : Int) < l := by omega
      have hbg : some b ≠ some w1.heap.size := by have := LE.out; simp; omega
      have HBG := Lib.hid hbg
      clear hcc hw O1 hb hbg
      go_wp2_with (first
        | (go_at_call 15; (with_reducible refine (Push_any RR.out x0 x1).mono ?_); rintro e w2 ⟨b2, m2, hp, rfl, hr, hg⟩; have HP := Lib.hid (fun y => psh_mem (y := y) hp); have R2 := Lib.hid hr; have G3 := Lib.hid (grown_new GG.out hg LE.out); have e0 := hg.cell d0 HBG.out; have e1 := hg.cell d1 HBG.out; clear hp hr hg))
      all_goals
        refine ⟨⟨k + 1, m2, by omega, by omega, by go_num, ?_, R2.out, G3.out⟩, by simp [intOf]; omega⟩
        have h := HP.out (2, a)
        congr 1
        simp [*]
    · have RF := Lib.hid (fun (W : World) (hW : Rt W w1.heap.size m) => Refs_any hW)
      have CN := Lib.hid (cnt_rf m a)
      have RL := Lib.hid (Nat.le_trans (rf_length m) RR.out.2)
      have CM := Lib.hid (fun k (h : k < (rf m).length) => cnt_more h a)
      have CL := Lib.hid (cnt_le (rf m) a)
      have DD := Lib.hid (show decide ((2, a) ∈ m) = true ∧ cnt (rf m) a = 1 ∨ decide ((2, a) ∈ m) = false ∧ cnt (rf m) a = 0 by
        by_cases e : (2, a) ∈ m
        · exact .inl ⟨decide_eq_true e, by rw [CN.out, if_pos e]⟩
        · exact .inr ⟨decide_eq_false e, by rw [CN.out, if_neg e]⟩)
      clear CN
      generalize rf m = xs at RF RL CM CL DD
      generalize decide ((2, a) ∈ m) = want at DD ⊢
      obtain ⟨N, hN⟩ : ∃ N, xs.length = N := ⟨_, rfl⟩
      have HN := Lib.hid hN
      have RF2 := Lib.hid (fun (W : World) (hW : Rt W w1.heap.size m) => show Calls Try.prog 17 #[.pointer (some ⟨w1.heap.size, 0, none⟩)] W fun e w' => ∃ A c, e = .returned (.slice A N c) ∧ Rd w' w'.heap.size A N c xs ∧ W.grownBy w' none from (RF.out W hW).mono (by subst hN; rintro e w' ⟨A, c, rfl, ho, hg⟩; exact ⟨A, c, rfl, rd_own ho, hg⟩))
      have RL' := RL.out
      rw [hN] at RL'
      clear hk hk2 hN RF RL CL
      have way : (k : Int) < l ∧ ¬ ((k : Int) < 30) ∨ ¬ ((k : Int) < l) := by omega
      clear hlt
      rcases way with ⟨q1, q2⟩ | q1
      all_goals
        go_wp2_with (first
          | (go_at_call 17; (with_reducible refine (RF2.out _ RR.out).mono ?_); rintro e w2 ⟨A2, e2, rfl, ho2, hg2⟩; have O2 := Lib.hid ho2; have G2 := Lib.hid (GG.out.trans hg2); clear ho2 hg2))
        go_loopw [9, 10] (fun n i wr => ∃ k j : Nat, k ≤ N ∧ i = .int .i64 k ∧ n = .int .i64 j ∧ j ≤ k ∧ cnt (xs.take k) a = j ∧ wr = w2) (fun _ i _ => N - (intOf i).toNat)
        case atStart => exact ⟨0, 0, Nat.zero_le _, rfl, rfl, Nat.zero_le _, rfl, rfl⟩
        case round =>
          obtain ⟨k, j, hk, rfl, rfl, hj, hcn, hw⟩ := hrel
          subst hw
          have HC := Lib.hid hcn
          clear hcn
          by_cases hlt : k < N
          · obtain ⟨b1, o1, rfl, g1⟩ := O2.out.at_ hlt
            have CC := Lib.hid (CM.out k (by rw [HN.out]; exact hlt))
            generalize xs.getD k 0 = z at g1 CC
            by_cases hz : z = a
            · have t1 : (z == a) = true := by simpa using hz
              have HZ := Lib.hid hz
              clear hz
              go_wp2
              go_roundw
              case rel => exact ⟨k + 1, j + 1, by omega, by go_num, by go_num, by omega, by rw [CC.out, if_pos HZ.out, HC.out], trivial⟩
              case measure => simp [intOf]; omega
            · have t1 : (z == a) = false := by simpa using hz
              have HZ := Lib.hid hz
              clear hz
              go_wp2
              go_roundw
              case rel => exact ⟨k + 1, j, by omega, by go_num, rfl, by omega, by rw [CC.out, if_neg HZ.out, HC.out]; rfl, trivial⟩
              case measure => simp [intOf]; omega
          · obtain rfl : k = N := by omega
            have hc := HC.out
            rw [List.take_of_length_le (by rw [HN.out]; exact Nat.le_refl _)] at hc
            rcases DD.out with ⟨rfl, h1⟩ | ⟨rfl, h1⟩
            · obtain rfl : j = 1 := by omega
              clear hc h1
              go_wp2
              go_ret
              exact ⟨rfl, G2.out⟩
            · obtain rfl : j = 0 := by omega
              clear hc h1
              go_wp2
              go_ret
              exact ⟨rfl, G2.out⟩
end Go.Proofs.Ytpghghmmoihimaa.ro
