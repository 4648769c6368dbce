/- Store; New; what a heap of cells that nobody made answers. -/
import Derived.Test.YtfhmhlofjoahlaaGreatDoorCeV
namespace Go.Proofs.YtfhmhlofjoahlaaGreatDoor.ce
open Go.ChangeShapes Go.WideShapes Go.ChangeAt Go.RowKit gen calls cls geos
set_option linter.unusedVariables false
set_option maxHeartbeats 4000000
set_option maxRecDepth 100000
abbrev bool1 (b : Bool) : Ending := .returned (.bool b)
section
variable {w w' : World} {c h g r m q s : Nat} {ks xs cs : List Int} {ws : List Nat}
theorem Store_no (H : Hp w c h g r m q s ks xs cs ws) (hks : pg.Ks ks) (a v : Int) (hb : bs ks (bm.nums ws) a = -1) :
    Calls Tryz.prog 31 #[.pointer (some ⟨c, 0, none⟩), .int .i64 a, .int .i64 v] w fun e w' => e = bool1 false ∧ bm.Drew w w' := by
  have B := Lib.hid (Base_any H hks a)
  rw [hb] at B
  clear H hks hb
  go_enter Tryz.func31, Tryz.ntmps31
  go_wp2_with (go_at_call 61; (with_reducible refine B.out.mono ?_); rintro e w2 ⟨rfl, k, rfl⟩)
  go_ret
  exact ⟨rfl, k, rfl⟩
theorem Store_yes (H : Hp w c h g r m q s ks xs cs ws) (hks : pg.Ks ks) (a : Nat) (v : Int) (hb : bs ks (bm.nums ws) a ≠ -1) (ha : a < xs.length) :
    Calls Tryz.prog 31 #[.pointer (some ⟨c, 0, none⟩), .int .i64 a, .int .i64 v] w (Did (.bool true) c h g r m q s ks (xs.set a v) cs (bm.nums ws) w) := by
  have B := Lib.hid (Base_any H hks a)
  obtain ⟨b, hbb⟩ : ∃ b, bs ks (bm.nums ws) a = b := ⟨_, rfl⟩
  rw [hbb] at B hb
  have t1 : (b == -1) = false := by simpa using hb
  have M := Lib.hid (fun n => made_yes (H.drewN n))
  have S := Lib.hid (fun n => mm.Store_yes (H.drewN n).mem a v ha)
  have f := H.h1
  have H0 := Lib.hid H
  clear H hks hb ha hbb
  go_enter Tryz.func31, Tryz.ntmps31
  go_wp2_with (first
    | (go_at_call 61; (with_reducible refine B.out.mono ?_); rintro e w2 ⟨rfl, k, rfl⟩)
    | (go_at_call 52; (with_reducible refine (M.out _).mono ?_); rintro e w' ⟨rfl, rfl⟩)
    | (go_at_call 62; (with_reducible refine (S.out _).mono ?_); rintro e w3 ⟨rfl, hm, hg⟩; have H3 := Lib.hid ((H0.out.drewN k).words hm hg (by rw [List.length_set])); have G3 := Lib.hid (((Gr.refl [h, r, q, s] w).drewN k).trans (Gr.one hg (by simp))); clear hm hg))
  go_ret
  exact ⟨ws, rfl, H3.out, rfl, G3.out⟩
end
/-! ### New -/
theorem zeros_rep (k : Nat) : pg.zeros (List.replicate k 0) = k := by
  induction k with
  | zero => rfl
  | succ k ih => rw [List.replicate_succ, pg.zeros, if_pos rfl, ih]; omega
theorem zero_len : Tryz.zeroCells78 = (Value.pointer none :: Value.pointer none :: (List.replicate 128 (.int .i64 0) ++ [Value.pointer none])).toArray := by rfl
theorem hcs_zero (g m s : Nat) : ((Tryz.zeroCells78.setIfInBounds 0 (.pointer (some ⟨g, 0, none⟩))).setIfInBounds 1 (.pointer (some ⟨m, 0, none⟩))).setIfInBounds 130 (.pointer (some ⟨s, 0, none⟩)) = (hcs g m s (List.replicate 128 0)).toArray := by
  rw [zero_len]
  rfl
/-- What New answers. -/
def NewAns (k : Nat) (w : World) (e : Ending) (w' : World) : Prop :=
  ∃ c h g r m q s, e = .returned (.pointer (some ⟨c, 0, none⟩)) ∧ Hp w' c h g r m q s (List.replicate k 0) (List.replicate (32 * k) 0) (List.replicate 128 0) bm.zeros ∧
    (w.heap.size ≤ c ∧ w.heap.size ≤ h ∧ w.heap.size ≤ g ∧ w.heap.size ≤ r ∧ w.heap.size ≤ m ∧ w.heap.size ≤ q ∧ w.heap.size ≤ s) ∧ w.grownBy w' none
theorem New_any (n : Int) (k : Nat) (hk : pg.near n 0 64 = k) (w : World) : Calls Tryz.prog 40 #[.int .i64 n] w (NewAns k w) := by
  have h2 : k ≤ 64 := by unfold pg.near at hk; repeat' split at hk
                         all_goals omega
  have P := Lib.hid (pg.New_any n k hk w)
  obtain ⟨K, hK⟩ : ∃ K, K = 32 * k := ⟨_, rfl⟩
  have M := Lib.hid (fun w => mm.New_any (K : Int) K (by unfold mm.near; rw [if_neg (by omega), if_neg (by omega)]) w)
  have S := Lib.hid (fun w => bm.New_any (K : Int) K (by unfold bm.near; rw [if_neg (by omega), if_neg (by omega)]) w)
  have HZ := Lib.hid (zeros_rep k)
  have E1 := Lib.hid (show (k : Int) * 32 = (K : Int) by omega)
  have HK := Lib.hid hK
  clear hk hK
  go_enter Tryz.func40, Tryz.ntmps40
  go_wp2_with (first
    | (go_at_call 70; (with_reducible refine P.out.mono ?_); rintro e w1 ⟨g, r, rfl, ht, h1, h2, hg⟩; have T1 := Lib.hid ht; have HG := Lib.hid h1; have HR := Lib.hid h2; have G1 := Lib.hid hg; clear ht hg h1 h2)
    | (go_at_call 69; (with_reducible refine (pg.Count_any T1.out).mono ?_); rintro e w2 ⟨rfl, hg⟩; rw [HZ.out]; have T2 := Lib.hid (T1.out.kept hg (by simp) (by simp)); have G2 := Lib.hid (G1.out.trans hg); clear hg)
    | (go_at_call 71; rw [E1.out]; (with_reducible refine (M.out _).mono ?_); rintro e w3 ⟨m, q, rfl, ht, h1, h2, hg⟩; have M3 := Lib.hid ht; have HM := Lib.hid h1; have HQ := Lib.hid h2; have T3 := Lib.hid (T2.out.kept hg (by simp) (by simp)); have G3 := Lib.hid (G2.out.trans hg); clear ht hg h1 h2)
    | (go_at_call 72; (with_reducible refine (S.out _).mono ?_); rintro e w4 ⟨s, rfl, ht, h1, hg⟩; have S4 := Lib.hid ht; have HS := Lib.hid h1; have T4 := Lib.hid (T3.out.kept hg (by simp) (by simp)); have M4 := Lib.hid (M3.out.kept hg (by simp) (by simp)); have G4 := Lib.hid (G3.out.trans hg); clear ht hg h1))
  go_ret
  have s1 : (w4.alloc (.cells (hcs g m s (List.replicate 128 0)).toArray 78)).heap.size = w4.heap.size + 1 := by simp
  have gg := (World.grownBy_alloc w4 (.cells (hcs g m s (List.replicate 128 0)).toArray 78) none).trans (World.grownBy_alloc _ (.cells #[.pointer (some ⟨w4.heap.size, 0, none⟩)] 93) none)
  rw [hcs_zero]
  refine ⟨w4.heap.size + 1, w4.heap.size, g, r, m, q, s, rfl, ⟨?_, ?_, T4.out.kept gg (by simp) (by simp), ?_, ?_, by simp⟩, ?_, G4.out.trans gg⟩
  · rw [← s1, heap_alloc_new]
  · rw [Below.heap_alloc _ _ _ (by omega), heap_alloc_new]
  · rw [← HK.out]; exact M4.out.kept gg (by simp) (by simp)
  · rw [← HK.out, List.length_replicate]; exact S4.out.kept gg (by simp)
  · have := G2.out.size; have := G3.out.size; have := G4.out.size; have := HG.out; have := HR.out; have := HM.out; have := HQ.out; have := HS.out
    omega
end Go.Proofs.YtfhmhlofjoahlaaGreatDoor.ce
