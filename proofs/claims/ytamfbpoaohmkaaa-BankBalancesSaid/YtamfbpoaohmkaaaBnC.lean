/- The statement's own told, few and alive. -/
import Derived.Test.YtamfbpoaohmkaaaBnB
import Derived.StillTailTactics
import Derived.Deep.DeepCutAuto
namespace Go.Proofs.Ytamfbpoaohmkaaa.bn
open Go.ChangeShapes Go.WideShapes Go.ChangeAt Go.RowKit gen li gr
set_option linter.unusedVariables false
set_option maxHeartbeats 4000000
set_option maxRecDepth 100000
/-- A book in a box of its own. -/
def Mx (w : World) (B : Nat) (r h i o l : Int) : Prop := w.heap[B]? = some (.cells #[.int .i64 r, .int .i64 h, .int .i64 i, .int .i64 o, .int .i64 l] 25 (0, 0))
section
variable {w w' W : World} {g B : Nat} {i o l r h N : Int} {L : List Nat}
theorem Mx.lt (k : Mx w B r h i o l) : B < w.heap.size := (Array.getElem?_eq_some_iff.1 k).1
theorem Mx.kept {row : Option Nat} (k : Mx w B r h i o l) (hg : w.grownBy w' row) (hr : some B ≠ row) : Mx w' B r h i o l := (hg.block B k.lt hr).trans k
theorem Mx.new (k : Mx w B r h i o l) (hg : w.grownBy w' none) : Mx w' B r h i o l := k.kept hg (by simp)
theorem Mx.made (w : World) (r h i o l : Int) : Mx (w.alloc (.cells #[.int .i64 r, .int .i64 h, .int .i64 i, .int .i64 o, .int .i64 l] 25)) w.heap.size r h i o l := heap_alloc_new _ _
/-- Its cells. -/
def Fx (w : World) (B : Nat) (r h i o l : Int) : Prop := w.cell? ⟨B, 0, none⟩ = some (.int .i64 r) ∧ w.cell? ⟨B, 1, none⟩ = some (.int .i64 h) ∧ w.cell? ⟨B, 2, none⟩ = some (.int .i64 i) ∧ w.cell? ⟨B, 3, none⟩ = some (.int .i64 o) ∧ w.cell? ⟨B, 4, none⟩ = some (.int .i64 l)
theorem Mx.f (k : Mx w B r h i o l) : w.cell? ⟨B, 0, none⟩ = some (.int .i64 r) ∧ w.cell? ⟨B, 1, none⟩ = some (.int .i64 h) ∧ w.cell? ⟨B, 2, none⟩ = some (.int .i64 i) ∧ w.cell? ⟨B, 3, none⟩ = some (.int .i64 o) ∧ w.cell? ⟨B, 4, none⟩ = some (.int .i64 l) :=
  ⟨by rw [cell_of_row w B 0 _ _ _ k]; rfl, by rw [cell_of_row w B 1 _ _ _ k]; rfl, by rw [cell_of_row w B 2 _ _ _ k]; rfl, by rw [cell_of_row w B 3 _ _ _ k]; rfl, by rw [cell_of_row w B 4 _ _ _ k]; rfl⟩
theorem Mx.free (k : Mx w B r h i o l) (j : Nat) : w.frozen? ⟨B, j, none⟩ = false := frozen_of_row w B j _ _ k
/-! ### told -/
theorem told_any (k : Bk w g N h i o l r) : Calls Try.prog 19 #[.pointer (some ⟨g, 0, none⟩), .agg #[.int .i64 r, .int .i64 h, .int .i64 i, .int .i64 o, .int .i64 l]] w fun e w' => e = .returned (.bool true) ∧ w.grownBy w' none := by
  obtain ⟨W0, hW0⟩ : ∃ W0, W0 = w.alloc (.cells #[.int .i64 r, .int .i64 h, .int .i64 i, .int .i64 o, .int .i64 l] 25) := ⟨_, rfl⟩
  obtain ⟨B, hB⟩ : ∃ B, B = w.heap.size := ⟨_, rfl⟩
  have G0 := Lib.hid (show w.grownBy W0 none by rw [hW0]; exact World.grownBy_alloc _ _ _)
  have M0 := Lib.hid (show Mx W0 B r h i o l by rw [hW0, hB]; exact Mx.made _ _ _ _ _ _)
  have MF := Lib.hid (fun W (hg : W0.grownBy W none) => (M0.out.new hg).f)
  have k0 := k.new G0.out
  have BA := Lib.hid (fun W (hg : W0.grownBy W none) => (Balance_any (k0.bo.new hg) k.nu.e k.nu.h0 (Int.le_trans k.nu.hr k.nu.r1)).mono (fun e w' q => (⟨q.1, hg.trans q.2⟩ : e = .returned (.int .i64 h) ∧ W0.grownBy w' none)))
  have IA := Lib.hid (fun W (hg : W0.grownBy W none) => (In_any (k0.bo.new hg)))
  have OA := Lib.hid (fun W (hg : W0.grownBy W none) => (Out_any (k0.bo.new hg)))
  have LA := Lib.hid (fun W (hg : W0.grownBy W none) => (Lost_any (k0.bo.new hg)))
  have f := M0.out.f
  clear k k0
  go_enter Try.func19, Try.ntmps19
  go_upto_region 1 with fail
  rw [← hW0, ← hB]
  clear hW0 hB
  go_region_held3 (fun W => W.cell? ⟨B, 0, none⟩ = some (.int .i64 r) ∧ W.cell? ⟨B, 1, none⟩ = some (.int .i64 h) ∧ W.cell? ⟨B, 2, none⟩ = some (.int .i64 i) ∧ W.cell? ⟨B, 3, none⟩ = some (.int .i64 o) ∧ W.cell? ⟨B, 4, none⟩ = some (.int .i64 l)) (first | exact f | exact ff | go_keep) (first
    | (go_at_call 14; (with_reducible refine (BA.out _ (by first | exact World.grownBy.refl _ _ | exact grown_drew _ _ | exact li.grown_drewN _ _ _)).mono ?_); rintro e w1 ⟨rfl, hg⟩; have G1 := Lib.hid hg; have ff := MF.out _ hg; clear hg)
    | (go_at_call 15; (with_reducible refine (IA.out _ (by first | exact G1.out | exact G1.out.trans (grown_drew _ _) | exact G1.out.trans (li.grown_drewN _ _ _))).mono ?_); rintro e w' ⟨rfl, hw⟩; subst hw)
    | (go_at_call 16; (with_reducible refine (OA.out _ (by first | exact G1.out | exact G1.out.trans (grown_drew _ _) | exact G1.out.trans (li.grown_drewN _ _ _))).mono ?_); rintro e w' ⟨rfl, hw⟩; subst hw)
    | (go_at_call 17; (with_reducible refine (LA.out _ (by first | exact G1.out | exact G1.out.trans (grown_drew _ _) | exact G1.out.trans (li.grown_drewN _ _ _))).mono ?_); rintro e w' ⟨rfl, hw⟩; subst hw))
  go_wp2
  go_ret
  exact ⟨rfl, G0.out.trans (by first | exact G1.out | exact G1.out.trans (grown_drew _ _) | exact G1.out.trans (li.grown_drewN _ _ _))⟩
end
/-! ### few -/
theorem few_any (A : Option Addr) (n c : Nat) (w : World) (hc : n ≤ c) (hc2 : c ≤ maxLen) (hA : 0 < n → ∃ ad, A = some ad) :
    Calls Try.prog 10 #[.slice A n c] w fun e w' => (∃ l c', l ≤ 60 ∧ l ≤ n ∧ e = .returned (.slice A l c')) ∧ w = w' := by
  unfold maxLen at hc2
  by_cases hn : 60 < n
  · obtain ⟨ad, rfl⟩ := hA (by omega)
    clear hA
    have l1 : (60 : Int) ≤ c := by omega
    go_enter Try.func10, Try.ntmps10
    go_wp2
    all_goals
      go_ret
      exact ⟨⟨60, _, by omega, by omega, rfl⟩, rfl⟩
  · clear hA
    go_enter Try.func10, Try.ntmps10
    go_wp2
    go_ret
    exact ⟨⟨n, _, by omega, by omega, rfl⟩, rfl⟩
end Go.Proofs.Ytamfbpoaohmkaaa.bn
