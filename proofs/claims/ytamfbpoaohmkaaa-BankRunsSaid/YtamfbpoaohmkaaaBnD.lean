/- The statement's own alive, and its step: each call answers as the book does. -/
import Derived.Test.YtamfbpoaohmkaaaBnC
namespace Go.Proofs.Ytamfbpoaohmkaaa.bn
open Go.ChangeShapes Go.WideShapes Go.ChangeAt Go.RowKit gen li gr
set_option linter.unusedVariables false
set_option maxHeartbeats 8000000
set_option maxRecDepth 100000
/-! ### alive -/
/-- A bank that the call made. -/
structure Av (w : World) (g : Nat) (N h i o l : Int) (W : World) : Prop where
  bk : Bk W g N h i o l 5
  le : w.heap.size ≤ g
  grown : w.grownBy W none
section
variable {w W W' : World} {g : Nat} {N h i o l : Int}
theorem Av.new (k : Av w g N h i o l W) (hg : W.grownBy W' none) : Av w g N h i o l W' := ⟨k.bk.new hg, k.le, k.grown.trans hg⟩
theorem Av.put (k : Av w g 0 0 0 0 0 W) : Calls Try.prog 11 #[.pointer (some ⟨g, 0, none⟩), .int .i64 7] W fun e w' => e = .returned (.int .i64 5) ∧ Av w g 2147483648 5 5 0 2 w' :=
  (Put_any k.bk (by omega) 7).mono (fun e w' q => ⟨q.1, q.2.1, k.le, li.grown_new k.grown q.2.2 k.le⟩)
theorem Av.no (k : Av w g N 5 i o l W) : Calls Try.prog 12 #[.pointer (some ⟨g, 0, none⟩), .int .i64 6] W fun e w' => e = .returned (.bool false) ∧ Av w g N 5 i o l w' :=
  (Take_no k.bk 6 (.inr (by omega))).mono (fun e w' q => ⟨q.1, k.new q.2⟩)
theorem Av.spend (k : Av w g 2147483648 5 i 0 l W) : Calls Try.prog 13 #[.pointer (some ⟨g, 0, none⟩), .int .i64 6] W fun e w' => e = .returned (.int .i64 5) ∧ Av w g 2147483648 0 i 5 l w' :=
  (Spend_any k.bk (by omega) 6).mono (fun e w' q => ⟨q.1, q.2.1, k.le, li.grown_new k.grown q.2.2 k.le⟩)
theorem Av.bal (k : Av w g N h i o l W) : Calls Try.prog 14 #[.pointer (some ⟨g, 0, none⟩)] W fun e w' => e = .returned (.int .i64 h) ∧ Av w g N h i o l w' :=
  (Balance_any k.bk.bo k.bk.nu.e k.bk.nu.h0 (Int.le_trans k.bk.nu.hr k.bk.nu.r1)).mono (fun e w' q => ⟨q.1, k.new q.2⟩)
end
theorem alive_any (w : World) : Calls Try.prog 6 #[] w fun r w' => r = .returned (.bool true) ∧ w.grownBy w' none := by
  have N0 := Lib.hid (show Calls Try.prog 8 #[.int .i64 5] w (fun e w' => ∃ g, e = .returned (.pointer (some ⟨g, 0, none⟩)) ∧ Av w g 0 0 0 0 0 w') from (New_any 5 w).mono (fun e w' ⟨g, e1, h1, h2, h3⟩ => ⟨g, e1, h1, h2, h3⟩))
  have C1 := Lib.hid (fun W g (k : Av w g 0 0 0 0 0 W) => k.put)
  have C2 := Lib.hid (fun W g (k : Av w g 2147483648 5 5 0 2 W) => k.no)
  have C3 := Lib.hid (fun W g (k : Av w g 2147483648 5 5 0 2 W) => Lost_any k.bk.bo)
  have C4 := Lib.hid (fun W g (k : Av w g 2147483648 5 5 0 2 W) => k.spend)
  have C5 := Lib.hid (fun W g (k : Av w g 2147483648 0 5 5 2 W) => k.bal)
  have C6 := Lib.hid (fun W g (k : Av w g 2147483648 0 5 5 2 W) => In_any k.bk.bo)
  have C7 := Lib.hid (fun W g (k : Av w g 2147483648 0 5 5 2 W) => Out_any k.bk.bo)
  go_enter Try.func6, Try.ntmps6
  go_wp2_with (first
    | (have mark := S4; go_at_call 16; (with_reducible refine (C7.out _ _ S4.out).mono ?_); rintro r w' ⟨rfl, hw⟩; subst hw)
    | (have mark := S4; go_at_call 15; (with_reducible refine (C6.out _ _ S4.out).mono ?_); rintro r w' ⟨rfl, hw⟩; subst hw)
    | (have mark := S3; go_at_call 14; (with_reducible refine (C5.out _ _ S3.out).mono ?_); rintro r w4 ⟨rfl, hs⟩; have S4 := Lib.hid hs; clear hs)
    | (have mark := S2; go_at_call 13; (with_reducible refine (C4.out _ _ S2.out).mono ?_); rintro r w3 ⟨rfl, hs⟩; have S3 := Lib.hid hs; clear hs)
    | (have mark := S2; go_at_call 17; (with_reducible refine (C3.out _ _ S2.out).mono ?_); rintro r w' ⟨rfl, hw⟩; subst hw)
    | (have mark := S1; go_at_call 12; (with_reducible refine (C2.out _ _ S1.out).mono ?_); rintro r w2 ⟨rfl, hs⟩; have S2 := Lib.hid hs; clear hs)
    | (have mark := S0; go_at_call 11; (with_reducible refine (C1.out _ _ S0.out).mono ?_); rintro r w1 ⟨rfl, hs⟩; have S1 := Lib.hid hs; clear hs)
    | (go_at_call 8; (with_reducible refine N0.out.mono ?_); rintro r w0 ⟨g, rfl, hs⟩; have S0 := Lib.hid hs; clear hs))
  go_ret
  exact ⟨rfl, S4.out.grown⟩
/-! ### step -/
/-- A boxed call. -/
def Ox (w : World) (B : Nat) (x n : Int) : Prop := w.heap[B]? = some (.cells #[.int .i64 x, .int .i64 n] 34 (0, 0))
/-- What is written on what was made on the way counts as nothing. -/
theorem grown_aside {a b c : World} {r : Nat} {row : Option Nat} (h : a.grownBy b row) (k : b.grownBy c (some r)) (hr : a.heap.size ≤ r) : a.grownBy c row :=
  ⟨k.os.trans h.os, k.tape.trans h.tape, k.output.trans h.output, Nat.le_trans h.size k.size, fun i hi hne => (k.block i (Nat.lt_of_lt_of_le hi h.size) (by simp; omega)).trans (h.block i hi hne)⟩
/-- What a step leaves. -/
def StA (g : Nat) (N r : Int) (w : World) (e : Ending) (w' : World) : Prop := ∃ h i o l, e = .returned (.tuple #[.agg #[.int .i64 r, .int .i64 h, .int .i64 i, .int .i64 o, .int .i64 l], .bool true]) ∧ Bk w' g (N + 2147483648) h i o l r ∧ w.grownBy w' (some g)
/-- What stands while a step goes on: the book, the call and the result, boxed. -/
structure Sp (w : World) (g B : Nat) (r h i o l x n : Int) (W : World) : Prop where
  grown : w.grownBy W (some g)
  bk : Mx W B r h i o l
  op : Ox W (B + 1) x n
  rs : Mx W (B + 1 + 1) 0 0 0 0 0
  lt : g < B
  hB : w.heap.size = B
section
variable {w W W' : World} {g B : Nat} {N r h i o l x n : Int}
theorem Sp.start (w : World) (g : Nat) (hg : g < w.heap.size) (r h i o l x n : Int) : Sp w g w.heap.size r h i o l x n (((w.alloc (.cells #[.int .i64 r, .int .i64 h, .int .i64 i, .int .i64 o, .int .i64 l] 25)).alloc (.cells #[.int .i64 x, .int .i64 n] 34)).alloc (.cells #[.int .i64 0, .int .i64 0, .int .i64 0, .int .i64 0, .int .i64 0] 25)) := by
  obtain ⟨w1, h1⟩ : ∃ w1, w1 = w.alloc (.cells #[.int .i64 r, .int .i64 h, .int .i64 i, .int .i64 o, .int .i64 l] 25) := ⟨_, rfl⟩
  have s1 : w1.heap.size = w.heap.size + 1 := by rw [h1]; simp
  have m1 : Mx w1 w.heap.size r h i o l := by rw [h1]; exact Mx.made _ _ _ _ _ _
  have g1 : w.grownBy w1 none := by rw [h1]; exact World.grownBy_alloc _ _ _
  rw [← h1]
  clear h1
  obtain ⟨w2, h2⟩ : ∃ w2, w2 = w1.alloc (.cells #[.int .i64 x, .int .i64 n] 34) := ⟨_, rfl⟩
  have s2 : w2.heap.size = w.heap.size + 1 + 1 := by rw [h2]; simp [s1]
  have m2 : Ox w2 (w.heap.size + 1) x n := by rw [h2, ← s1]; exact heap_alloc_new _ _
  have g2 : w1.grownBy w2 none := by rw [h2]; exact World.grownBy_alloc _ _ _
  rw [← h2]
  clear h2
  have g3 := World.grownBy_alloc w2 (.cells #[.int .i64 0, .int .i64 0, .int .i64 0, .int .i64 0, .int .i64 0] 25) none
  refine ⟨grown_then ((g1.trans g2).trans g3) (World.grownBy.refl _ _), (m1.new g2).new g3, (g3.block _ (Array.getElem?_eq_some_iff.1 m2).1 (by simp)).trans m2, ?_, hg, rfl⟩
  rw [← s2]
  exact Mx.made _ _ _ _ _ _
theorem Sp.kept {row : Option Nat} (k : Sp w g B r h i o l x n W) (hg : W.grownBy W' row) (hr : row = none ∨ row = some g) : Sp w g B r h i o l x n W' := by
  have lt := k.lt
  have ne : ∀ j, B ≤ j → some j ≠ row := fun j hj e => by
    rcases hr with rfl | rfl
    · cases e
    · injection e with e; omega
  refine ⟨?_, k.bk.kept hg (ne _ (Nat.le_refl _)), (hg.block _ (Array.getElem?_eq_some_iff.1 k.op).1 (ne _ (by omega))).trans k.op, k.rs.kept hg (ne _ (by omega)), k.lt, k.hB⟩
  rcases hr with rfl | rfl
  · exact grown_more k.grown hg
  · exact k.grown.trans hg
theorem Sp.new (k : Sp w g B r h i o l x n W) (hg : W.grownBy W' none) : Sp w g B r h i o l x n W' := k.kept hg (.inl rfl)
theorem Sp.row (k : Sp w g B r h i o l x n W) (hg : W.grownBy W' (some g)) : Sp w g B r h i o l x n W' := k.kept hg (.inr rfl)
theorem Sp.f (k : Sp w g B r h i o l x n W) : W.cell? ⟨B, 0, none⟩ = some (.int .i64 r) ∧ W.cell? ⟨B, 1, none⟩ = some (.int .i64 h) ∧ W.cell? ⟨B, 2, none⟩ = some (.int .i64 i) ∧ W.cell? ⟨B, 3, none⟩ = some (.int .i64 o) ∧ W.cell? ⟨B, 4, none⟩ = some (.int .i64 l) ∧ W.cell? ⟨B + 1, 1, none⟩ = some (.int .i64 n) := by
  obtain ⟨a, b, c, d, e⟩ := k.bk.f
  exact ⟨a, b, c, d, e, by rw [cell_of_row W _ 1 _ _ _ k.op]; rfl⟩
theorem Sp.x0 (k : Sp w g B r h i o l x n W) : W.cell? ⟨B + 1, 0, none⟩ = some (.int .i64 x) := by rw [cell_of_row W _ 0 _ _ _ k.op]; rfl
/-- The result is written: what is left. -/
theorem Sp.fin {h2 i2 o2 l2 : Int} (k : Sp w g B r h i o l x n W) (kb : Bk W g (N + 2147483648) h2 i2 o2 l2 r) (hg : W.grownBy W' (some (B + 1 + 1))) :
    StA g N r w (.returned (.tuple #[.agg #[.int .i64 r, .int .i64 h2, .int .i64 i2, .int .i64 o2, .int .i64 l2], .bool true])) W' := by
  have lt := k.lt
  have hB := k.hB
  exact ⟨h2, i2, o2, l2, rfl, kb.kept hg (by simp; omega), grown_aside k.grown hg (by omega)⟩
theorem set5 (w : World) (B : Nat) (a b c d e : Value) : w.grownBy (((((w.setCell ⟨B, 0, none⟩ a).setCell ⟨B, 1, none⟩ b).setCell ⟨B, 2, none⟩ c).setCell ⟨B, 3, none⟩ d).setCell ⟨B, 4, none⟩ e) (some B) :=
  ((((grown_set _ _ _ _).trans (grown_set _ _ _ _)).trans (grown_set _ _ _ _)).trans (grown_set _ _ _ _)).trans (grown_set _ _ _ _)
end
end Go.Proofs.Ytamfbpoaohmkaaa.bn
