/- A pair and a plain one; two pairs: apart. (Printed by wip/tools/genShQ.py.) -/
import Derived.Test.YtokjpibaaioehaaDoorShN
import Derived.Test.YtokjpibaaioehaaDoorShP
namespace Go.Proofs.YtokjpibaaioehaaDoor.sh
open Go.ChangeShapes Go.WideShapes Go.ChangeAt Go.RowKit gen li en gr
set_option linter.unusedVariables false
set_option maxHeartbeats 16000000
set_option maxRecDepth 100000
/-- A pair and a plain one that the call made, apart; w is where it began. -/
def Pr (w : World) (g M N r : Nat) (s t : Ps) (W : World) : Prop := ∃ L J K, Rx w L J g M r s W ∧ Bk W K N r t ∧ (∀ q, q ∈ K → w.heap.size ≤ q) ∧ (∀ q, q ∈ L ++ J → q ∉ K)
/-- Two pairs, apart. -/
def Tw (w : World) (g M h N r : Nat) (s t : Ps) (W : World) : Prop := ∃ L J L2 J2, Rx w L J g M r s W ∧ Rx w L2 J2 h N r t W ∧ (∀ q, q ∈ L ++ J → q ∉ L2 ++ J2)
section
variable {w W W2 : World} {L J L2 J2 : List Nat} {g M h N r : Nat} {s t : Ps} {k x1 x2 : Int}
theorem Rx.new (H : Rx w L J g M r s W) (hg : W.grownBy W2 none) : Rx w L J g M r s W2 := ⟨H.gy.new hg, H.bk.new hg, H.ll, H.jj, H.gr.trans hg⟩
theorem Rx.lt (H : Rx w L J g M r s W) : ∀ q, q ∈ L ++ J → q < W.heap.size := fun q hq => (List.mem_append.1 hq).elim (H.gy.lt q) (H.bk.lt q)
theorem Rx.low (H : Rx w L J g M r s W) : ∀ q, q ∈ L ++ J → w.heap.size ≤ q := fun q hq => (List.mem_append.1 hq).elim (H.ll q) (H.jj q)
theorem Rx.far {X : List Nat} (H : Rx w L J g M r s W) (hg : Gr X W W2) (hX : ∀ q, q ∈ X → w.heap.size ≤ q) (hd : ∀ q, q ∈ L ++ J → q ∉ X) : Rx w L J g M r s W2 :=
  ⟨H.gy.gr hg (fun q hq => hd q (List.mem_append_left _ hq)), H.bk.gr hg (fun q hq => hd q (List.mem_append_right _ hq)), H.ll, H.jj, Gr.grown H.gr hg hX⟩
/-- What was apart stays so: new blocks are new. -/
theorem apart2 {A B A' : List Nat} {n : Nat} (hd : ∀ q, q ∈ A → q ∉ B) (hA : ∀ q, q ∈ A' → q ∈ A ∨ n ≤ q) (hB : ∀ q, q ∈ B → q < n) : ∀ q, q ∈ A' → q ∉ B := fun q hq hb =>
  (hA q hq).elim (fun e => hd q e hb) (fun e => by have := hB q hb; omega)
theorem app_of {A B A' B' : List Nat} {n : Nat} (hA : ∀ q, q ∈ A' → q ∈ A ∨ n ≤ q) (hB : ∀ q, q ∈ B' → q ∈ B ∨ n ≤ q) : ∀ q, q ∈ A' ++ B' → q ∈ A ++ B ∨ n ≤ q := fun q hq =>
  (List.mem_append.1 hq).elim (fun e => (hA q e).imp (fun e => List.mem_append_left _ e) id) (fun e => (hB q e).imp (fun e => List.mem_append_right _ e) id)
/-! ### A pair and a plain one -/
theorem Pr.start {e : Ending} (H : Ru w g M r s W) (k : NewB r t W e W2) : ∃ N, e = .returned (.pointer (some ⟨N, 0, none⟩)) ∧ Pr w g M N r s t W2 := by
  obtain ⟨L, J, H⟩ := H
  obtain ⟨N, K, h1, h2, h3, h4⟩ := k
  exact ⟨N, h1, L, J, K, H.new h4, h2, fun q hq => Nat.le_trans H.gr.size (h3 q hq), fun q hq e => by have := H.lt q hq; have := h3 q e; omega⟩
theorem Pr.new (H : Pr w g M N r s t W) (hg : W.grownBy W2 none) : Pr w g M N r s t W2 := by
  obtain ⟨L, J, K, h1, h2, h3, h4⟩ := H
  exact ⟨L, J, K, h1.new hg, h2.new hg, h3, h4⟩
theorem Pr.grown (H : Pr w g M N r s t W) : w.grownBy W none := by
  obtain ⟨L, J, K, h1, _⟩ := H
  exact h1.gr
theorem Pr.step (H : Pr w g M N r s t W) (k x1 x2 : Int) : Calls Tryd.prog 9 #[.pointer (some ⟨g, 0, none⟩), .pointer (some ⟨M, 0, none⟩), .agg #[.int .i64 k, .int .i64 x1, .int .i64 x2]] W fun e w' => e = .returned (.bool true) ∧ Pr w g M N r (nx r k x1 x2 s) t w' := by
  obtain ⟨L, J, K, h1, h2, h3, h4⟩ := H
  refine (step_any h1.gy h1.bk k x1 x2).mono fun e w' hk => ?_
  obtain ⟨e1, L', J', r1, l1, l2, gr⟩ := h1.after hk
  exact ⟨e1, L', J', K, r1, h2.gr gr (fun q hq e => h4 q e hq), h3, apart2 h4 (app_of l1 l2) h2.lt⟩
theorem Pr.replay (H : Pr w g M N r s t W) (k x1 x2 : Int) : Calls Tryd.prog 11 #[.pointer (some ⟨N, 0, none⟩), .agg #[.int .i64 k, .int .i64 x1, .int .i64 x2]] W fun e w' => e = .returned (.tuple #[]) ∧ Pr w g M N r s (nx r k x1 x2 t) w' := by
  obtain ⟨L, J, K, h1, h2, h3, h4⟩ := H
  refine (replay_any h2 k x1 x2).mono fun e w' ⟨e1, K', k1, k2, gr⟩ => ?_
  exact ⟨e1, L, J, K', h1.far gr h3 h4, k2, fun q hq => (k1 q hq).elim (h3 q) (fun e => Nat.le_trans h1.gr.size e), fun q hq e => (k1 q e).elim (h4 q hq) (fun e => by have := h1.lt q hq; omega)⟩
/-- The clone. -/
theorem Pr.clone (H : Pr w g M N r s s W) : Calls Tryd.prog 12 #[.pointer (some ⟨g, 0, none⟩)] W fun e w' => ∃ h, e = .returned (.pointer (some ⟨h, 0, none⟩)) ∧ Tw w g M h N r s s w' := by
  obtain ⟨L, J, K, h1, h2, h3, h4⟩ := H
  refine (Clone_any h1.gy).mono fun e w' ⟨h, L2, e1, e2, e3, e4⟩ => ?_
  refine ⟨h, e1, L, J, L2, K, h1.new e4, ⟨e2, h2.new e4, fun q hq => Nat.le_trans h1.gr.size (e3 q hq), h3, h1.gr.trans e4⟩, fun q hq e => ?_⟩
  rcases List.mem_append.1 e with e | e
  · have := h1.lt q hq; have := e3 q e; omega
  · exact h4 q hq e
/-! ### Two pairs -/
theorem Tw.new (H : Tw w g M h N r s t W) (hg : W.grownBy W2 none) : Tw w g M h N r s t W2 := by
  obtain ⟨L, J, L2, J2, h1, h2, h3⟩ := H
  exact ⟨L, J, L2, J2, h1.new hg, h2.new hg, h3⟩
theorem Tw.grown (H : Tw w g M h N r s t W) : w.grownBy W none := by
  obtain ⟨L, J, L2, J2, h1, _⟩ := H
  exact h1.gr
theorem Tw.step1 (H : Tw w g M h N r s t W) (k x1 x2 : Int) : Calls Tryd.prog 9 #[.pointer (some ⟨g, 0, none⟩), .pointer (some ⟨M, 0, none⟩), .agg #[.int .i64 k, .int .i64 x1, .int .i64 x2]] W fun e w' => e = .returned (.bool true) ∧ Tw w g M h N r (nx r k x1 x2 s) t w' := by
  obtain ⟨L, J, L2, J2, h1, h2, h3⟩ := H
  refine (step_any h1.gy h1.bk k x1 x2).mono fun e w' hk => ?_
  obtain ⟨e1, L', J', r1, l1, l2, gr⟩ := h1.after hk
  exact ⟨e1, L', J', L2, J2, r1, h2.far gr h1.low (fun q hq e => h3 q e hq), apart2 h3 (app_of l1 l2) h2.lt⟩
theorem Tw.step2 (H : Tw w g M h N r s t W) (k x1 x2 : Int) : Calls Tryd.prog 9 #[.pointer (some ⟨h, 0, none⟩), .pointer (some ⟨N, 0, none⟩), .agg #[.int .i64 k, .int .i64 x1, .int .i64 x2]] W fun e w' => e = .returned (.bool true) ∧ Tw w g M h N r s (nx r k x1 x2 t) w' := by
  obtain ⟨L, J, L2, J2, h1, h2, h3⟩ := H
  refine (step_any h2.gy h2.bk k x1 x2).mono fun e w' hk => ?_
  obtain ⟨e1, L', J', r1, l1, l2, gr⟩ := h2.after hk
  exact ⟨e1, L, J, L', J', h1.far gr h2.low h3, r1, fun q hq e => apart2 (fun q hq e => h3 q e hq) (app_of l1 l2) h1.lt q e hq⟩
theorem Tw.told1 (H : Tw w g M h N r s t W) (hT : bm.Tab W) : Calls Tryd.prog 10 #[.pointer (some ⟨g, 0, none⟩), .pointer (some ⟨M, 0, none⟩)] W fun e w' => e = .returned (.bool true) ∧ W.grownBy w' none := by
  obtain ⟨L, J, L2, J2, h1, h2, h3⟩ := H
  exact told_any h1.gy h1.bk hT
theorem Tw.told2 (H : Tw w g M h N r s t W) (hT : bm.Tab W) : Calls Tryd.prog 10 #[.pointer (some ⟨h, 0, none⟩), .pointer (some ⟨N, 0, none⟩)] W fun e w' => e = .returned (.bool true) ∧ W.grownBy w' none := by
  obtain ⟨L, J, L2, J2, h1, h2, h3⟩ := H
  exact told_any h2.gy h2.bk hT
end
end Go.Proofs.YtokjpibaaioehaaDoor.sh
