/- A stack's Push and Clone. (Printed by wip/tools/genSkE.py.) -/
import Derived.Test.YtokjpibaaioehaaSkD
namespace Go.Proofs.Ytokjpibaaioehaa.sk
open Go.ChangeShapes Go.WideShapes Go.ChangeAt Go.RowKit gen li en gr
set_option linter.unusedVariables false
set_option maxHeartbeats 4000000
set_option maxRecDepth 100000
section
variable {w w' W : World} {B g r : Nat} {x1 x2 : Int} {b : Bool} {v : Value} {m : List Va} {K L : List Nat}
theorem PushA.back (hg : w.grownBy W none) {e : Ending} (h : PushA K g r b m W e w') : e = .returned (.bool true) ∧ (∃ K', (∀ q, q ∈ K' → q ∈ K ∨ w.heap.size ≤ q) ∧ Sk w' K' g r b m) ∧ Gr K w w' ∧ Gr K W w' := by
  obtain ⟨h1, K', h2, h3, h4⟩ := h
  exact ⟨h1, ⟨K', fun q hq => (h2 q hq).imp id (Nat.le_trans hg.size), h3⟩, (Gr.new hg).trans h4, h4⟩
theorem Push_yes (h : Sk w K g r b m) (hm : m.length < r) (x1 x2 : Int) : Calls Try.prog 26 #[.pointer (some ⟨g, 0, none⟩), .agg #[.int .i64 x1, .int .i64 x2]] w (PushA K g r b (m ++ [(x1, x2)]) w) := by
  have G0 := Lib.hid (World.grownBy_alloc w (.cells #[.int .i64 x1, .int .i64 x2] 31) none)
  have E0 := Lib.hid (En.made w x1 x2)
  obtain ⟨f0, f1, _, _, _⟩ := E0.out.f
  have f := And.intro f0 f1
  clear f0 f1
  have NB := Lib.hid (show w.heap.size ∉ K from fun e => Nat.lt_irrefl _ (h.lt _ e))
  have PY := Lib.hid (fun W (hg : w.grownBy W none) => (push_yes (h.new hg) hm x1 x2).mono (fun e w' k => PushA.back hg k))
  clear h hm
  go_enter Try.func26, Try.ntmps26
  go_wp2
  go_region_held3 (fun W => W.cell? ⟨w.heap.size, 0, none⟩ = some (.int .i64 x1) ∧ W.cell? ⟨w.heap.size, 1, none⟩ = some (.int .i64 x2)) (first | exact f | exact ff | exact ff1 | go_keep) (first
    | (go_at_call 31; (with_reducible refine (there_any g _).mono ?_); rintro e w' ⟨rfl, hw⟩; subst hw)
    | (go_at_call 32; (with_reducible refine (PY.out _ (by first | exact G0.out | exact G0.out.trans (grown_drew _ _) | exact G0.out.trans (li.grown_drewN _ _ _))).mono ?_); rintro e w2 ⟨rfl, hs, hg, hg2⟩; have S2 := Lib.hid hs; have G2 := Lib.hid hg; have ff := (⟨hg2.cell (p := ⟨w.heap.size, 0, none⟩) f.1 NB.out, hg2.cell (p := ⟨w.heap.size, 1, none⟩) f.2 NB.out⟩ : _ ∧ _); clear hs hg hg2))
  go_wp2
  go_ret
  obtain ⟨K', k1, k2⟩ := S2.out
  exact ⟨rfl, K', k1, k2, G2.out⟩
theorem Push_no (h : Sk w K g r b m) (hm : m.length = r) (x1 x2 : Int) : Calls Try.prog 26 #[.pointer (some ⟨g, 0, none⟩), .agg #[.int .i64 x1, .int .i64 x2]] w fun e w' => e = .returned (.bool false) ∧ Sk w' K g r (decide (0 < r)) m ∧ Gr K w w' := by
  have G0 := Lib.hid (World.grownBy_alloc w (.cells #[.int .i64 x1, .int .i64 x2] 31) none)
  have E0 := Lib.hid (En.made w x1 x2)
  obtain ⟨f0, f1, _, _, _⟩ := E0.out.f
  have f := And.intro f0 f1
  clear f0 f1
  have NB := Lib.hid (show w.heap.size ∉ K from fun e => Nat.lt_irrefl _ (h.lt _ e))
  have PY := Lib.hid (fun W (hg : w.grownBy W none) => (push_no (h.new hg) hm x1 x2).mono (fun e w' k => (⟨k.1, k.2.1, (Gr.new hg).trans k.2.2, k.2.2⟩ : e = .returned (.bool false) ∧ Sk w' K g r (decide (0 < r)) m ∧ Gr K w w' ∧ Gr K W w')))
  clear h hm
  go_enter Try.func26, Try.ntmps26
  go_wp2
  go_region_held3 (fun W => W.cell? ⟨w.heap.size, 0, none⟩ = some (.int .i64 x1) ∧ W.cell? ⟨w.heap.size, 1, none⟩ = some (.int .i64 x2)) (first | exact f | exact ff | exact ff1 | go_keep) (first
    | (go_at_call 31; (with_reducible refine (there_any g _).mono ?_); rintro e w' ⟨rfl, hw⟩; subst hw)
    | (go_at_call 32; (with_reducible refine (PY.out _ (by first | exact G0.out | exact G0.out.trans (grown_drew _ _) | exact G0.out.trans (li.grown_drewN _ _ _))).mono ?_); rintro e w2 ⟨rfl, hs, hg, hg2⟩; have S2 := Lib.hid hs; have G2 := Lib.hid hg; have ff := (⟨hg2.cell (p := ⟨w.heap.size, 0, none⟩) f.1 NB.out, hg2.cell (p := ⟨w.heap.size, 1, none⟩) f.2 NB.out⟩ : _ ∧ _); clear hs hg hg2))
  go_wp2
  go_ret
  exact ⟨rfl, S2.out, G2.out⟩
set_option linter.unusedVariables false in
theorem Push_nil (x1 x2 : Int) (w : World) : Calls Try.prog 26 #[.pointer none, .agg #[.int .i64 x1, .int .i64 x2]] w fun e w' => e = .returned (.bool false) ∧ w.grownBy w' none := by
  have G0 := Lib.hid (World.grownBy_alloc w (.cells #[.int .i64 x1, .int .i64 x2] 31) none)
  have E0 := Lib.hid (En.made w x1 x2)
  obtain ⟨f0, f1, _, _, _⟩ := E0.out.f
  have f := And.intro f0 f1
  clear f0 f1
  have TN := Lib.hid (fun W (hg : (w.alloc (.cells #[.int .i64 x1, .int .i64 x2] 31)).grownBy W none) => (there_nil W).mono (fun e w' h => (⟨_, h.1, h.2.1, by have := hg.size; simp at this ⊢; omega, by have := hg.size; simp at this ⊢; omega, G0.out.trans (hg.trans h.2.2), h.2.2⟩ : ∃ B, e = .returned (.pointer (some ⟨B, 0, none⟩)) ∧ Sk w' [B] B 0 false [] ∧ w.heap.size ≤ B ∧ w.heap.size ∉ [B] ∧ w.grownBy w' none ∧ W.grownBy w' none)))
  go_enter Try.func26, Try.ntmps26
  go_wp2
  go_region_held3 (fun W => W.cell? ⟨w.heap.size, 0, none⟩ = some (.int .i64 x1) ∧ W.cell? ⟨w.heap.size, 1, none⟩ = some (.int .i64 x2)) (first | exact f | exact ff | exact ff1 | go_keep) (first
    | (go_at_call 31; (with_reducible refine (TN.out _ (by first | exact World.grownBy.refl _ _ | exact grown_drew _ _ | exact li.grown_drewN _ _ _)).mono ?_); rintro e w1 ⟨B, rfl, hs, hB, hNB, hg, hg1⟩; have S1 := Lib.hid hs; have HB := Lib.hid hB; have G1 := Lib.hid hg; have ff := (⟨hg1.cell (a := ⟨w.heap.size, 0, none⟩) f.1 (by simp), hg1.cell (a := ⟨w.heap.size, 1, none⟩) f.2 (by simp)⟩ : _ ∧ _); have NB := Lib.hid hNB; clear hs hB hNB hg hg1)
    | (go_at_call 32; (with_reducible refine (push_no (S1.out.new (by first | exact World.grownBy.refl _ _ | exact grown_drew _ _ | exact li.grown_drewN _ _ _)) rfl x1 x2).mono ?_); rintro e w2 ⟨rfl, hs, hg⟩; have ff1 := (⟨hg.cell (p := ⟨w.heap.size, 0, none⟩) ff.1 NB.out, hg.cell (p := ⟨w.heap.size, 1, none⟩) ff.2 NB.out⟩ : _ ∧ _); have G2 := Lib.hid (Gr.grown (G1.out.trans (by first | exact World.grownBy.refl _ _ | exact grown_drew _ _ | exact li.grown_drewN _ _ _)) hg (by simpa using HB.out)); clear hs hg))
  go_wp2
  go_ret
  exact ⟨rfl, G2.out⟩
/-! ### Clone -/
end
end Go.Proofs.Ytokjpibaaioehaa.sk
