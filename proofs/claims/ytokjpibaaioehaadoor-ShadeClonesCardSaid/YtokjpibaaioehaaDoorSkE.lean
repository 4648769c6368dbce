/- A stack's Push and Clone. (Printed by wip/tools/genSkE.py.) -/
import Derived.Test.YtokjpibaaioehaaDoorSkD
namespace Go.Proofs.YtokjpibaaioehaaDoor.sk
open Go.ChangeShapes Go.WideShapes Go.ChangeAt Go.RowKit gen li en gr
set_option linter.unusedVariables false
set_option maxHeartbeats 4000000
set_option maxRecDepth 100000
section
variable {w w' W : World} {B g r : Nat} {x1 x2 : Int} {b : Bool} {v : Value} {m : List Va} {K L : List Nat}
theorem PushA.back (hg : w.grownBy W none) {e : Ending} (h : PushA K g r b m W e w') : e = .returned (.bool true) ∧ (∃ K', (∀ q, q ∈ K' → q ∈ K ∨ w.heap.size ≤ q) ∧ Sk w' K' g r b m) ∧ Gr K w w' ∧ Gr K W w' := by
  obtain ⟨h1, K', h2, h3, h4⟩ := h
  exact ⟨h1, ⟨K', fun q hq => (h2 q hq).imp id (Nat.le_trans hg.size), h3⟩, (Gr.new hg).trans h4, h4⟩
theorem Push_yes (h : Sk w K g r b m) (hm : m.length < r) (x1 x2 : Int) : Calls Tryd.prog 48 #[.pointer (some ⟨g, 0, none⟩), .agg #[.int .i64 x1, .int .i64 x2]] w (PushA K g r b (m ++ [(x1, x2)]) w) := by
  have G0 := Lib.hid (World.grownBy_alloc w (.cells #[.int .i64 x1, .int .i64 x2] 43) none)
  have E0 := Lib.hid (En.made w x1 x2)
  obtain ⟨f0, f1, _, _, _⟩ := E0.out.f
  have f := And.intro f0 f1
  clear f0 f1
  have NB := Lib.hid (show w.heap.size ∉ K from fun e => Nat.lt_irrefl _ (h.lt _ e))
  have PY := Lib.hid (fun W (hg : w.grownBy W none) => (push_yes (h.new hg) hm x1 x2).mono (fun e w' k => PushA.back hg k))
  clear h hm
  go_enter Tryd.func48, Tryd.ntmps48
  go_wp2
  go_region_held3 (fun W => W.cell? ⟨w.heap.size, 0, none⟩ = some (.int .i64 x1) ∧ W.cell? ⟨w.heap.size, 1, none⟩ = some (.int .i64 x2)) (first | exact f | exact ff | exact ff1 | go_keep) (first
    | (go_at_call 55; (with_reducible refine (there_any g _).mono ?_); rintro e w' ⟨rfl, hw⟩; subst hw)
    | (go_at_call 59; (with_reducible refine (PY.out _ (by first | exact G0.out | exact G0.out.trans (grown_drew _ _) | exact G0.out.trans (li.grown_drewN _ _ _))).mono ?_); rintro e w2 ⟨rfl, hs, hg, hg2⟩; have S2 := Lib.hid hs; have G2 := Lib.hid hg; have ff := (⟨hg2.cell (p := ⟨w.heap.size, 0, none⟩) f.1 NB.out, hg2.cell (p := ⟨w.heap.size, 1, none⟩) f.2 NB.out⟩ : _ ∧ _); clear hs hg hg2))
  go_wp2
  go_ret
  obtain ⟨K', k1, k2⟩ := S2.out
  exact ⟨rfl, K', k1, k2, G2.out⟩
theorem Push_no (h : Sk w K g r b m) (hm : m.length = r) (x1 x2 : Int) : Calls Tryd.prog 48 #[.pointer (some ⟨g, 0, none⟩), .agg #[.int .i64 x1, .int .i64 x2]] w fun e w' => e = .returned (.bool false) ∧ Sk w' K g r (decide (0 < r)) m ∧ Gr K w w' := by
  have G0 := Lib.hid (World.grownBy_alloc w (.cells #[.int .i64 x1, .int .i64 x2] 43) none)
  have E0 := Lib.hid (En.made w x1 x2)
  obtain ⟨f0, f1, _, _, _⟩ := E0.out.f
  have f := And.intro f0 f1
  clear f0 f1
  have NB := Lib.hid (show w.heap.size ∉ K from fun e => Nat.lt_irrefl _ (h.lt _ e))
  have PY := Lib.hid (fun W (hg : w.grownBy W none) => (push_no (h.new hg) hm x1 x2).mono (fun e w' k => (⟨k.1, k.2.1, (Gr.new hg).trans k.2.2, k.2.2⟩ : e = .returned (.bool false) ∧ Sk w' K g r (decide (0 < r)) m ∧ Gr K w w' ∧ Gr K W w')))
  clear h hm
  go_enter Tryd.func48, Tryd.ntmps48
  go_wp2
  go_region_held3 (fun W => W.cell? ⟨w.heap.size, 0, none⟩ = some (.int .i64 x1) ∧ W.cell? ⟨w.heap.size, 1, none⟩ = some (.int .i64 x2)) (first | exact f | exact ff | exact ff1 | go_keep) (first
    | (go_at_call 55; (with_reducible refine (there_any g _).mono ?_); rintro e w' ⟨rfl, hw⟩; subst hw)
    | (go_at_call 59; (with_reducible refine (PY.out _ (by first | exact G0.out | exact G0.out.trans (grown_drew _ _) | exact G0.out.trans (li.grown_drewN _ _ _))).mono ?_); rintro e w2 ⟨rfl, hs, hg, hg2⟩; have S2 := Lib.hid hs; have G2 := Lib.hid hg; have ff := (⟨hg2.cell (p := ⟨w.heap.size, 0, none⟩) f.1 NB.out, hg2.cell (p := ⟨w.heap.size, 1, none⟩) f.2 NB.out⟩ : _ ∧ _); clear hs hg hg2))
  go_wp2
  go_ret
  exact ⟨rfl, S2.out, G2.out⟩
set_option linter.unusedVariables false in
theorem Push_nil (x1 x2 : Int) (w : World) : Calls Tryd.prog 48 #[.pointer none, .agg #[.int .i64 x1, .int .i64 x2]] w fun e w' => e = .returned (.bool false) ∧ w.grownBy w' none := by
  have G0 := Lib.hid (World.grownBy_alloc w (.cells #[.int .i64 x1, .int .i64 x2] 43) none)
  have E0 := Lib.hid (En.made w x1 x2)
  obtain ⟨f0, f1, _, _, _⟩ := E0.out.f
  have f := And.intro f0 f1
  clear f0 f1
  have TN := Lib.hid (fun W (hg : (w.alloc (.cells #[.int .i64 x1, .int .i64 x2] 43)).grownBy W none) => (there_nil W).mono (fun e w' h => (⟨_, h.1, h.2.1, by have := hg.size; simp at this ⊢; omega, by have := hg.size; simp at this ⊢; omega, G0.out.trans (hg.trans h.2.2), h.2.2⟩ : ∃ B, e = .returned (.pointer (some ⟨B, 0, none⟩)) ∧ Sk w' [B] B 0 false [] ∧ w.heap.size ≤ B ∧ w.heap.size ∉ [B] ∧ w.grownBy w' none ∧ W.grownBy w' none)))
  go_enter Tryd.func48, Tryd.ntmps48
  go_wp2
  go_region_held3 (fun W => W.cell? ⟨w.heap.size, 0, none⟩ = some (.int .i64 x1) ∧ W.cell? ⟨w.heap.size, 1, none⟩ = some (.int .i64 x2)) (first | exact f | exact ff | exact ff1 | go_keep) (first
    | (go_at_call 55; (with_reducible refine (TN.out _ (by first | exact World.grownBy.refl _ _ | exact grown_drew _ _ | exact li.grown_drewN _ _ _)).mono ?_); rintro e w1 ⟨B, rfl, hs, hB, hNB, hg, hg1⟩; have S1 := Lib.hid hs; have HB := Lib.hid hB; have G1 := Lib.hid hg; have ff := (⟨hg1.cell (a := ⟨w.heap.size, 0, none⟩) f.1 (by simp), hg1.cell (a := ⟨w.heap.size, 1, none⟩) f.2 (by simp)⟩ : _ ∧ _); have NB := Lib.hid hNB; clear hs hB hNB hg hg1)
    | (go_at_call 59; (with_reducible refine (push_no (S1.out.new (by first | exact World.grownBy.refl _ _ | exact grown_drew _ _ | exact li.grown_drewN _ _ _)) rfl x1 x2).mono ?_); rintro e w2 ⟨rfl, hs, hg⟩; have ff1 := (⟨hg.cell (p := ⟨w.heap.size, 0, none⟩) ff.1 NB.out, hg.cell (p := ⟨w.heap.size, 1, none⟩) ff.2 NB.out⟩ : _ ∧ _); have G2 := Lib.hid (Gr.grown (G1.out.trans (by first | exact World.grownBy.refl _ _ | exact grown_drew _ _ | exact li.grown_drewN _ _ _)) hg (by simpa using HB.out)); clear hs hg))
  go_wp2
  go_ret
  exact ⟨rfl, G2.out⟩
/-! ### Clone -/
/-- A pile's cells in a box of their own. -/
theorem copied_any (h : Sk w K g r b m) : Calls Tryd.prog 57 #[.pointer (some ⟨g, 0, none⟩)] w fun e w' => ∃ A c, e = .returned (.agg #[.int .i64 r, .bool b, .slice A m.length c]) ∧ Lv w' w.heap.size (.slice A m.length c) m ∧ w.grownBy w' none := by
  have CO := Lib.hid (fun W (hg : w.grownBy W none) => (pall_any (h.new hg)).mono (fun e w' (k : VasAns m W e w') => (show ∃ A c, e = .returned (.slice A m.length c) ∧ Lv w' w.heap.size (.slice A m.length c) m ∧ w.grownBy w' none ∧ W.grownBy w' none from by
    obtain ⟨A, c, e1, h1, h2⟩ := k
    exact ⟨A, c, e1, h1.mono hg.size, hg.trans h2, h2⟩)))
  have G0 := Lib.hid (World.grownBy_alloc w (.cells #[.int .i64 0, .bool false, .slice none 0 0] 69) none)
  have H0 := Lib.hid (heap_alloc_new w (.cells #[.int .i64 0, .bool false, .slice none 0 0] 69))
  have hle := h.le
  obtain ⟨v, h, _⟩ := h
  have f := (⟨h.c0, h.c1⟩ : _ ∧ _)
  have fg := (⟨(h.new G0.out).c0, (h.new G0.out).c1⟩ : _ ∧ _)
  have glt := h.lt
  have n1 : ¬ (w.heap.size = g) := by omega
  have n2 : ¬ (g = w.heap.size) := by omega
  have hi := h.hi
  have FF := Lib.hid (fun W (hg : w.grownBy W none) => (⟨hg.cell h.c0 (by simp), hg.cell h.c1 (by simp)⟩ : W.cell? ⟨g, 0, none⟩ = some (.int .i64 r) ∧ W.cell? ⟨g, 1, none⟩ = some (.bool b)))
  clear h
  obtain ⟨n, hn⟩ : ∃ n, n = m.length := ⟨_, rfl⟩
  rw [← hn] at CO hle
  rw [← hn]
  clear hn
  go_enter Tryd.func57, Tryd.ntmps57
  go_wp2
  go_region_held3 (fun W => W.cell? ⟨g, 0, none⟩ = some (.int .i64 r) ∧ W.cell? ⟨g, 1, none⟩ = some (.bool b)) (first | exact fg | exact ff | go_keep) (first
    | (go_at_call 64; (with_reducible refine (CO.out _ (by first | exact G0.out | exact G0.out.trans (grown_drew _ _) | exact G0.out.trans (li.grown_drewN _ _ _))).mono ?_); rintro e w2 ⟨A, c, rfl, hl, hg, hg2⟩; have L2 := Lib.hid hl; have G2 := Lib.hid hg; have ff := FF.out _ hg; have H2 := Lib.hid ((Gr.new (L := []) hg2).heap H0.out (by simp)); have r0 := cell_of_row w2 w.heap.size 0 _ _ _ H2.out; have r1 := cell_of_row w2 w.heap.size 1 _ _ _ H2.out; have r2 := cell_of_row w2 w.heap.size 2 _ _ _ H2.out; have z0 := frozen_of_row w2 w.heap.size 0 _ _ H2.out; have z1 := frozen_of_row w2 w.heap.size 1 _ _ H2.out; have z2 := frozen_of_row w2 w.heap.size 2 _ _ H2.out; have lt2 : w.heap.size < w2.heap.size := (Array.getElem?_eq_some_iff.1 H2.out).1; clear hl hg hg2))
  go_wp2
  have GR := ((grown_set w2 w.heap.size 0 (.int .i64 (r : Int))).trans (grown_set _ w.heap.size 1 (.bool b))).trans (grown_set _ w.heap.size 2 (.slice A n c))
  refine bodyPost_ret (v := .agg #[.int .i64 r, .bool b, .slice A n c]) ?_ rfl ⟨A, c, rfl, ?_, ?_⟩
  · simp [results, Tryd.results57, go_sem, *]
  · exact L2.out.kept GR (.inr (L2.out.off H2.out (fun cs z => by simp)))
  · exact li.grown_new G2.out GR (Nat.le_refl _)
theorem Clone_any (h : Sk w K g r b m) (hr : 1 ≤ r) : Calls Tryd.prog 46 #[.pointer (some ⟨g, 0, none⟩)] w (NewA r b m w) := by
  have MD := Lib.hid (show Calls Tryd.prog 56 #[.pointer (some ⟨g, 0, none⟩)] w (fun e w' => e = .returned (.bool true) ∧ w = w') from by have := made_any h; rwa [show decide (0 < r) = true from decide_eq_true hr] at this)
  have CO := Lib.hid (copied_any h)
  have h1 := h.hi
  have h2 := h.fit
  have FIN := Lib.hid (fun (A : Option Addr) (c : Nat) (W : World) (hl : Lv W w.heap.size (.slice A m.length c) m) (hg : w.grownBy W none) => (show NewA r b m w (.returned (.pointer (some ⟨W.heap.size, 0, none⟩))) (W.alloc (.cells #[.int .i64 (r : Int), .bool b, .slice A m.length c] 71)) from
    ⟨_, _, rfl, ⟨_, ⟨heap_alloc_new _ _, (hl.mono (Nat.zero_le _)).new (World.grownBy_alloc _ _ _), h1, h2⟩, rfl⟩, fun q hq => by
      rcases ks_of.1 hq with rfl | e
      · exact hg.size
      · exact hl.from_ q e, hg.trans (World.grownBy_alloc _ _ _)⟩))
  clear h hr h1 h2
  generalize m.length = n at CO FIN
  go_enter Tryd.func46, Tryd.ntmps46
  go_wp2_with (first
    | (go_at_call 55; (with_reducible refine (there_any g _).mono ?_); rintro e w' ⟨rfl, hw⟩; subst hw)
    | (go_at_call 56; (with_reducible refine (MD.out).mono ?_); rintro e w' ⟨rfl, hw⟩; subst hw)
    | (go_at_call 57; (with_reducible refine (CO.out).mono ?_); rintro e w2 ⟨A, c, rfl, hl, hg⟩; have F2 := Lib.hid (FIN.out A c w2 hl hg); clear hl hg))
  go_ret
  exact F2.out
theorem Clone_zero (h : Sk w K g 0 b m) : Calls Tryd.prog 46 #[.pointer (some ⟨g, 0, none⟩)] w fun e w' => e = .returned (.pointer none) ∧ w = w' := by
  have MD := Lib.hid (show Calls Tryd.prog 56 #[.pointer (some ⟨g, 0, none⟩)] w (fun e w' => e = .returned (.bool false) ∧ w = w') from made_any h)
  clear h
  go_enter Tryd.func46, Tryd.ntmps46
  go_wp2_with (first
    | (go_at_call 55; (with_reducible refine (there_any g _).mono ?_); rintro e w' ⟨rfl, hw⟩; subst hw)
    | (go_at_call 56; (with_reducible refine (MD.out).mono ?_); rintro e w' ⟨rfl, hw⟩; subst hw))
  go_ret
  exact ⟨rfl, rfl⟩
theorem Clone_nil (w : World) : Calls Tryd.prog 46 #[.pointer none] w fun e w' => e = .returned (.pointer none) ∧ w.grownBy w' none := by
  have TN := Lib.hid (fun W (hg : w.grownBy W none) => (there_nil W).mono (fun e w' h => ThA.back hg h))
  have MD := Lib.hid (fun W g K m (h : Sk W K g 0 false m) => (show Calls Tryd.prog 56 #[.pointer (some ⟨g, 0, none⟩)] W (fun e w' => e = .returned (.bool false) ∧ W = w') from made_any h))
  go_enter Tryd.func46, Tryd.ntmps46
  go_wp2_with (first
    | (go_at_call 55; (with_reducible refine (TN.out _ (World.grownBy.refl _ _)).mono ?_); rintro e w1 ⟨B, rfl, hs, hB, hg⟩; have S1 := Lib.hid hs; have G1 := Lib.hid hg; clear hs hB hg)
    | (go_at_call 56; (with_reducible refine (MD.out _ _ _ _ S1.out).mono ?_); rintro e w' ⟨rfl, hw⟩; subst hw))
  go_ret
  exact ⟨rfl, G1.out⟩
end
end Go.Proofs.YtokjpibaaioehaaDoor.sk
