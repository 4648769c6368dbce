/- Texts that this claim stands on. -/
import Derived.Test.YtkgdcgmbapchcaaGreatDoorQSkX
namespace Go.Proofs.YtkgdcgmbapchcaaGreatDoor.sk
open Go.ChangeShapes Go.WideShapes Go.ChangeAt Go.RowKit gen li en gr
set_option linter.unusedVariables false
set_option maxHeartbeats 4000000
set_option maxRecDepth 100000
def En (w : World) (B : Nat) (x1 x2 : Int) : Prop := w.heap[B]? = some (.cells #[.int .i64 x1, .int .i64 x2] 157 (0, 0))
section
variable {w w' W : World} {B g r : Nat} {x1 x2 : Int} {b : Bool} {v : Value} {m : List Va} {K L : List Nat}
theorem En.f (h : En w B x1 x2) : w.cell? ⟨B, 0, none⟩ = some (.int .i64 x1) ∧ w.cell? ⟨B, 1, none⟩ = some (.int .i64 x2) ∧ w.frozen? ⟨B, 0, none⟩ = false ∧ w.frozen? ⟨B, 1, none⟩ = false ∧ B < w.heap.size :=
  ⟨by rw [cell_of_row w B 0 _ _ _ h]; rfl, by rw [cell_of_row w B 1 _ _ _ h]; rfl, frozen_of_row w B 0 _ _ h, frozen_of_row w B 1 _ _ h, (Array.getElem?_eq_some_iff.1 h).1⟩
theorem En.gr (h : En w B x1 x2) (hg : Gr L w w') (hB : B ∉ L) : En w' B x1 x2 := hg.heap h hB
theorem En.new (h : En w B x1 x2) (hg : w.grownBy w' none) : En w' B x1 x2 := (Gr.new (L := []) hg).heap h (by simp)
theorem En.made (w : World) (x1 x2 : Int) : En (w.alloc (.cells #[.int .i64 x1, .int .i64 x2] 157)) w.heap.size x1 x2 := heap_alloc_new _ _
theorem grown_two (w : World) (B : Nat) (v1 v2 : Value) : w.grownBy ((w.setCell ⟨B, 0, none⟩ v1).setCell ⟨B, 1, none⟩ v2) (some B) := (grown_set _ _ _ _).trans (grown_set _ _ _ _)
def near (n a b : Int) : Int := if n < a then a else if b < n then b else n
theorem ret_int {a b : Int} (h : a = b) : Ending.returned (.int .i64 a) = .returned (.int .i64 b) := by rw [h]
theorem Clamp_any (n a b : Int) (w : World) : Calls Tryz.prog 104 #[.int .i64 n, .int .i64 a, .int .i64 b] w fun e w' => e = .returned (.int .i64 (near n a b)) ∧ w = w' := by
  by_cases h : n < a
  · go_enter Tryz.func104, Tryz.ntmps104
    go_wp2
    go_ret
    exact ⟨by simp [near, h], rfl⟩
  by_cases h2 : b < n
  all_goals
    go_enter Tryz.func104, Tryz.ntmps104
    go_wp2
    go_ret
    exact ⟨ret_int (by unfold near; repeat' split
                       all_goals omega), rfl⟩
def NewA (r : Nat) (b : Bool) (m : List Va) (w : World) (e : Ending) (w' : World) : Prop := ∃ g K, e = .returned (.pointer (some ⟨g, 0, none⟩)) ∧ Sk w' K g r b m ∧ (∀ q, q ∈ K → w.heap.size ≤ q) ∧ w.grownBy w' none
theorem New_any (n : Int) (k : Nat) (hk : near n 1 256 = k) (h8 : k ≤ 256) (w : World) : Calls Tryz.prog 173 #[.int .i64 n] w (NewA k false [] w) := by
  have HK := Lib.hid hk
  have FR := Lib.hid (show Sk (w.alloc (.cells #[.int .i64 (k : Int), .bool false, .slice none 0 0] 226)) [w.heap.size] w.heap.size k false [] from ⟨nl, ⟨heap_alloc_new _ _, Lv.nil _ _, h8, by simp⟩, rfl⟩)
  clear hk
  go_enter Tryz.func173, Tryz.ntmps173
  go_wp2_with (go_at_call 104; (with_reducible refine (Clamp_any _ _ _ _).mono ?_); rintro e w' ⟨rfl, hw⟩; subst hw; rw [HK.out])
  go_ret
  exact ⟨_, _, rfl, FR.out, fun q hq => by simp at hq; omega, World.grownBy_alloc _ _ _⟩
theorem Len_any (h : Sk w K g r b m) : Calls Tryz.prog 315 #[.pointer (some ⟨g, 0, none⟩)] w fun e w' => e = .returned (.int .i64 m.length) ∧ w = w' := by
  have C := count_any h
  clear h
  obtain ⟨n, hn⟩ : ∃ n, n = m.length := ⟨_, rfl⟩
  rw [← hn] at C
  rw [← hn]
  clear hn
  have CC := Lib.hid C
  clear C
  go_enter Tryz.func315, Tryz.ntmps315
  go_wp2_with (first
    | (go_at_call 285; (with_reducible refine (there_any g _).mono ?_); rintro e w' ⟨rfl, hw⟩; subst hw)
    | (go_at_call 326; (with_reducible refine (CC.out).mono ?_); rintro e w' ⟨rfl, hw⟩; subst hw))
  go_ret
  exact ⟨rfl, rfl⟩
theorem Over_any (h : Sk w K g r b m) : Calls Tryz.prog 316 #[.pointer (some ⟨g, 0, none⟩)] w fun e w' => e = .returned (.bool b) ∧ w = w' := by
  have C := over_any h
  clear h
  have CC := Lib.hid C
  clear C
  go_enter Tryz.func316, Tryz.ntmps316
  go_wp2_with (first
    | (go_at_call 285; (with_reducible refine (there_any g _).mono ?_); rintro e w' ⟨rfl, hw⟩; subst hw)
    | (go_at_call 327; (with_reducible refine (CC.out).mono ?_); rintro e w' ⟨rfl, hw⟩; subst hw))
  go_ret
  exact ⟨rfl, rfl⟩
theorem Settle_any (h : Sk w K g r b m) : Calls Tryz.prog 258 #[.pointer (some ⟨g, 0, none⟩)] w fun e w' => e = .returned (.bool b) ∧ Sk w' K g r false m ∧ Gr K w w' := by
  have CC := Lib.hid (settle_any h)
  clear h
  go_enter Tryz.func258, Tryz.ntmps258
  go_wp2_with (first
    | (go_at_call 285; (with_reducible refine (there_any g _).mono ?_); rintro e w' ⟨rfl, hw⟩; subst hw)
    | (go_at_call 291; (with_reducible refine (CC.out).mono ?_); rintro e w' ⟨rfl, hs, hg⟩; have H := Lib.hid hs; have G := Lib.hid hg; clear hs hg))
  go_ret
  exact ⟨rfl, H.out, G.out⟩
theorem Pop_none (h : Sk w K g r b []) : Calls Tryz.prog 256 #[.pointer (some ⟨g, 0, none⟩)] w fun e w' => e = vb (0, 0) false ∧ w.grownBy w' none := by
  have G0 := Lib.hid (World.grownBy_alloc w (.cells #[.int .i64 0, .int .i64 0] 157) none)
  have E0 := Lib.hid (En.made w 0 0)
  have CC := Lib.hid (pop_none (h.new G0.out))
  clear h
  go_enter Tryz.func256, Tryz.ntmps256
  go_wp2_with (first
    | (go_at_call 285; (with_reducible refine (there_any g _).mono ?_); rintro e w' ⟨rfl, hw⟩; subst hw)
    | (go_at_call 290; (with_reducible refine (CC.out).mono ?_); rintro e w2 ⟨rfl, hg⟩; obtain ⟨f0, f1, z0, z1, lt2⟩ := (E0.out.new hg).f; have G2 := Lib.hid (G0.out.trans hg); clear hg))
  refine bodyPost_ret (v := .tuple #[.agg #[.int .i64 0, .int .i64 0], .bool false]) ?_ rfl ⟨rfl, ?_⟩
  · simp [results, Tryz.results256, go_sem, *]
  · exact li.grown_new G2.out (grown_two _ _ _ _) (Nat.le_refl _)
theorem Pop_yes {x : Va} (h : Sk w K g r b (m ++ [x])) : Calls Tryz.prog 256 #[.pointer (some ⟨g, 0, none⟩)] w fun e w' => e = vb x true ∧ Sk w' K g r b m ∧ Gr K w w' := by
  have G0 := Lib.hid (World.grownBy_alloc w (.cells #[.int .i64 0, .int .i64 0] 157) none)
  have E0 := Lib.hid (En.made w 0 0)
  have CC := Lib.hid (pop_yes (h.new G0.out))
  have NB := Lib.hid (show w.heap.size ∉ K from fun e => Nat.lt_irrefl _ (h.lt _ e))
  obtain ⟨x1, x2⟩ := x
  clear h
  go_enter Tryz.func256, Tryz.ntmps256
  go_wp2_with (first
    | (go_at_call 285; (with_reducible refine (there_any g _).mono ?_); rintro e w' ⟨rfl, hw⟩; subst hw)
    | (go_at_call 290; (with_reducible refine (CC.out).mono ?_); rintro e w2 ⟨rfl, hs, hg⟩; obtain ⟨f0, f1, z0, z1, lt2⟩ := (E0.out.gr hg NB.out).f; have S2 := Lib.hid hs; have G2 := Lib.hid ((Gr.new G0.out).trans hg); clear hs hg))
  have GR := grown_two w2 w.heap.size (.int .i64 x1) (.int .i64 x2)
  refine bodyPost_ret (v := .tuple #[.agg #[.int .i64 x1, .int .i64 x2], .bool true]) ?_ rfl ⟨rfl, ?_, ?_⟩
  · simp [results, Tryz.results256, go_sem, *]
  · exact S2.out.gr (Gr.one (L := [w.heap.size]) GR (by simp)) (fun q hq e => by rw [List.mem_singleton] at e; subst e; exact NB.out hq)
  · exact gr_aside G2.out GR (Nat.le_refl _)
end
end Go.Proofs.YtkgdcgmbapchcaaGreatDoor.sk
namespace Go.Proofs.YtkgdcgmbapchcaaGreatDoor.sk
open Go.ChangeShapes Go.WideShapes Go.ChangeAt Go.RowKit gen li en gr
set_option linter.unusedVariables false
set_option maxHeartbeats 4000000
set_option maxRecDepth 100000
section
variable {w w' W : World} {B g r : Nat} {x1 x2 : Int} {b : Bool} {v : Value} {m : List Va} {K L : List Nat}
theorem PushA.back (hg : w.grownBy W none) {e : Ending} (h : PushA K g r b m W e w') : e = .returned (.bool true) ∧ (∃ K', (∀ q, q ∈ K' → q ∈ K ∨ w.heap.size ≤ q) ∧ Sk w' K' g r b m) ∧ Gr K w w' ∧ Gr K W w' := by
  obtain ⟨h1, K', h2, h3, h4⟩ := h
  exact ⟨h1, ⟨K', fun q hq => (h2 q hq).imp id (Nat.le_trans hg.size), h3⟩, (Gr.new hg).trans h4, h4⟩
theorem Push_yes (h : Sk w K g r b m) (hm : m.length < r) (x1 x2 : Int) : Calls Tryz.prog 249 #[.pointer (some ⟨g, 0, none⟩), .agg #[.int .i64 x1, .int .i64 x2]] w (PushA K g r b (m ++ [(x1, x2)]) w) := by
  have G0 := Lib.hid (World.grownBy_alloc w (.cells #[.int .i64 x1, .int .i64 x2] 157) none)
  have E0 := Lib.hid (En.made w x1 x2)
  obtain ⟨f0, f1, _, _, _⟩ := E0.out.f
  have f := And.intro f0 f1
  clear f0 f1
  have NB := Lib.hid (show w.heap.size ∉ K from fun e => Nat.lt_irrefl _ (h.lt _ e))
  have PY := Lib.hid (fun W (hg : w.grownBy W none) => (push_yes (h.new hg) hm x1 x2).mono (fun e w' k => PushA.back hg k))
  clear h hm
  go_enter Tryz.func249, Tryz.ntmps249
  go_wp2
  go_region_held3 (fun W => W.cell? ⟨w.heap.size, 0, none⟩ = some (.int .i64 x1) ∧ W.cell? ⟨w.heap.size, 1, none⟩ = some (.int .i64 x2)) (first | exact f | exact ff | exact ff1 | go_keep) (first
    | (go_at_call 285; (with_reducible refine (there_any g _).mono ?_); rintro e w' ⟨rfl, hw⟩; subst hw)
    | (go_at_call 286; (with_reducible refine (PY.out _ (by first | exact G0.out | exact G0.out.trans (grown_drew _ _) | exact G0.out.trans (li.grown_drewN _ _ _))).mono ?_); rintro e w2 ⟨rfl, hs, hg, hg2⟩; have S2 := Lib.hid hs; have G2 := Lib.hid hg; have ff := (⟨hg2.cell (p := ⟨w.heap.size, 0, none⟩) f.1 NB.out, hg2.cell (p := ⟨w.heap.size, 1, none⟩) f.2 NB.out⟩ : _ ∧ _); clear hs hg hg2))
  go_wp2
  go_ret
  obtain ⟨K', k1, k2⟩ := S2.out
  exact ⟨rfl, K', k1, k2, G2.out⟩
theorem Push_no (h : Sk w K g r b m) (hm : m.length = r) (x1 x2 : Int) : Calls Tryz.prog 249 #[.pointer (some ⟨g, 0, none⟩), .agg #[.int .i64 x1, .int .i64 x2]] w fun e w' => e = .returned (.bool false) ∧ Sk w' K g r (decide (0 < r)) m ∧ Gr K w w' := by
  have G0 := Lib.hid (World.grownBy_alloc w (.cells #[.int .i64 x1, .int .i64 x2] 157) none)
  have E0 := Lib.hid (En.made w x1 x2)
  obtain ⟨f0, f1, _, _, _⟩ := E0.out.f
  have f := And.intro f0 f1
  clear f0 f1
  have NB := Lib.hid (show w.heap.size ∉ K from fun e => Nat.lt_irrefl _ (h.lt _ e))
  have PY := Lib.hid (fun W (hg : w.grownBy W none) => (push_no (h.new hg) hm x1 x2).mono (fun e w' k => (⟨k.1, k.2.1, (Gr.new hg).trans k.2.2, k.2.2⟩ : e = .returned (.bool false) ∧ Sk w' K g r (decide (0 < r)) m ∧ Gr K w w' ∧ Gr K W w')))
  clear h hm
  go_enter Tryz.func249, Tryz.ntmps249
  go_wp2
  go_region_held3 (fun W => W.cell? ⟨w.heap.size, 0, none⟩ = some (.int .i64 x1) ∧ W.cell? ⟨w.heap.size, 1, none⟩ = some (.int .i64 x2)) (first | exact f | exact ff | exact ff1 | go_keep) (first
    | (go_at_call 285; (with_reducible refine (there_any g _).mono ?_); rintro e w' ⟨rfl, hw⟩; subst hw)
    | (go_at_call 286; (with_reducible refine (PY.out _ (by first | exact G0.out | exact G0.out.trans (grown_drew _ _) | exact G0.out.trans (li.grown_drewN _ _ _))).mono ?_); rintro e w2 ⟨rfl, hs, hg, hg2⟩; have S2 := Lib.hid hs; have G2 := Lib.hid hg; have ff := (⟨hg2.cell (p := ⟨w.heap.size, 0, none⟩) f.1 NB.out, hg2.cell (p := ⟨w.heap.size, 1, none⟩) f.2 NB.out⟩ : _ ∧ _); clear hs hg hg2))
  go_wp2
  go_ret
  exact ⟨rfl, S2.out, G2.out⟩
end
end Go.Proofs.YtkgdcgmbapchcaaGreatDoor.sk
