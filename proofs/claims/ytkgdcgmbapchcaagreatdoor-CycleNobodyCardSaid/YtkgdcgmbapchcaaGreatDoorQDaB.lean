/- Texts that this claim stands on. -/
import Derived.OwnWalk
import Derived.Test.YtkgdcgmbapchcaaGreatDoorQCzO
import Derived.Test.YtkgdcgmbapchcaaGreatDoorQCeH
namespace Go.Proofs.YtkgdcgmbapchcaaGreatDoor.cy
open Go.ChangeShapes Go.WideShapes Go.ChangeAt Go.RowKit gen calls cls geos ce st sh
set_option linter.unusedVariables false
set_option maxHeartbeats 4000000
set_option maxRecDepth 100000
section
variable {w w' W : World} {B : Nat} {p : Value} {t a i v1 v2 : Int}
def Zk (w : World) (B : Nat) : Prop := w.heap[B]? = some (.cells Tryz.zeroCells65 65 (0, 0))
def Nc (w : World) (p : Value) : Prop := p = .pointer none ∨ ∃ B, p = .pointer (some ⟨B, 0, none⟩) ∧ Zk w B
theorem Zk.new (h : Zk w B) (hg : w.grownBy w' none) : Zk w' B := (Gr.new (L := []) hg).heap h (by simp)
theorem Nc.new (h : Nc w p) (hg : w.grownBy w' none) : Nc w' p := by
  rcases h with h | ⟨B, e, h⟩
  · exact .inl h
  · exact .inr ⟨B, e, h.new hg⟩
theorem nc_nil (w : World) : Nc w (.pointer none) := .inl rfl
theorem Zk.nc (h : Zk w B) : Nc w (.pointer (some ⟨B, 0, none⟩)) := .inr ⟨B, rfl, h⟩
theorem Zk.c (h : Zk w B) : w.cell? ⟨B, 0, none⟩ = some (.pointer none) ∧ w.cell? ⟨B, 1, none⟩ = some (.pointer none) ∧ w.cell? ⟨B, 3, none⟩ = some (.pointer none) ∧ w.cell? ⟨B, 4, none⟩ = some (.int .i64 0) ∧ w.cell? ⟨B, 5, none⟩ = some (.pointer none) ∧ w.cell? ⟨B, 271, none⟩ = some (.int .i64 0) ∧ w.cell? ⟨B, 272, none⟩ = some (.int .i64 0) ∧ w.cell? ⟨B, 273, none⟩ = some (.int .i64 0) := by
  have k := fun i => cell_of_row w B i _ _ _ h
  exact ⟨by rw [k]; kernel_rfl, by rw [k]; kernel_rfl, by rw [k]; kernel_rfl, by rw [k]; kernel_rfl, by rw [k]; kernel_rfl, by rw [k]; kernel_rfl, by rw [k]; kernel_rfl, by rw [k]; kernel_rfl⟩
theorem there_nc (h : Nc w p) : Calls Tryz.prog 64 #[p] w fun e w' => ∃ B, e = .returned (.pointer (some ⟨B, 0, none⟩)) ∧ Zk w' B ∧ w.grownBy w' none := by
  rcases h with rfl | ⟨B, rfl, h⟩
  · go_enter Tryz.func64, Tryz.ntmps64
    go_wp2
    go_ret
    exact ⟨w.heap.size, rfl, heap_alloc_new _ _, World.grownBy_alloc _ _ _⟩
  · have Z := Lib.hid h
    clear h
    go_enter Tryz.func64, Tryz.ntmps64
    go_wp2
    go_ret
    exact ⟨B, rfl, Z.out, World.grownBy.refl _ _⟩
theorem nn (w : World) : st.Nb w none := .inl rfl
theorem sthere_nil (w : World) : Calls Tryz.prog 131 #[.pointer none] w fun e w' => ∃ t, e = .returned (.pointer (some ⟨t, 0, none⟩)) ∧ w'.cell? ⟨t, 3, none⟩ = some (.int .i64 0) ∧ w.grownBy w' none := by
  go_enter Tryz.func131, Tryz.ntmps131
  go_wp2
  go_ret
  exact ⟨w.heap.size, rfl, by simp [go_sem], World.grownBy_alloc _ _ _⟩
theorem sat_nil (w : World) : Calls Tryz.prog 67 #[.pointer none] w fun e w' => e = .returned (.int .i64 0) ∧ w.grownBy w' none := by
  go_enter Tryz.func67, Tryz.ntmps67
  go_wp2_with (go_at_call 131; (with_reducible refine (sthere_nil _).mono ?_); rintro e w1 ⟨t, rfl, hc, hg⟩; have G1 := Lib.hid hg; clear hg)
  go_ret
  exact ⟨rfl, G1.out⟩
theorem zPhase (h : Nc w p) : Calls Tryz.prog 21 #[p] w fun e w' => e = .returned (.int .i64 0) ∧ w.grownBy w' none := by
  have HP := Lib.hid h
  clear h
  go_enter Tryz.func21, Tryz.ntmps21
  go_wp2_with (first
    | (go_at_call 64; (with_reducible refine (there_nc HP.out).mono ?_); rintro e w1 ⟨B, rfl, hz, hg⟩; have Z1 := Lib.hid hz; have G1 := Lib.hid hg; obtain ⟨c0, c1, c3, c4, c5, c6, c7, c8⟩ := hz.c; clear hz hg))
  go_ret
  exact ⟨rfl, G1.out⟩
theorem zCycles (h : Nc w p) : Calls Tryz.prog 24 #[p] w fun e w' => e = .returned (.int .i64 0) ∧ w.grownBy w' none := by
  have HP := Lib.hid h
  clear h
  go_enter Tryz.func24, Tryz.ntmps24
  go_wp2_with (first
    | (go_at_call 64; (with_reducible refine (there_nc HP.out).mono ?_); rintro e w1 ⟨B, rfl, hz, hg⟩; have Z1 := Lib.hid hz; have G1 := Lib.hid hg; obtain ⟨c0, c1, c3, c4, c5, c6, c7, c8⟩ := hz.c; clear hz hg))
  go_ret
  exact ⟨rfl, G1.out⟩
theorem zUnits (h : Nc w p) : Calls Tryz.prog 44 #[p] w fun e w' => e = .returned (.int .i64 0) ∧ w.grownBy w' none := by
  have HP := Lib.hid h
  clear h
  go_enter Tryz.func44, Tryz.ntmps44
  go_wp2_with (first
    | (go_at_call 64; (with_reducible refine (there_nc HP.out).mono ?_); rintro e w1 ⟨B, rfl, hz, hg⟩; have Z1 := Lib.hid hz; have G1 := Lib.hid hg; obtain ⟨c0, c1, c3, c4, c5, c6, c7, c8⟩ := hz.c; clear hz hg))
  go_ret
  exact ⟨rfl, G1.out⟩
theorem zGlobal (h : Nc w p) : Calls Tryz.prog 42 #[p] w fun e w' => e = .returned (.int .i64 0) ∧ w.grownBy w' none := by
  have HP := Lib.hid h
  clear h
  go_enter Tryz.func42, Tryz.ntmps42
  go_wp2_with (first
    | (go_at_call 64; (with_reducible refine (there_nc HP.out).mono ?_); rintro e w1 ⟨B, rfl, hz, hg⟩; have Z1 := Lib.hid hz; have G1 := Lib.hid hg; obtain ⟨c0, c1, c3, c4, c5, c6, c7, c8⟩ := hz.c; clear hz hg))
  go_ret
  exact ⟨rfl, G1.out⟩
theorem zBegin (h : Nc w p) : Calls Tryz.prog 33 #[p] w fun e w' => e = .returned (.bool false) ∧ w.grownBy w' none := by
  have HP := Lib.hid h
  clear h
  go_enter Tryz.func33, Tryz.ntmps33
  go_wp2_with (first
    | (go_at_call 64; (with_reducible refine (there_nc HP.out).mono ?_); rintro e w1 ⟨B, rfl, hz, hg⟩; have Z1 := Lib.hid hz; have G1 := Lib.hid hg; obtain ⟨c0, c1, c3, c4, c5, c6, c7, c8⟩ := hz.c; clear hz hg))
  go_ret
  exact ⟨rfl, G1.out⟩
theorem zUnit (h : Nc w p) : Calls Tryz.prog 28 #[p] w fun e w' => e = .returned (.bool false) ∧ w.grownBy w' none := by
  have HP := Lib.hid h
  clear h
  go_enter Tryz.func28, Tryz.ntmps28
  go_wp2_with (first
    | (go_at_call 64; (with_reducible refine (there_nc HP.out).mono ?_); rintro e w1 ⟨B, rfl, hz, hg⟩; have Z1 := Lib.hid hz; have G1 := Lib.hid hg; obtain ⟨c0, c1, c3, c4, c5, c6, c7, c8⟩ := hz.c; clear hz hg))
  go_ret
  exact ⟨rfl, G1.out⟩
theorem zAt (h : Nc w p) : Calls Tryz.prog 23 #[p] w fun e w' => e = .returned (.int .i64 0) ∧ w.grownBy w' none := by
  have HP := Lib.hid h
  clear h
  go_enter Tryz.func23, Tryz.ntmps23
  go_wp2_with (first
    | (go_at_call 64; (with_reducible refine (there_nc HP.out).mono ?_); rintro e w1 ⟨B, rfl, hz, hg⟩; have Z1 := Lib.hid hz; have G1 := Lib.hid hg; obtain ⟨c0, c1, c3, c4, c5, c6, c7, c8⟩ := hz.c; clear hz hg)
    | (go_at_call 67; (with_reducible refine (sat_nil _).mono ?_); rintro e w2 ⟨rfl, hg⟩; have G2 := Lib.hid (G1.out.trans hg); clear hg))
  go_ret
  exact ⟨rfl, G2.out⟩
theorem zFree (h : Nc w p) : Calls Tryz.prog 43 #[p] w fun e w' => e = .returned (.int .i64 0) ∧ w.grownBy w' none := by
  have HP := Lib.hid h
  clear h
  go_enter Tryz.func43, Tryz.ntmps43
  go_wp2_with (first
    | (go_at_call 64; (with_reducible refine (there_nc HP.out).mono ?_); rintro e w1 ⟨B, rfl, hz, hg⟩; have Z1 := Lib.hid hz; have G1 := Lib.hid hg; obtain ⟨c0, c1, c3, c4, c5, c6, c7, c8⟩ := hz.c; clear hz hg)
    | (go_at_call 99; (with_reducible refine (st.Pages_nb (nn _)).mono ?_); rintro e w2 ⟨rfl, hg⟩; have G2 := Lib.hid (G1.out.trans hg); clear hg))
  go_ret
  exact ⟨rfl, G2.out⟩
theorem zObjects (h : Nc w p) : Calls Tryz.prog 20 #[p] w fun e w' => e = .returned (.slice none 0 0) ∧ w.grownBy w' none := by
  have HP := Lib.hid h
  clear h
  go_enter Tryz.func20, Tryz.ntmps20
  go_wp2_with (first
    | (go_at_call 64; (with_reducible refine (there_nc HP.out).mono ?_); rintro e w1 ⟨B, rfl, hz, hg⟩; have Z1 := Lib.hid hz; have G1 := Lib.hid hg; obtain ⟨c0, c1, c3, c4, c5, c6, c7, c8⟩ := hz.c; clear hz hg)
    | (go_at_call 65; (with_reducible refine (st.Objects_nb (nn _)).mono ?_); rintro e w2 ⟨rfl, hg⟩; have G2 := Lib.hid (G1.out.trans hg); clear hg))
  go_ret
  exact ⟨rfl, G2.out⟩
theorem zFields (h : Nc w p) (a : Int) : Calls Tryz.prog 40 #[p, .int .i64 a] w fun e w' => e = .returned (.int .i64 (-1)) ∧ w.grownBy w' none := by
  have HP := Lib.hid h
  clear h
  go_enter Tryz.func40, Tryz.ntmps40
  go_wp2_with (first
    | (go_at_call 64; (with_reducible refine (there_nc HP.out).mono ?_); rintro e w1 ⟨B, rfl, hz, hg⟩; have Z1 := Lib.hid hz; have G1 := Lib.hid hg; obtain ⟨c0, c1, c3, c4, c5, c6, c7, c8⟩ := hz.c; clear hz hg)
    | (go_at_call 97; (with_reducible refine (st.Fields_nb (nn _) a).mono ?_); rintro e w2 ⟨rfl, hg⟩; have G2 := Lib.hid (G1.out.trans hg); clear hg))
  go_ret
  exact ⟨rfl, G2.out⟩
theorem zSerial (h : Nc w p) (a : Int) : Calls Tryz.prog 41 #[p, .int .i64 a] w fun e w' => e = .returned (.int .i64 (-1)) ∧ w.grownBy w' none := by
  have HP := Lib.hid h
  clear h
  go_enter Tryz.func41, Tryz.ntmps41
  go_wp2_with (first
    | (go_at_call 64; (with_reducible refine (there_nc HP.out).mono ?_); rintro e w1 ⟨B, rfl, hz, hg⟩; have Z1 := Lib.hid hz; have G1 := Lib.hid hg; obtain ⟨c0, c1, c3, c4, c5, c6, c7, c8⟩ := hz.c; clear hz hg)
    | (go_at_call 98; (with_reducible refine (st.Serial_nb (nn _) a).mono ?_); rintro e w2 ⟨rfl, hg⟩; have G2 := Lib.hid (G1.out.trans hg); clear hg))
  go_ret
  exact ⟨rfl, G2.out⟩
theorem zLive (h : Nc w p) (t : Int) : Calls Tryz.prog 38 #[p, .int .i64 t] w fun e w' => e = .returned (.bool false) ∧ w.grownBy w' none := by
  have HP := Lib.hid h
  clear h
  go_enter Tryz.func38, Tryz.ntmps38
  go_wp2_with (first
    | (go_at_call 64; (with_reducible refine (there_nc HP.out).mono ?_); rintro e w1 ⟨B, rfl, hz, hg⟩; have Z1 := Lib.hid hz; have G1 := Lib.hid hg; obtain ⟨c0, c1, c3, c4, c5, c6, c7, c8⟩ := hz.c; clear hz hg)
    | (go_at_call 95; (with_reducible refine (ep.Live_nil t _).mono ?_); rintro e w' ⟨rfl, rfl⟩))
  go_ret
  exact ⟨rfl, G1.out⟩
theorem zPoll (h : Nc w p) (t : Int) : Calls Tryz.prog 27 #[p, .int .i64 t] w fun e w' => e = .returned (.bool false) ∧ w.grownBy w' none := by
  have HP := Lib.hid h
  clear h
  go_enter Tryz.func27, Tryz.ntmps27
  go_wp2_with (first
    | (go_at_call 64; (with_reducible refine (there_nc HP.out).mono ?_); rintro e w1 ⟨B, rfl, hz, hg⟩; have Z1 := Lib.hid hz; have G1 := Lib.hid hg; obtain ⟨c0, c1, c3, c4, c5, c6, c7, c8⟩ := hz.c; clear hz hg)
    | (go_at_call 68; (with_reducible refine (ep.Confirm_nil t _).mono ?_); rintro e w2 ⟨rfl, hg⟩; have G2 := Lib.hid (G1.out.trans (sh.drew_grown hg none)); clear hg))
  go_ret
  exact ⟨rfl, G2.out⟩
theorem zDetach (h : Nc w p) (t : Int) : Calls Tryz.prog 35 #[p, .int .i64 t] w fun e w' => e = .returned (.bool false) ∧ w.grownBy w' none := by
  have HP := Lib.hid h
  clear h
  go_enter Tryz.func35, Tryz.ntmps35
  go_wp2_with (first
    | (go_at_call 64; (with_reducible refine (there_nc HP.out).mono ?_); rintro e w1 ⟨B, rfl, hz, hg⟩; have Z1 := Lib.hid hz; have G1 := Lib.hid hg; obtain ⟨c0, c1, c3, c4, c5, c6, c7, c8⟩ := hz.c; clear hz hg)
    | (go_at_call 38; (with_reducible refine (zLive (Z1.out.nc) t).mono ?_); rintro e w2 ⟨rfl, hg⟩; have G2 := Lib.hid (G1.out.trans hg); clear hg))
  go_ret
  exact ⟨rfl, G2.out⟩
theorem zroots (h : Nc w p) (t : Int) : Calls Tryz.prog 78 #[p, .int .i64 t] w fun e w' => e = .returned (.pointer none) ∧ w.grownBy w' none := by
  have LV := Lib.hid (zLive h t)
  clear h
  go_enter Tryz.func78, Tryz.ntmps78
  go_wp2_with (go_at_call 38; (with_reducible refine LV.out.mono ?_); rintro e w1 ⟨rfl, hg⟩; have G1 := Lib.hid hg; clear hg)
  go_ret
  exact ⟨rfl, G1.out⟩
theorem zPop (h : Nc w p) (t : Int) : Calls Tryz.prog 29 #[p, .int .i64 t] w fun e w' => e = ro.vb (0, 0) false ∧ w.grownBy w' none := by
  have G0 := Lib.hid (World.grownBy_alloc w (.cells #[.int .i64 0, .int .i64 0] 36) none)
  have C0 := Lib.hid (wd.Two.new w 36 0 0 rfl)
  have RT := Lib.hid (zroots (h.new G0.out) t)
  clear h
  go_enter Tryz.func29, Tryz.ntmps29
  go_wp2_with (first
    | (go_at_call 78; (with_reducible refine RT.out.mono ?_); rintro e w1 ⟨rfl, hg⟩; have G1 := Lib.hid hg; clear hg)
    | (go_at_call 79; (with_reducible refine (ro.Pop_nil _).mono ?_); rintro e w2 ⟨rfl, hg⟩; obtain ⟨d0, d1, d2, d3⟩ := wd.Two.below (li.grown_below (G1.out.trans hg)) C0.out; have G2 := Lib.hid ((G0.out.trans G1.out).trans hg); have hz1 : w.heap.size < w2.heap.size := (World.block_lt_of_cell? w2 _ d0); clear hg))
  refine bodyPost_ret (v := .tuple #[.agg #[.int .i64 0, .int .i64 0], .bool false]) ?_ rfl ⟨rfl, ?_⟩
  · simp [results, Tryz.results29, go_sem, *]
  · exact li.grown_new G2.out ((ro.grown_set _ _ _ _).trans (ro.grown_set _ _ _ _)) (Nat.le_refl _)
theorem zRoots (h : Nc w p) (t : Int) : Calls Tryz.prog 39 #[p, .int .i64 t] w fun e w' => ∃ A c, e = .returned (.slice A 0 c) ∧ w.grownBy w' none := by
  have RT := Lib.hid (zroots h t)
  clear h
  go_enter Tryz.func39, Tryz.ntmps39
  go_wp2_with (first
    | (go_at_call 78; (with_reducible refine RT.out.mono ?_); rintro e w1 ⟨rfl, hg⟩; have G1 := Lib.hid hg; clear hg)
    | (go_at_call 96; (with_reducible refine (ro.All_nil _).mono ?_); rintro e w2 ⟨A, c, rfl, hl, hg⟩; have G2 := Lib.hid (G1.out.trans hg); clear hg hl))
  go_ret
  exact ⟨A, c, rfl, G2.out⟩
theorem zhas (h : Zk w B) (a : Int) : Calls Tryz.prog 129 #[.pointer (some ⟨B, 0, none⟩), .int .i64 a] w fun e w' => e = .returned (.bool false) ∧ w.grownBy w' none := by
  obtain ⟨c0, _⟩ := h.c
  clear h
  go_enter Tryz.func129, Tryz.ntmps129
  go_wp2_with (go_at_call 97; (with_reducible refine (st.Fields_nb (nn _) a).mono ?_); rintro e w1 ⟨rfl, hg⟩; have G1 := Lib.hid hg; clear hg)
  go_ret
  exact ⟨rfl, G1.out⟩
theorem zmarked (h : Zk w B) (a : Int) : Calls Tryz.prog 66 #[.pointer (some ⟨B, 0, none⟩), .int .i64 a] w fun e w' => e = .returned (.bool false) ∧ w.grownBy w' none := by
  have HS := Lib.hid (fun W (hg : w.grownBy W none) => zhas (h.new hg) a)
  clear h
  go_enter Tryz.func66, Tryz.ntmps66
  go_wp2_with (go_at_call 129; (with_reducible refine (HS.out _ (World.grownBy.refl _ _)).mono ?_); rintro e w1 ⟨rfl, hg⟩; have G1 := Lib.hid hg; clear hg)
  go_ret
  exact ⟨rfl, G1.out⟩
theorem zMarked (h : Nc w p) (a : Int) : Calls Tryz.prog 22 #[p, .int .i64 a] w fun e w' => e = .returned (.bool false) ∧ w.grownBy w' none := by
  have HP := Lib.hid h
  clear h
  go_enter Tryz.func22, Tryz.ntmps22
  go_wp2_with (first
    | (go_at_call 64; (with_reducible refine (there_nc HP.out).mono ?_); rintro e w1 ⟨B, rfl, hz, hg⟩; have Z1 := Lib.hid hz; have G1 := Lib.hid hg; obtain ⟨c0, c1, c3, c4, c5, c6, c7, c8⟩ := hz.c; clear hz hg)
    | (go_at_call 66; (with_reducible refine (zmarked Z1.out a).mono ?_); rintro e w2 ⟨rfl, hg⟩; have G2 := Lib.hid (G1.out.trans hg); clear hg))
  go_ret
  exact ⟨rfl, G2.out⟩
theorem zRead (h : Nc w p) (a : Int) : Calls Tryz.prog 32 #[p, .int .i64 a, .int .i64 0] w fun e w' => e = wd.ans 0 0 false ∧ w.grownBy w' none := by
  have G0 := Lib.hid (World.grownBy_alloc w (.cells #[.int .i64 0, .int .i64 0] 36) none)
  have C0 := Lib.hid (wd.Two.new w 36 0 0 rfl)
  have HP := Lib.hid (h.new G0.out)
  clear h
  go_enter Tryz.func32, Tryz.ntmps32
  go_wp2_with (first
    | (go_at_call 64; (with_reducible refine (there_nc HP.out).mono ?_); rintro e w1 ⟨B, rfl, hz, hg⟩; have Z1 := Lib.hid hz; have G1 := Lib.hid hg; obtain ⟨c0, c1, c3, c4, c5, c6, c7, c8⟩ := hz.c; clear hz hg)
    | (go_at_call 83; (with_reducible refine (st.Get_nb (nn _) a).mono ?_); rintro e w2 ⟨rfl, hg⟩; obtain ⟨d0, d1, d2, d3⟩ := wd.Two.below (li.grown_below (G1.out.trans hg)) C0.out; have G2 := Lib.hid ((G0.out.trans G1.out).trans hg); have hz1 : w.heap.size < w2.heap.size := (World.block_lt_of_cell? w2 _ d0); clear hg))
  refine bodyPost_ret (v := .tuple #[.agg #[.int .i64 0, .int .i64 0], .bool false]) ?_ rfl ⟨rfl, ?_⟩
  · simp [results, Tryz.results32, go_sem, *]
  · exact li.grown_new G2.out ((ro.grown_set _ _ _ _).trans (ro.grown_set _ _ _ _)) (Nat.le_refl _)
theorem znext (h : Zk w B) : Calls Tryz.prog 137 #[.pointer (some ⟨B, 0, none⟩)] w fun e w' => e = .returned (.bool false) ∧ w = w' := by
  obtain ⟨c0, c1, c3, c4, c5, c6, c7, c8⟩ := h.c
  clear h
  go_enter Tryz.func137, Tryz.ntmps137
  go_wp2
  go_ret
  exact ⟨rfl, rfl⟩
theorem zlead (h : Zk w B) : Calls Tryz.prog 72 #[.pointer (some ⟨B, 0, none⟩)] w fun e w' => e = .returned (.tuple #[]) ∧ w.grownBy w' none := by
  have Z0 := Lib.hid h
  clear h
  go_enter Tryz.func72, Tryz.ntmps72
  go_wp2
  go_loopw [7] (fun _ wr => w.grownBy wr none) (fun _ _ => 0)
  case atStart => exact World.grownBy.refl _ _
  case round =>
    have G1 := Lib.hid hrel
    have Z1 := Lib.hid (Z0.out.new hrel)
    obtain ⟨c0, c1, c3, c4, c5, c6, c7, c8⟩ := Z1.out.c
    clear hrel
    go_wp2_with (first
      | (go_at_call 136; (with_reducible refine (ep.Agreed_nil _).mono ?_); rintro e w2 ⟨rfl, hg⟩; have G2 := Lib.hid (G1.out.trans hg); clear hg)
      | (go_at_call 137; (with_reducible refine (znext (Z0.out.new G2.out)).mono ?_); rintro e w3 ⟨rfl, rfl⟩))
    go_end0
    exact ⟨rfl, G2.out⟩
theorem zAttach (h : Nc w p) (t : Int) : Calls Tryz.prog 34 #[p, .int .i64 t] w fun e w' => e = .returned (.bool false) ∧ w.grownBy w' none := by
  have HP := Lib.hid h
  clear h
  go_enter Tryz.func34, Tryz.ntmps34
  go_wp2_with (first
    | (go_at_call 64; (with_reducible refine (there_nc HP.out).mono ?_); rintro e w1 ⟨B, rfl, hz, hg⟩; have Z1 := Lib.hid hz; have G1 := Lib.hid hg; obtain ⟨c0, c1, c3, c4, c5, c6, c7, c8⟩ := hz.c; clear hz hg)
    | (go_at_call 84; (with_reducible refine (ep.Attach_nil t _).mono ?_); rintro e w' ⟨rfl, rfl⟩)
    | (go_at_call 72; (with_reducible refine (zlead Z1.out).mono ?_); rintro e w2 ⟨rfl, hg⟩; have G2 := Lib.hid (G1.out.trans hg); clear hg))
  go_ret
  exact ⟨rfl, G2.out⟩
def zt (v1 v2 : Int) : Bool := decide (wd.chk v1 v2 = 0) && decide (v1 ≠ 2)
theorem ztakes (h : Zk w B) (v1 v2 : Int) : Calls Tryz.prog 89 #[.pointer (some ⟨B, 0, none⟩), .agg #[.int .i64 v1, .int .i64 v2]] w fun e w' => e = .returned (.bool (zt v1 v2)) ∧ w.grownBy w' none := by
  have C0 := Lib.hid (wd.Two.new w 36 v1 v2 rfl)
  have G0 := Lib.hid (World.grownBy_alloc w (.cells #[.int .i64 v1, .int .i64 v2] 36) none)
  have HS := Lib.hid (fun W (hg : w.grownBy W none) => zhas (h.new hg) v2)
  have HE := Lib.hid (show zt v1 v2 = (decide (wd.chk v1 v2 = 0) && decide (v1 ≠ 2)) from rfl)
  have CK := Lib.hid (fun W => wd.Check_any v1 v2 W)
  generalize zt v1 v2 = y at *
  clear h
  by_cases h0 : wd.chk v1 v2 = 0
  · have t0 : (wd.chk v1 v2 == 0) = true := by simpa using h0
    by_cases h2 : v1 = 2
    · subst h2
      have HB := Lib.hid (show y = false by rw [HE.out]; simp)
      generalize wd.chk 2 v2 = z at *
      clear h0 HE
      go_enter Tryz.func89, Tryz.ntmps89
      go_wp2_with (first
        | (go_at_call 164; (with_reducible refine (CK.out _).mono ?_); rintro e w1 ⟨rfl, hb⟩; obtain ⟨d0, d1, d2, d3⟩ := wd.Two.below hb C0.out; have G1 := Lib.hid (G0.out.trans (ro.grown_of hb)); clear hb)
        | (go_at_call 129; (with_reducible refine (HS.out _ G1.out).mono ?_); rintro e w2 ⟨rfl, hg⟩; have G2 := Lib.hid (G1.out.trans hg); clear hg))
      go_ret
      exact ⟨by rw [HB.out]; rfl, G2.out⟩
    · have t2 : (v1 != 2) = true := by simpa using h2
      have HB := Lib.hid (show y = true by rw [HE.out]; simp [h0, h2])
      generalize wd.chk v1 v2 = z at *
      clear h0 h2 HE
      go_enter Tryz.func89, Tryz.ntmps89
      go_wp2_with (go_at_call 164; (with_reducible refine (CK.out _).mono ?_); rintro e w1 ⟨rfl, hb⟩; obtain ⟨d0, d1, d2, d3⟩ := wd.Two.below hb C0.out; have G1 := Lib.hid (G0.out.trans (ro.grown_of hb)); clear hb)
      go_ret
      exact ⟨by rw [HB.out]; rfl, G1.out⟩
  · have t0 : (wd.chk v1 v2 == 0) = false := by simpa using h0
    have HB := Lib.hid (show y = false by rw [HE.out]; simp [h0])
    generalize wd.chk v1 v2 = z at *
    clear h0 HE
    go_enter Tryz.func89, Tryz.ntmps89
    go_wp2_with (go_at_call 164; (with_reducible refine (CK.out _).mono ?_); rintro e w1 ⟨rfl, hb⟩; have G1 := Lib.hid (G0.out.trans (ro.grown_of hb)); clear hb)
    go_ret
    exact ⟨by rw [HB.out]; rfl, G1.out⟩
theorem zPush_yes (h : Nc w p) (t : Int) (htk : zt v1 v2 = true) : Calls Tryz.prog 36 #[p, .int .i64 t, .agg #[.int .i64 v1, .int .i64 v2]] w fun e w' => e = .returned (.bool false) ∧ w.grownBy w' none := by
  have G0 := Lib.hid (World.grownBy_alloc w (.cells #[.int .i64 v1, .int .i64 v2] 36) none)
  have C0 := Lib.hid (wd.Two.new w 36 v1 v2 rfl)
  have HP := Lib.hid (h.new G0.out)
  have DD := Lib.hid (fun W (hg : (w.alloc (.cells #[.int .i64 v1, .int .i64 v2] 36)).grownBy W none) => show W.cell? ⟨w.heap.size, 0, none⟩ = some (.int .i64 v1) ∧ W.cell? ⟨w.heap.size, 1, none⟩ = some (.int .i64 v2) from by
    obtain ⟨d0, d1, _⟩ := wd.Two.below (li.grown_below hg) C0.out
    exact ⟨d0, d1⟩)
  have TK := Lib.hid (fun W B (hz : Zk W B) => (show Calls Tryz.prog 89 #[.pointer (some ⟨B, 0, none⟩), .agg #[.int .i64 v1, .int .i64 v2]] W fun e w' => e = .returned (.bool true) ∧ W.grownBy w' none from by
    have := ztakes hz v1 v2
    rwa [htk] at this))
  clear h htk C0
  go_enter Tryz.func36, Tryz.ntmps36
  go_wp2_with (go_at_call 64; (with_reducible refine (there_nc HP.out).mono ?_); rintro e w1 ⟨B, rfl, hz, hg⟩; have Z1 := Lib.hid hz; have G1 := Lib.hid hg; have D1 := DD.out _ hg; clear hz hg)
  go_region_held3 (fun W => W.cell? ⟨w.heap.size, 0, none⟩ = some (.int .i64 v1) ∧ W.cell? ⟨w.heap.size, 1, none⟩ = some (.int .i64 v2)) (first | with_reducible exact D1 | with_reducible exact D2 | with_reducible exact D4 | with_reducible exact D5 | go_keep) (first
    | (go_at_call 89; (with_reducible refine (TK.out _ _ (Z1.out.new (by first | exact World.grownBy.refl _ _ | exact li.grown_drewN _ _ _ | exact gr.grown_drew _ _))).mono ?_); rintro e w2 ⟨rfl, hg⟩; have G2 := Lib.hid (show w1.grownBy w2 none from World.grownBy.trans (by first | exact World.grownBy.refl _ _ | exact li.grown_drewN _ _ _ | exact gr.grown_drew _ _) hg); have D2 := DD.out _ (G1.out.trans G2.out); clear hg)
    | (go_at_call 78; (with_reducible refine (zroots (Z1.out.new (G2.out.trans (by first | exact World.grownBy.refl _ _ | exact li.grown_drewN _ _ _ | exact gr.grown_drew _ _))).nc t).mono ?_); rintro e w4 ⟨rfl, hg⟩; have G4 := Lib.hid (show w1.grownBy w4 none from World.grownBy.trans (G2.out.trans (by first | exact World.grownBy.refl _ _ | exact li.grown_drewN _ _ _ | exact gr.grown_drew _ _)) hg); have D4 := DD.out _ (G1.out.trans G4.out); clear hg)
    | (go_at_call 90; (with_reducible refine (ro.Push_nil v1 v2 _).mono ?_); rintro e w5 ⟨rfl, hg⟩; have G5 := Lib.hid (show w1.grownBy w5 none from World.grownBy.trans (G4.out.trans (by first | exact World.grownBy.refl _ _ | exact li.grown_drewN _ _ _ | exact gr.grown_drew _ _)) hg); have D5 := DD.out _ (G1.out.trans G5.out); clear hg))
  all_goals
    go_wp2
    go_ret
    exact ⟨rfl, (G0.out.trans G1.out).trans (G5.out.trans (by first | exact World.grownBy.refl _ _ | exact li.grown_drewN _ _ _ | exact gr.grown_drew _ _))⟩
theorem zWrite (h : Nc w p) (t a v1 v2 : Int) : Calls Tryz.prog 37 #[p, .int .i64 t, .int .i64 a, .int .i64 0, .agg #[.int .i64 v1, .int .i64 v2]] w fun e w' => e = .returned (.bool false) ∧ w.grownBy w' none := by
  have G0 := Lib.hid (World.grownBy_alloc w (.cells #[.int .i64 v1, .int .i64 v2] 36) none)
  have HP := Lib.hid (h.new G0.out)
  clear h
  go_enter Tryz.func37, Tryz.ntmps37
  go_wp2_with (first
    | (go_at_call 64; (with_reducible refine (there_nc HP.out).mono ?_); rintro e w1 ⟨B, rfl, hz, hg⟩; have Z1 := Lib.hid hz; have G1 := Lib.hid hg; obtain ⟨c0, c1, c3, c4, c5, c6, c7, c8⟩ := hz.c; clear hz hg)
    | (go_at_call 83; (with_reducible refine (st.Get_nb (nn _) a).mono ?_); rintro e w2 ⟨rfl, hg⟩; have G2 := Lib.hid (((G0.out.trans G1.out).trans hg).trans (World.grownBy_alloc w2 (.cells #[.int .i64 0, .int .i64 0] 36) none)); clear hg))
  go_quiet (first | fail)
  go_wp2
  go_ret
  exact ⟨rfl, G2.out.trans (li.grown_drewN _ _ _)⟩
theorem zPush_no (h : Nc w p) (t : Int) (htk : zt v1 v2 = false) : Calls Tryz.prog 36 #[p, .int .i64 t, .agg #[.int .i64 v1, .int .i64 v2]] w fun e w' => e = .returned (.bool false) ∧ w.grownBy w' none := by
  have G0 := Lib.hid (World.grownBy_alloc w (.cells #[.int .i64 v1, .int .i64 v2] 36) none)
  have C0 := Lib.hid (wd.Two.new w 36 v1 v2 rfl)
  have HP := Lib.hid (h.new G0.out)
  have TK := Lib.hid (fun W B (hz : Zk W B) => (show Calls Tryz.prog 89 #[.pointer (some ⟨B, 0, none⟩), .agg #[.int .i64 v1, .int .i64 v2]] W fun e w' => e = .returned (.bool false) ∧ W.grownBy w' none from by
    have := ztakes hz v1 v2
    rwa [htk] at this))
  clear h htk
  go_enter Tryz.func36, Tryz.ntmps36
  go_wp2_with (go_at_call 64; (with_reducible refine (there_nc HP.out).mono ?_); rintro e w1 ⟨B, rfl, hz, hg⟩; have Z1 := Lib.hid hz; have G1 := Lib.hid hg; obtain ⟨d0, d1, d2, d3⟩ := wd.Two.below (li.grown_below hg) C0.out; clear hz hg)
  refine wp_region_held_drew (S := fun _ => True) (by kernel_rfl) trivial (fun _ => ?_)
  refine wpAnyH_take (i := 0) (v := .pointer (some ⟨B, 0, none⟩)) rfl (by kernel_rfl) (by kernel_rfl) (by kernel_rfl) (fun _ _ _ h => h) (Or.inl ⟨by kernel_rfl, fun _ _ => by go_simp⟩) trivial ?_
  refine any_at (b := { tmps := #[p, .int .i64 t, .agg #[.int .i64 v1, .int .i64 v2], undef, undef, .pointer (some ⟨w.heap.size, 0, none⟩), .bool false, .pointer (some ⟨B, 0, none⟩), p, .pointer (some ⟨B, 0, none⟩), .pointer (some ⟨B, 0, none⟩), undef, undef, undef, undef, undef, undef, undef, undef, undef, undef, undef], defers := [] }) (by kernel_rfl) ?_
  refine wpAnyH_take (i := 1) (v := .pointer (some ⟨B, 0, none⟩)) rfl (by kernel_rfl) (by kernel_rfl) (by kernel_rfl) (fun _ _ _ h => h) (Or.inl ⟨by kernel_rfl, fun _ _ => by rfl⟩) trivial ?_
  refine any_at (b := { tmps := #[p, .int .i64 t, .agg #[.int .i64 v1, .int .i64 v2], undef, undef, .pointer (some ⟨w.heap.size, 0, none⟩), .bool false, .pointer (some ⟨B, 0, none⟩), p, .pointer (some ⟨B, 0, none⟩), .pointer (some ⟨B, 0, none⟩), .pointer (some ⟨B, 0, none⟩), undef, undef, undef, undef, undef, undef, undef, undef, undef, undef], defers := [] }) (by kernel_rfl) ?_
  refine wpAnyH_take (i := 2) (v := .pointer (some ⟨B, 0, none⟩)) rfl (by kernel_rfl) (by kernel_rfl) (by kernel_rfl) (fun _ _ _ h => h) (Or.inl ⟨by kernel_rfl, fun _ _ => by go_simp⟩) trivial ?_
  refine any_at (b := { tmps := #[p, .int .i64 t, .agg #[.int .i64 v1, .int .i64 v2], undef, undef, .pointer (some ⟨w.heap.size, 0, none⟩), .bool false, .pointer (some ⟨B, 0, none⟩), p, .pointer (some ⟨B, 0, none⟩), .pointer (some ⟨B, 0, none⟩), .pointer (some ⟨B, 0, none⟩), .pointer (some ⟨B, 0, none⟩), undef, undef, undef, undef, undef, undef, undef, undef, undef], defers := [] }) (by kernel_rfl) ?_
  refine wpAnyH_ready (rs := [3]) (by kernel_rfl) (by simp) (AllReadyH.cons rfl (fun K hK => ?_) AllReadyH.nil)
  go_simp
  refine hK.out _ _ trivial (fun _ => ?_)
  clear hK K
  refine any_at (b := { tmps := #[p, .int .i64 t, .agg #[.int .i64 v1, .int .i64 v2], undef, undef, .pointer (some ⟨w.heap.size, 0, none⟩), .bool false, .pointer (some ⟨B, 0, none⟩), p, .pointer (some ⟨B, 0, none⟩), .pointer (some ⟨B, 0, none⟩), .pointer (some ⟨B, 0, none⟩), .pointer (some ⟨B, 0, none⟩), .agg #[.int .i64 v1, .int .i64 v2], undef, undef, undef, undef, undef, undef, undef, undef], defers := [] }) (by kernel_rfl) ?_
  refine wpAnyH_ready (rs := [4]) (by kernel_rfl) (by simp) (AllReadyH.cons rfl (fun K hK => ?_) AllReadyH.nil)
  go_simp
  (go_at_call 89; (with_reducible refine (TK.out _ _ (Z1.out.new (by first | exact World.grownBy.refl _ _ | exact li.grown_drewN _ _ _ | exact gr.grown_drew _ _))).mono ?_); rintro e w2 ⟨rfl, hg⟩; have G2 := Lib.hid (((G0.out.trans G1.out).trans (by first | exact World.grownBy.refl _ _ | exact li.grown_drewN _ _ _ | exact gr.grown_drew _ _)).trans hg); clear hg)
  refine hK.out _ _ trivial (fun _ => ?_)
  clear hK K
  refine any_at (b := { tmps := #[p, .int .i64 t, .agg #[.int .i64 v1, .int .i64 v2], undef, undef, .pointer (some ⟨w.heap.size, 0, none⟩), .bool false, .pointer (some ⟨B, 0, none⟩), p, .pointer (some ⟨B, 0, none⟩), .pointer (some ⟨B, 0, none⟩), .pointer (some ⟨B, 0, none⟩), .pointer (some ⟨B, 0, none⟩), .agg #[.int .i64 v1, .int .i64 v2], .bool false, undef, undef, undef, undef, undef, undef, undef], defers := [] }) (by kernel_rfl) ?_
  refine wpAnyH_take (i := 5) (v := .bool false) rfl (by kernel_rfl) (by kernel_rfl) (by kernel_rfl) (fun _ _ _ h => h) (Or.inl ⟨by kernel_rfl, fun _ _ => by rfl⟩) trivial ?_
  refine any_at (b := { tmps := #[p, .int .i64 t, .agg #[.int .i64 v1, .int .i64 v2], undef, undef, .pointer (some ⟨w.heap.size, 0, none⟩), .bool false, .pointer (some ⟨B, 0, none⟩), p, .pointer (some ⟨B, 0, none⟩), .pointer (some ⟨B, 0, none⟩), .pointer (some ⟨B, 0, none⟩), .pointer (some ⟨B, 0, none⟩), .agg #[.int .i64 v1, .int .i64 v2], .bool false, .bool false, undef, undef, undef, undef, undef, undef], defers := [] }) (by kernel_rfl) ?_
  refine wpAnyH_take (i := 6) (v := undef) rfl (by kernel_rfl) (by kernel_rfl) (by kernel_rfl) (fun _ _ _ h => h) (Or.inr ⟨by kernel_rfl, rfl⟩) trivial ?_
  refine any_at (b := { tmps := #[p, .int .i64 t, .agg #[.int .i64 v1, .int .i64 v2], undef, undef, .pointer (some ⟨w.heap.size, 0, none⟩), .bool false, .pointer (some ⟨B, 0, none⟩), p, .pointer (some ⟨B, 0, none⟩), .pointer (some ⟨B, 0, none⟩), .pointer (some ⟨B, 0, none⟩), .pointer (some ⟨B, 0, none⟩), .agg #[.int .i64 v1, .int .i64 v2], .bool false, .bool false, undef, undef, undef, undef, undef, undef], defers := [] }) (by kernel_rfl) ?_
  refine wpAnyH_take (i := 7) (v := undef) rfl (by kernel_rfl) (by kernel_rfl) (by kernel_rfl) (fun _ _ _ h => h) (Or.inr ⟨by kernel_rfl, rfl⟩) trivial ?_
  refine any_at (b := { tmps := #[p, .int .i64 t, .agg #[.int .i64 v1, .int .i64 v2], undef, undef, .pointer (some ⟨w.heap.size, 0, none⟩), .bool false, .pointer (some ⟨B, 0, none⟩), p, .pointer (some ⟨B, 0, none⟩), .pointer (some ⟨B, 0, none⟩), .pointer (some ⟨B, 0, none⟩), .pointer (some ⟨B, 0, none⟩), .agg #[.int .i64 v1, .int .i64 v2], .bool false, .bool false, undef, undef, undef, undef, undef, undef], defers := [] }) (by kernel_rfl) ?_
  refine wpAnyH_take (i := 8) (v := undef) rfl (by kernel_rfl) (by kernel_rfl) (by kernel_rfl) (fun _ _ _ h => h) (Or.inr ⟨by kernel_rfl, rfl⟩) trivial ?_
  refine any_at (b := { tmps := #[p, .int .i64 t, .agg #[.int .i64 v1, .int .i64 v2], undef, undef, .pointer (some ⟨w.heap.size, 0, none⟩), .bool false, .pointer (some ⟨B, 0, none⟩), p, .pointer (some ⟨B, 0, none⟩), .pointer (some ⟨B, 0, none⟩), .pointer (some ⟨B, 0, none⟩), .pointer (some ⟨B, 0, none⟩), .agg #[.int .i64 v1, .int .i64 v2], .bool false, .bool false, undef, undef, undef, undef, undef, undef], defers := [] }) (by kernel_rfl) ?_
  refine wpAnyH_take (i := 9) (v := undef) rfl (by kernel_rfl) (by kernel_rfl) (by kernel_rfl) (fun _ _ _ h => h) (Or.inr ⟨by kernel_rfl, rfl⟩) trivial ?_
  refine any_at (b := { tmps := #[p, .int .i64 t, .agg #[.int .i64 v1, .int .i64 v2], undef, undef, .pointer (some ⟨w.heap.size, 0, none⟩), .bool false, .pointer (some ⟨B, 0, none⟩), p, .pointer (some ⟨B, 0, none⟩), .pointer (some ⟨B, 0, none⟩), .pointer (some ⟨B, 0, none⟩), .pointer (some ⟨B, 0, none⟩), .agg #[.int .i64 v1, .int .i64 v2], .bool false, .bool false, undef, undef, undef, undef, undef, undef], defers := [] }) (by kernel_rfl) ?_
  refine wpAnyH_take (i := 10) (v := undef) rfl (by kernel_rfl) (by kernel_rfl) (by kernel_rfl) (fun _ _ _ h => h) (Or.inr ⟨by kernel_rfl, rfl⟩) trivial ?_
  refine any_at (b := { tmps := #[p, .int .i64 t, .agg #[.int .i64 v1, .int .i64 v2], undef, undef, .pointer (some ⟨w.heap.size, 0, none⟩), .bool false, .pointer (some ⟨B, 0, none⟩), p, .pointer (some ⟨B, 0, none⟩), .pointer (some ⟨B, 0, none⟩), .pointer (some ⟨B, 0, none⟩), .pointer (some ⟨B, 0, none⟩), .agg #[.int .i64 v1, .int .i64 v2], .bool false, .bool false, undef, undef, undef, undef, undef, undef], defers := [] }) (by kernel_rfl) ?_
  refine wpAnyH_take (i := 11) (v := .bool false) rfl (by kernel_rfl) (by kernel_rfl) (by kernel_rfl) (fun _ _ _ h => h) (Or.inl ⟨by kernel_rfl, fun _ _ => by kernel_rfl⟩) trivial ?_
  refine any_at (b := { tmps := #[p, .int .i64 t, .agg #[.int .i64 v1, .int .i64 v2], undef, undef, .pointer (some ⟨w.heap.size, 0, none⟩), .bool false, .pointer (some ⟨B, 0, none⟩), p, .pointer (some ⟨B, 0, none⟩), .pointer (some ⟨B, 0, none⟩), .pointer (some ⟨B, 0, none⟩), .pointer (some ⟨B, 0, none⟩), .agg #[.int .i64 v1, .int .i64 v2], .bool false, .bool false, undef, undef, undef, undef, undef, .bool false], defers := [] }) (by kernel_rfl) ?_
  refine wpAnyH_take (i := 12) (v := .bool false) rfl (by kernel_rfl) (by kernel_rfl) (by kernel_rfl) (fun _ _ _ h => h) (Or.inl ⟨by kernel_rfl, fun _ _ => by rfl⟩) trivial ?_
  refine any_at (b := { tmps := #[p, .int .i64 t, .agg #[.int .i64 v1, .int .i64 v2], undef, undef, .pointer (some ⟨w.heap.size, 0, none⟩), .bool false, .pointer (some ⟨B, 0, none⟩), p, .pointer (some ⟨B, 0, none⟩), .pointer (some ⟨B, 0, none⟩), .pointer (some ⟨B, 0, none⟩), .pointer (some ⟨B, 0, none⟩), .agg #[.int .i64 v1, .int .i64 v2], .bool false, .bool false, undef, undef, undef, undef, undef, .bool false], defers := [] }) (by kernel_rfl) ?_
  refine wpAnyH_done (by kernel_rfl) ?_ _
  refine then_at (b := { tmps := #[p, .int .i64 t, .agg #[.int .i64 v1, .int .i64 v2], undef, undef, .pointer (some ⟨w.heap.size, 0, none⟩), .bool false, .pointer (some ⟨B, 0, none⟩), p, .pointer (some ⟨B, 0, none⟩), .pointer (some ⟨B, 0, none⟩), .pointer (some ⟨B, 0, none⟩), .pointer (some ⟨B, 0, none⟩), .agg #[.int .i64 v1, .int .i64 v2], .bool false, .bool false, undef, undef, undef, undef, undef, .bool false], defers := [] }) (by kernel_rfl) ?_
  go_wp2
  go_ret
  exact ⟨rfl, G2.out⟩
theorem zPush (h : Nc w p) (t v1 v2 : Int) : Calls Tryz.prog 36 #[p, .int .i64 t, .agg #[.int .i64 v1, .int .i64 v2]] w fun e w' => e = .returned (.bool false) ∧ w.grownBy w' none := by
  cases e : zt v1 v2 with
  | false => exact zPush_no h t e
  | true => exact zPush_yes h t e
theorem zFast (h : Nc w p) (t n : Int) : Calls Tryz.prog 30 #[p, .int .i64 t, .int .i64 n] w fun e w' => e = .returned (.tuple #[.int .i64 0, .bool false]) ∧ w.grownBy w' none := by
  have HP := Lib.hid h
  clear h
  go_enter Tryz.func30, Tryz.ntmps30
  go_wp2_with (first
    | (go_at_call 64; (with_reducible refine (there_nc HP.out).mono ?_); rintro e w1 ⟨B, rfl, hz, hg⟩; have Z1 := Lib.hid hz; have G1 := Lib.hid hg; obtain ⟨c0, c1, c3, c4, c5, c6, c7, c8⟩ := hz.c; clear hz hg)
    | (go_at_call 38; (with_reducible refine (zLive Z1.out.nc t).mono ?_); rintro e w2 ⟨rfl, hg⟩; have G2 := Lib.hid (G1.out.trans hg); clear hg))
  go_ret2
  exact ⟨rfl, G2.out⟩
theorem zSlow (h : Nc w p) (t n : Int) : Calls Tryz.prog 31 #[p, .int .i64 t, .int .i64 n] w fun e w' => e = .returned (.tuple #[.int .i64 0, .int .i64 9]) ∧ w.grownBy w' none := by
  have HP := Lib.hid h
  clear h
  go_enter Tryz.func31, Tryz.ntmps31
  go_wp2_with (first
    | (go_at_call 64; (with_reducible refine (there_nc HP.out).mono ?_); rintro e w1 ⟨B, rfl, hz, hg⟩; have Z1 := Lib.hid hz; have G1 := Lib.hid hg; obtain ⟨c0, c1, c3, c4, c5, c6, c7, c8⟩ := hz.c; clear hz hg))
  go_ret2
  exact ⟨rfl, G1.out⟩
end
end Go.Proofs.YtkgdcgmbapchcaaGreatDoor.cy
