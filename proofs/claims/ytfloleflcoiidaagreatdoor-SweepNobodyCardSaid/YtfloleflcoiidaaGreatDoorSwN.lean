/- A sweeper that nobody made is done; one without a store and marks frees nothing. -/
import Derived.Test.YtfloleflcoiidaaGreatDoorSwI
import Derived.Test.YtfloleflcoiidaaGreatDoorStNb
namespace Go.Proofs.YtfloleflcoiidaaGreatDoor.sw
open Go.ChangeShapes Go.WideShapes Go.ChangeAt Go.RowKit gen calls cls geos ce st sh
set_option linter.unusedVariables false
set_option maxHeartbeats 8000000
set_option maxRecDepth 100000
/-- A sweeper without a store and marks. -/
def Zo (w : World) (t N c f : Nat) : Prop := w.heap[t]? = some (.cells #[.pointer none, .pointer none, .int .i64 N, .int .i64 c, .int .i64 f] 43 (0, 0))
section
variable {w w' : World} {t N c f : Nat} {p : Option Addr} {M : List Nat}
theorem Zo.new (h : Zo w t N c f) (hg : w.grownBy w' none) : Zo w' t N c f := (Gr.new (L := []) hg).heap h (by simp)
theorem Zo.cs (h : Zo w t N c f) : w.cell? ⟨t, 0, none⟩ = some (.pointer none) ∧ w.cell? ⟨t, 1, none⟩ = some (.pointer none) ∧ w.cell? ⟨t, 2, none⟩ = some (.int .i64 N) ∧ w.cell? ⟨t, 3, none⟩ = some (.int .i64 c) ∧ w.cell? ⟨t, 4, none⟩ = some (.int .i64 f) ∧ ∀ k, w.frozen? ⟨t, k, none⟩ = false :=
  ⟨by rw [cell_of_row w t 0 _ _ _ h]; rfl, by rw [cell_of_row w t 1 _ _ _ h]; rfl, by rw [cell_of_row w t 2 _ _ _ h]; rfl, by rw [cell_of_row w t 3 _ _ _ h]; rfl, by rw [cell_of_row w t 4 _ _ _ h]; rfl, fun k => frozen_of_row w t k _ _ h⟩
theorem set_zo (h : Zo w t N c f) (v : Nat) : Zo (w.setCell ⟨t, 3, none⟩ (.int .i64 v)) t N v f ∧ Zo (w.setCell ⟨t, 4, none⟩ (.int .i64 v)) t N c v := by
  refine ⟨?_, ?_⟩
  · unfold Zo
    rw [heap_setCell_same w t 3 _ _ (.int .i64 (v : Int)) h]
    rfl
  · unfold Zo
    rw [heap_setCell_same w t 4 _ _ (.int .i64 (v : Int)) h]
    rfl
theorem there_nil (w : World) : Calls Tryz.prog 40 #[.pointer none] w fun e w' => ∃ t, e = .returned (.pointer (some ⟨t, 0, none⟩)) ∧ w.heap.size ≤ t ∧ Zo w' t 0 0 0 ∧ w.grownBy w' none := by
  go_enter Tryz.func40, Tryz.ntmps40
  go_wp2
  go_ret
  exact ⟨w.heap.size, rfl, Nat.le_refl _, heap_alloc_new _ _, World.grownBy_alloc _ _ _⟩
theorem zAt (h : Zo w t N c f) : Calls Tryz.prog 19 #[.pointer (some ⟨t, 0, none⟩)] w fun e w' => e = .returned (.int .i64 c) ∧ w = w' := by
  obtain ⟨c0, c1, c2, c3, c4, _⟩ := h.cs
  clear h
  go_enter Tryz.func19, Tryz.ntmps19
  go_wp2_with (go_at_call 40; (with_reducible refine (there_any _ _).mono ?_); rintro e w' ⟨rfl, rfl⟩)
  go_ret
  exact ⟨rfl, rfl⟩
theorem nAt (w : World) : Calls Tryz.prog 19 #[.pointer none] w fun e w' => e = .returned (.int .i64 0) ∧ w.grownBy w' none := by
  go_enter Tryz.func19, Tryz.ntmps19
  go_wp2_with (go_at_call 40; (with_reducible refine (there_nil _).mono ?_); rintro e w2 ⟨t, rfl, _, hz, hg⟩; obtain ⟨c0, c1, c2, c3, c4, _⟩ := hz.cs; have G2 := Lib.hid hg; clear hz hg)
  go_ret
  exact ⟨rfl, G2.out⟩
theorem zFreed (h : Zo w t N c f) : Calls Tryz.prog 17 #[.pointer (some ⟨t, 0, none⟩)] w fun e w' => e = .returned (.int .i64 f) ∧ w = w' := by
  obtain ⟨c0, c1, c2, c3, c4, _⟩ := h.cs
  clear h
  go_enter Tryz.func17, Tryz.ntmps17
  go_wp2_with (go_at_call 40; (with_reducible refine (there_any _ _).mono ?_); rintro e w' ⟨rfl, rfl⟩)
  go_ret
  exact ⟨rfl, rfl⟩
theorem nFreed (w : World) : Calls Tryz.prog 17 #[.pointer none] w fun e w' => e = .returned (.int .i64 0) ∧ w.grownBy w' none := by
  go_enter Tryz.func17, Tryz.ntmps17
  go_wp2_with (go_at_call 40; (with_reducible refine (there_nil _).mono ?_); rintro e w2 ⟨t, rfl, _, hz, hg⟩; obtain ⟨c0, c1, c2, c3, c4, _⟩ := hz.cs; have G2 := Lib.hid hg; clear hz hg)
  go_ret
  exact ⟨rfl, G2.out⟩
theorem zDone (h : Zo w t N c f) : Calls Tryz.prog 20 #[.pointer (some ⟨t, 0, none⟩)] w fun e w' => e = .returned (.bool ((c : Int) == N)) ∧ w.grownBy w' none := by
  obtain ⟨c0, c1, c2, c3, c4, _⟩ := h.cs
  clear h
  go_enter Tryz.func20, Tryz.ntmps20
  go_wp2_with (go_at_call 40; (with_reducible refine (there_any _ _).mono ?_); rintro e w' ⟨rfl, rfl⟩)
  go_quiet (fail)
  go_wp2
  go_ret
  exact ⟨rfl, li.grown_drewN _ _ _⟩
theorem nDone (w : World) : Calls Tryz.prog 20 #[.pointer none] w fun e w' => e = .returned (.bool true) ∧ w.grownBy w' none := by
  go_enter Tryz.func20, Tryz.ntmps20
  go_wp2_with (go_at_call 40; (with_reducible refine (there_nil _).mono ?_); rintro e w2 ⟨t, rfl, _, hz, hg⟩; obtain ⟨c0, c1, c2, c3, c4, _⟩ := hz.cs; have G2 := Lib.hid hg; clear hz hg)
  go_quiet (fail)
  go_wp2
  go_ret
  exact ⟨rfl, G2.out.trans (li.grown_drewN _ _ _)⟩
theorem zStart (h : Zo w t N c f) : Calls Tryz.prog 13 #[.pointer (some ⟨t, 0, none⟩)] w fun e w' => e = .returned (.tuple #[]) ∧ Zo w' t N 0 0 ∧ Gr [t] w w' := by
  obtain ⟨c0, c1, c2, c3, c4, fz⟩ := h.cs
  have f3 := fz 3
  have f4 := fz 4
  have HH := Lib.hid h
  clear h fz
  go_enter Tryz.func13, Tryz.ntmps13
  go_wp2_with (go_at_call 40; (with_reducible refine (there_any _ _).mono ?_); rintro e w' ⟨rfl, rfl⟩)
  go_end0
  exact ⟨rfl, (set_zo (set_zo HH.out 0).1 0).2, (Gr.set (L := [t]) _ _ _ _ (by simp)).trans (.set _ _ _ _ (by simp))⟩
theorem nStart (w : World) : Calls Tryz.prog 13 #[.pointer none] w fun e w' => e = .returned (.tuple #[]) ∧ w.grownBy w' none := by
  go_enter Tryz.func13, Tryz.ntmps13
  go_wp2_with (go_at_call 40; (with_reducible refine (there_nil _).mono ?_); rintro e w2 ⟨t, rfl, ht, hz, hg⟩; obtain ⟨c0, c1, c2, c3, c4, fz⟩ := hz.cs; have f3 := fz 3; have f4 := fz 4; have HT := Lib.hid ht; have G2 := Lib.hid hg; clear fz ht hz hg)
  go_end0
  exact ⟨rfl, Gr.grown G2.out ((Gr.set (L := [t]) _ _ _ _ (by simp)).trans (.set _ _ _ _ (by simp))) (fun q hq => by simp at hq; subst hq; exact HT.out)⟩
theorem zUnit_no (h : Zo w t 0 0 f) : Calls Tryz.prog 14 #[.pointer (some ⟨t, 0, none⟩)] w fun e w' => e = .returned (.bool false) ∧ w.grownBy w' none := by
  have DN := Lib.hid (zDone h)
  rw [show (((0 : Nat) : Int) == ((0 : Nat) : Int)) = true by rfl] at DN
  clear h
  go_enter Tryz.func14, Tryz.ntmps14
  go_wp2_with (first
    | (go_at_call 40; (with_reducible refine (there_any _ _).mono ?_); rintro e w' ⟨rfl, rfl⟩)
    | (go_at_call 20; (with_reducible refine DN.out.mono ?_); rintro e w2 ⟨rfl, hg⟩; have G2 := Lib.hid hg; clear hg))
  go_ret
  exact ⟨rfl, G2.out⟩
theorem nUnit (w : World) : Calls Tryz.prog 14 #[.pointer none] w fun e w' => e = .returned (.bool false) ∧ w.grownBy w' none := by
  go_enter Tryz.func14, Tryz.ntmps14
  go_wp2_with (first
    | (go_at_call 40; (with_reducible refine (there_nil _).mono ?_); rintro e w2 ⟨t, rfl, _, hz, hg⟩; have Z2 := Lib.hid hz; have G2 := Lib.hid hg; clear hz hg)
    | (go_at_call 20; (with_reducible refine (zDone Z2.out).mono ?_); rintro e w3 ⟨rfl, hg⟩; have G3 := Lib.hid (G2.out.trans hg); clear hg))
  go_ret
  exact ⟨rfl, G3.out⟩
theorem zUnit_yes (h : Zo w t N 0 f) (hN : 1 ≤ N) : Calls Tryz.prog 14 #[.pointer (some ⟨t, 0, none⟩)] w fun e w' => e = .returned (.bool true) ∧ Zo w' t N 1 f ∧ Gr [t] w w' := by
  have DN := Lib.hid (zDone h)
  have d1 : (((0 : Nat) : Int) == N) = false := by simp; omega
  rw [d1] at DN
  have HZ := Lib.hid (fun W (hg : w.grownBy W none) => h.new hg)
  have IN := Lib.hid (fun W => st.In_nb (w := W) (p := none) (.inl rfl) 0)
  have TR := Lib.hid (fun W => st.Trim_nb (w := W) (p := none) (.inl rfl) 0)
  clear h d1 hN
  go_enter Tryz.func14, Tryz.ntmps14
  go_wp2_with (first
    | (go_at_call 40; (with_reducible refine (there_any _ _).mono ?_); rintro e w' ⟨rfl, rfl⟩)
    | (go_at_call 20; (with_reducible refine DN.out.mono ?_); rintro e w2 ⟨rfl, hg⟩; have G2 := Lib.hid hg; obtain ⟨c0, c1, c2, c3, c4, _⟩ := (HZ.out _ hg).cs; clear hg))
  go_region_held3 (fun W => W.cell? ⟨t, 0, none⟩ = some (.pointer none) ∧ W.cell? ⟨t, 3, none⟩ = some (.int .i64 0)) (first | exact ⟨c0, c3⟩ | exact ⟨k0, k3⟩ | go_keep) (first
    | (go_at_call 41; (with_reducible refine (IN.out _).mono ?_); rintro e w3 ⟨rfl, hg⟩; have G3 := Lib.hid (show w.grownBy w3 none from World.grownBy.trans (by first | exact G2.out | exact G2.out.trans (li.grown_drewN _ _ _) | exact G2.out.trans (gr.grown_drew _ _)) hg); obtain ⟨k0, k1, k2, k3, k4, _⟩ := (HZ.out _ G3.out).cs; clear hg))
  all_goals
    go_wp2
    refine wp_loop_rounds 1 ?_
    rw [rounds_succ]
    go_wp2
    go_region_held3 (fun W => W.cell? ⟨t, 0, none⟩ = some (.pointer none) ∧ W.cell? ⟨t, 3, none⟩ = some (.int .i64 0)) (first | exact ⟨m0, m3⟩ | exact ⟨k0, k3⟩ | go_keep) (first
      | (go_at_call 43; (with_reducible refine (TR.out _).mono ?_); rintro e w4 ⟨rfl, hg⟩; have G4 := Lib.hid (show w.grownBy w4 none from World.grownBy.trans (by first | exact G3.out | exact G3.out.trans (li.grown_drewN _ _ _) | exact G3.out.trans (gr.grown_drew _ _)) hg); obtain ⟨m0, m1, m2, m3, m4, fz⟩ := (HZ.out _ G4.out).cs; have y3 := fz 3; clear fz hg))
    all_goals
      go_wp2
      go_ret
      first
        | exact ⟨rfl, (set_zo (HZ.out _ G4.out) 1).1, (Gr.new G4.out).trans (.set _ _ _ _ (by simp))⟩
        | exact ⟨rfl, (set_zo (HZ.out _ (G4.out.trans (gr.grown_drew _ _))) 1).1, (Gr.new (G4.out.trans (gr.grown_drew _ _))).trans (.set _ _ _ _ (by simp))⟩
        | exact ⟨rfl, (set_zo (HZ.out _ (G4.out.trans (li.grown_drewN _ _ _))) 1).1, (Gr.new (G4.out.trans (li.grown_drewN _ _ _))).trans (.set _ _ _ _ (by simp))⟩
end
theorem SweepNobody_any (n : Int) (w : World) (hT : bm.Tab w) : Calls Tryz.prog 5 #[.int .i64 n] w fun e w' => e = .returned (.bool true) ∧ w.grownBy w' none := by
  obtain ⟨N, hN, N1, N2⟩ := near_nat n (b := 64) (by decide)
  have AL := Lib.hid (alive_any w hT)
  have NT := Lib.hid (fun pS qg W => New_any pS qg n hN W)
  have HN := Lib.hid N1
  clear hT hN N1 N2
  go_enter Tryz.func5, Tryz.ntmps5
  go_wp2_with (first
    | (go_at_call 6; (with_reducible refine AL.out.mono ?_); rintro e w1 ⟨rfl, hg⟩; have G1 := Lib.hid hg; have U1 := Lib.hid (show Zo (w1.alloc (.cells #[.pointer none, .pointer none, .int .i64 0, .int .i64 0, .int .i64 0] 43 (0, 0))) w1.heap.size 0 0 0 from heap_alloc_new _ _); have GA := Lib.hid (World.grownBy_alloc w1 (.cells #[.pointer none, .pointer none, .int .i64 0, .int .i64 0, .int .i64 0] 43 (0, 0)) none); have UB := Lib.hid hg.size; clear hg)
    | (go_at_call 18; (with_reducible refine (NT.out _ _ _).mono ?_); rintro e w2 ⟨rfl, hs, hg⟩; have V2 := Lib.hid (show Zo w2 (w1.heap.size + 1) N N 0 from by unfold Zo; simpa using hs); have U2 := Lib.hid (U1.out.new hg); have G2 := Lib.hid ((G1.out.trans GA.out).trans hg); clear hs hg)
    | (go_at_call 13; (with_reducible refine (nStart _).mono ?_); rintro e w3 ⟨rfl, hg⟩; have U3 := Lib.hid (U2.out.new hg); have V3 := Lib.hid (V2.out.new hg); have G3 := Lib.hid (G2.out.trans hg); clear hg)
    | (go_at_call 13; (with_reducible refine (zStart U3.out).mono ?_); rintro e w4 ⟨rfl, hz, hg⟩; have U4 := Lib.hid hz; have V4 := Lib.hid (show Zo w4 (w1.heap.size + 1) N N 0 from hg.heap V3.out (by simp)); have G4 := Lib.hid (Gr.grown G3.out hg (fun q hq => by simp at hq; subst hq; exact UB.out)); clear hz hg)
    | (go_at_call 13; (with_reducible refine (zStart V4.out).mono ?_); rintro e w5 ⟨rfl, hz, hg⟩; have V5 := Lib.hid hz; have U5 := Lib.hid (show Zo w5 w1.heap.size 0 0 0 from hg.heap U4.out (by simp)); have G5 := Lib.hid (Gr.grown G4.out hg (fun q hq => by simp at hq; subst hq; exact Nat.le_succ_of_le UB.out)); clear hz hg)
    | (go_at_call 14; (with_reducible refine (nUnit _).mono ?_); rintro e w6 ⟨rfl, hg⟩; have U6 := Lib.hid (U5.out.new hg); have V6 := Lib.hid (V5.out.new hg); have G6 := Lib.hid (G5.out.trans hg); clear hg)
    | (go_at_call 14; (with_reducible refine (zUnit_no U6.out).mono ?_); rintro e w7 ⟨rfl, hg⟩; have U7 := Lib.hid (U6.out.new hg); have V7 := Lib.hid (V6.out.new hg); have G7 := Lib.hid (G6.out.trans hg); clear hg)
    | (go_at_call 14; (with_reducible refine (zUnit_yes V7.out HN.out).mono ?_); rintro e w8 ⟨rfl, hz, hg⟩; have V8 := Lib.hid hz; have U8 := Lib.hid (show Zo w8 w1.heap.size 0 0 0 from hg.heap U7.out (by simp)); have G8 := Lib.hid (Gr.grown G7.out hg (fun q hq => by simp at hq; subst hq; exact Nat.le_succ_of_le UB.out)); clear hz hg)
    | (go_at_call 19; (with_reducible refine (nAt _).mono ?_); rintro e w9 ⟨rfl, hg⟩; have U9 := Lib.hid (U8.out.new hg); have V9 := Lib.hid (V8.out.new hg); have G9 := Lib.hid (G8.out.trans hg); clear hg)
    | (go_at_call 19; (with_reducible refine (zAt U9.out).mono ?_); rintro e w' ⟨rfl, rfl⟩)
    | (go_at_call 20; (with_reducible refine (nDone _).mono ?_); rintro e w10 ⟨rfl, hg⟩; have U10 := Lib.hid (U9.out.new hg); have V10 := Lib.hid (V9.out.new hg); have G10 := Lib.hid (G9.out.trans hg); clear hg)
    | (go_at_call 20; (with_reducible refine (zDone U10.out).mono ?_); rintro e w11 ⟨rfl, hg⟩; have V11 := Lib.hid (V10.out.new hg); have G11 := Lib.hid (G10.out.trans hg); clear hg)
    | (go_at_call 17; (with_reducible refine (nFreed _).mono ?_); rintro e w12 ⟨rfl, hg⟩; have V12 := Lib.hid (V11.out.new hg); have G12 := Lib.hid (G11.out.trans hg); clear hg)
    | (go_at_call 17; (with_reducible refine (zFreed V12.out).mono ?_); rintro e w' ⟨rfl, rfl⟩))
  go_ret
  exact ⟨by rfl, G12.out⟩
end Go.Proofs.YtfloleflcoiidaaGreatDoor.sw
