/- A tracer that nobody made, or made without a store and marks, has nothing to do. -/
import Derived.Test.YtacjleladjgkeaaGreatDoorTrY
import Derived.BigQuiet
namespace Go.Proofs.YtacjleladjgkeaaGreatDoor.tr
open Go.ChangeShapes Go.WideShapes Go.ChangeAt Go.RowKit gen calls cls geos ce st sh
set_option linter.unusedVariables false
set_option maxHeartbeats 8000000
set_option maxRecDepth 100000
/-- A tracer's cells, without a store and marks. -/
def Zt (w : World) (t : Nat) : Prop := ∃ N c : Int, w.heap[t]? = some (.cells #[.pointer none, .pointer none, .int .i64 N, .int .i64 c, .int .i64 0] 54 (0, 0))
def Zn (w : World) (p : Value) : Prop := p = .pointer none ∨ ∃ t, p = .pointer (some ⟨t, 0, none⟩) ∧ Zt w t
section
variable {w w' : World} {t : Nat} {p : Value}
theorem Zt.new (h : Zt w t) (hg : w.grownBy w' none) : Zt w' t := by
  obtain ⟨N, c, h⟩ := h
  exact ⟨N, c, (Gr.new (L := []) hg).heap h (by simp)⟩
theorem Zn.new (h : Zn w p) (hg : w.grownBy w' none) : Zn w' p := h.imp id (fun ⟨t, e, h⟩ => ⟨t, e, h.new hg⟩)
theorem Zt.c (h : Zt w t) : w.cell? ⟨t, 1, none⟩ = some (.pointer none) ∧ w.cell? ⟨t, 4, none⟩ = some (.int .i64 0) := by
  obtain ⟨N, c, h⟩ := h
  exact ⟨by rw [cell_of_row w t 1 _ _ _ h]; rfl, by rw [cell_of_row w t 4 _ _ _ h]; rfl⟩
theorem no_nil (w : World) : No w (.pointer none) := .inl rfl
theorem zn_nil (w : World) : Zn w (.pointer none) := .inl rfl
theorem zn_at (h : Zt w t) : Zn w (.pointer (some ⟨t, 0, none⟩)) := .inr ⟨t, rfl, h⟩
theorem there_zn (h : Zn w p) : Calls Tryz.prog 39 #[p] w fun e w' => ∃ t, e = .returned (.pointer (some ⟨t, 0, none⟩)) ∧ Zt w' t ∧ w.grownBy w' none := by
  rcases h with rfl | ⟨t, rfl, h⟩
  · go_enter Tryz.func39, Tryz.ntmps39
    go_wp2
    go_ret
    exact ⟨_, rfl, ⟨0, 0, heap_alloc_new _ _⟩, World.grownBy_alloc _ _ _⟩
  · go_enter Tryz.func39, Tryz.ntmps39
    go_wp2
    go_ret
    exact ⟨_, rfl, h, World.grownBy.refl _ _⟩
theorem Page_zn (h : Zn w p) : Calls Tryz.prog 21 #[p] w fun e w' => e = .returned (.int .i64 (-1)) ∧ w.grownBy w' none := by
  have H0 := Lib.hid h
  clear h
  go_enter Tryz.func21, Tryz.ntmps21
  go_wp2_with (go_at_call 39; (with_reducible refine (there_zn H0.out).mono ?_); rintro e w1 ⟨t, rfl, ho, hg⟩; obtain ⟨c0, c1⟩ := ho.c; have G1 := Lib.hid hg; clear ho hg)
  all_goals
    go_ret
    exact ⟨rfl, G1.out⟩
theorem Idle_zn (h : Zn w p) : Calls Tryz.prog 18 #[p] w fun e w' => e = .returned (.bool true) ∧ w.grownBy w' none := by
  have H0 := Lib.hid h
  clear h
  go_enter Tryz.func18, Tryz.ntmps18
  go_wp2_with (first
    | (go_at_call 39; (with_reducible refine (there_zn H0.out).mono ?_); rintro e w1 ⟨t, rfl, ho, hg⟩; have Z1 := Lib.hid ho; obtain ⟨c0, c1⟩ := ho.c; have G1 := Lib.hid hg; clear ho hg)
    | (go_at_call 19; (with_reducible refine (Waiting_no (no_nil _)).mono ?_); rintro e w2 ⟨rfl, hg⟩; have Z2 := Lib.hid (Z1.out.new hg); obtain ⟨c2, c3⟩ := Z2.out.c; have G2 := Lib.hid (G1.out.trans hg); clear hg)
    | (go_at_call 37; (with_reducible refine (Over_no (no_nil _)).mono ?_); rintro e w3 ⟨rfl, hg⟩; have G3 := Lib.hid (G2.out.trans hg); clear hg))
  all_goals
    go_ret
    exact ⟨rfl, G3.out⟩
theorem Unit_zn (h : Zn w p) : Calls Tryz.prog 14 #[p] w fun e w' => e = .returned (.bool false) ∧ w.grownBy w' none := by
  have H0 := Lib.hid h
  clear h
  go_enter Tryz.func14, Tryz.ntmps14
  go_wp2_with (first
    | (go_at_call 39; (with_reducible refine (there_zn H0.out).mono ?_); rintro e w1 ⟨t, rfl, ho, hg⟩; have Z1 := Lib.hid ho; obtain ⟨c0, c1⟩ := ho.c; have G1 := Lib.hid hg; clear ho hg)
    | (go_at_call 40; (with_reducible refine (Next_no (no_nil _)).mono ?_); unfold sk.vb; rintro e w2 ⟨rfl, hg⟩; have Z2 := Lib.hid ((Z1.out.new hg).new (World.grownBy_alloc w2 (.cells #[.int .i64 0, .int .i64 0] 89) none)); obtain ⟨c2, c3⟩ := Z2.out.c; have G2 := Lib.hid ((G1.out.trans hg).trans (World.grownBy_alloc w2 (.cells #[.int .i64 0, .int .i64 0] 89) none)); clear hg)
    | (go_at_call 42; (with_reducible refine (Settle_no (no_nil _)).mono ?_); rintro e w3 ⟨rfl, hg⟩; have Z3 := Lib.hid (Z2.out.new hg); obtain ⟨c4, c5⟩ := Z3.out.c; have G3 := Lib.hid (G2.out.trans hg); clear hg))
  all_goals
    go_ret
    exact ⟨rfl, G3.out⟩
theorem zt_up {w1 w2 : World} {o : Obj} {N c : Int} (hs : w2.heap[(w1.alloc o).heap.size]? = some (.cells #[.pointer none, .pointer none, .int .i64 N, .int .i64 c, .int .i64 0] 54 (0, 0))) : Zt w2 (w1.heap.size + 1) := ⟨N, c, by
  have e : (w1.alloc o).heap.size = w1.heap.size + 1 := by simp
  rw [e] at hs
  exact hs⟩
theorem TraceNobody_any (n1 n2 : Int) (w : World) (hT : bm.Tab w) :
    Calls Tryz.prog 5 #[.int .i64 n1, .int .i64 n2] w fun e w' => e = .returned (.bool true) ∧ w.grownBy w' none := by
  obtain ⟨N, hN, _⟩ := near_nat n1 (b := 64) (by decide)
  obtain ⟨c, hC, _⟩ := near_nat n2 (b := 16) (by decide)
  have AL := Lib.hid (alive_any w hT)
  have NT := Lib.hid (fun W => tnew_any none none n1 n2 hN hC W)
  clear hT hN hC
  go_enter Tryz.func5, Tryz.ntmps5
  go_wp2_with (first
    | (go_at_call 6; (with_reducible refine AL.out.mono ?_); rintro e w1 ⟨rfl, hg⟩; have G1 := Lib.hid (hg.trans (World.grownBy_alloc w1 (.cells #[.pointer none, .pointer none, .int .i64 0, .int .i64 0, .int .i64 0] 54 (0, 0)) none)); have U1 := Lib.hid (show Zt (w1.alloc (.cells #[.pointer none, .pointer none, .int .i64 0, .int .i64 0, .int .i64 0] 54 (0, 0))) w1.heap.size from ⟨0, 0, heap_alloc_new _ _⟩); clear hg)
    | (go_at_call 20; (with_reducible refine (NT.out _).mono ?_); rintro e w2 ⟨rfl, hs, hg⟩; have V2 := Lib.hid (zt_up hs); have U2 := Lib.hid (U1.out.new hg); have G2 := Lib.hid (G1.out.trans hg); clear hs hg)
    | (have mark := G10; go_at_call 21; (with_reducible refine (Page_zn (zn_at V10.out)).mono ?_); rintro e w11 ⟨rfl, hg⟩; have U11 := Lib.hid (U10.out.new hg); have V11 := Lib.hid (V10.out.new hg); have G11 := Lib.hid (G10.out.trans hg); clear hg)
    | (have mark := G9; go_at_call 21; (with_reducible refine (Page_zn (zn_at U9.out)).mono ?_); rintro e w10 ⟨rfl, hg⟩; have U10 := Lib.hid (U9.out.new hg); have V10 := Lib.hid (V9.out.new hg); have G10 := Lib.hid (G9.out.trans hg); clear hg)
    | (have mark := G8; go_at_call 21; (with_reducible refine (Page_zn (zn_nil _)).mono ?_); rintro e w9 ⟨rfl, hg⟩; have U9 := Lib.hid (U8.out.new hg); have V9 := Lib.hid (V8.out.new hg); have G9 := Lib.hid (G8.out.trans hg); clear hg)
    | (have mark := G7; go_at_call 18; (with_reducible refine (Idle_zn (zn_at V7.out)).mono ?_); rintro e w8 ⟨rfl, hg⟩; have U8 := Lib.hid (U7.out.new hg); have V8 := Lib.hid (V7.out.new hg); have G8 := Lib.hid (G7.out.trans hg); clear hg)
    | (have mark := G6; go_at_call 18; (with_reducible refine (Idle_zn (zn_at U6.out)).mono ?_); rintro e w7 ⟨rfl, hg⟩; have U7 := Lib.hid (U6.out.new hg); have V7 := Lib.hid (V6.out.new hg); have G7 := Lib.hid (G6.out.trans hg); clear hg)
    | (have mark := G5; go_at_call 18; (with_reducible refine (Idle_zn (zn_nil _)).mono ?_); rintro e w6 ⟨rfl, hg⟩; have U6 := Lib.hid (U5.out.new hg); have V6 := Lib.hid (V5.out.new hg); have G6 := Lib.hid (G5.out.trans hg); clear hg)
    | (have mark := G4; go_at_call 14; (with_reducible refine (Unit_zn (zn_at V4.out)).mono ?_); rintro e w5 ⟨rfl, hg⟩; have U5 := Lib.hid (U4.out.new hg); have V5 := Lib.hid (V4.out.new hg); have G5 := Lib.hid (G4.out.trans hg); clear hg)
    | (have mark := G3; go_at_call 14; (with_reducible refine (Unit_zn (zn_at U3.out)).mono ?_); rintro e w4 ⟨rfl, hg⟩; have U4 := Lib.hid (U3.out.new hg); have V4 := Lib.hid (V3.out.new hg); have G4 := Lib.hid (G3.out.trans hg); clear hg)
    | (have mark := G2; go_at_call 14; (with_reducible refine (Unit_zn (zn_nil _)).mono ?_); rintro e w3 ⟨rfl, hg⟩; have U3 := Lib.hid (U2.out.new hg); have V3 := Lib.hid (V2.out.new hg); have G3 := Lib.hid (G2.out.trans hg); clear hg))
  go_ret
  exact ⟨rfl, G11.out⟩
end
end Go.Proofs.YtacjleladjgkeaaGreatDoor.tr
