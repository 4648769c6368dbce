/- Texts that this claim stands on. -/
import Derived.Test.YtkgdcgmbapchcaaGreatDoorPCzD
namespace Go.Proofs.YtkgdcgmbapchcaaGreatDoor.cy
open Go.ChangeShapes Go.WideShapes Go.ChangeAt Go.RowKit gen calls cls geos ce st sh
set_option linter.unusedVariables false
set_option maxHeartbeats 4000000
set_option maxRecDepth 100000
section
variable {w0 W w w1 w' : World} {k : Kn} {c : Cb} {L0 K0 L K M : List Nat} {σ τ : Cy}
theorem Cx.base (hg : w.grownBy w1 none) (h : Cx w1 k c L0 K0 σ W) : Cx w k c L0 K0 σ W := by
  obtain ⟨L, K, h1, h2, h3, h4⟩ := h
  exact ⟨L, K, fun q hq => (h1 q hq).imp (fun e => e) fun e => Nat.le_trans hg.size e, fun q hq => (h2 q hq).imp (fun e => e) fun e => Nat.le_trans hg.size e, h3, (Gr.new hg).trans h4⟩
theorem any_at {P : Program} {md : Region.Mode} {ops : Array Oper} {Q : Exit → Act → World → Prop} {S : World → Prop} {fuel : Nat} {listed : Array Bool} {a b : Act} {w : World} (h : a = b) (hq : wpAnyH P md ops Q S fuel listed b w) : wpAnyH P md ops Q S fuel listed a w := h ▸ hq
theorem then_at {K : Act → World → Prop} {Q : Exit → Act → World → Prop} {e : Exit} {a b : Act} {w : World} (h : a = b) (hq : Exit.then K Q e b w) : Exit.then K Q e a w := h ▸ hq
theorem roots_yes (h : Cw w k c L K σ) {t : Nat} (ht : t < 8) (hl : σ.lv t = true) : Calls Tryz.prog 78 #[.pointer (some ⟨c.B, 0, none⟩), .int .i64 t] w fun e w' => e = .returned (.pointer (some ⟨c.B, 7 + t * 33, none⟩)) ∧ w = w' := by
  obtain ⟨c0, c1, c2, c3, c4, c5, c6, c7, c8, c9, fz, hz⟩ := h.cells
  have LV := Lib.hid (Live_any h t)
  rw [hl] at LV
  have l1 : (0 : Int) ≤ t := by omega
  have l2 : (t : Int) < 8 := by omega
  clear h hl
  go_enter Tryz.func78, Tryz.ntmps78
  go_wp2_with (go_at_call 38; (with_reducible refine LV.out.mono ?_); rintro e w1 ⟨rfl, rfl⟩)
  go_ret
  exact ⟨rfl, rfl⟩
theorem roots_no (h : Cw w k c L K σ) {t : Int} (hl : σ.lv t = false) : Calls Tryz.prog 78 #[.pointer (some ⟨c.B, 0, none⟩), .int .i64 t] w fun e w' => e = .returned (.pointer none) ∧ w = w' := by
  have LV := Lib.hid (Live_any h t)
  rw [hl] at LV
  clear h hl
  go_enter Tryz.func78, Tryz.ntmps78
  go_wp2_with (go_at_call 38; (with_reducible refine LV.out.mono ?_); rintro e w1 ⟨rfl, rfl⟩)
  go_ret
  exact ⟨rfl, rfl⟩
theorem Cx.same {F : Nat} {args : Array Value} {v : Value} (h : Cx w0 k c L0 K0 σ W) (C : ∀ L K, Cw W k c L K σ → Calls Tryz.prog F args W fun e w' => e = .returned v ∧ W = w') : Calls Tryz.prog F args W fun e w' => e = .returned v ∧ Cx w0 k c L0 K0 σ w' := by
  have h0 := h
  obtain ⟨L, K, h1, h2, h3, h4⟩ := h
  exact (C L K h3).mono fun e w' ⟨k1, k2⟩ => ⟨k1, k2 ▸ h0⟩
theorem lv_nat {t : Int} (h : σ.lv t = true) (hi : Inv k σ) : ∃ j : Nat, t = j ∧ j < k.n := by
  obtain ⟨j, e, hj, _⟩ := lv_of h
  exact ⟨j, e, by rw [← hi.thl]; exact hj⟩
theorem Push_no (h : Cw w k c L K σ) (t : Int) {v1 v2 : Int} (htk : σ.tks (v1, v2) = false) : Calls Tryz.prog 36 #[.pointer (some ⟨c.B, 0, none⟩), .int .i64 t, .agg #[.int .i64 v1, .int .i64 v2]] w fun e w' => e = .returned (.bool false) ∧ w.grownBy w' none := by
  have G0 := Lib.hid (World.grownBy_alloc w (.cells #[.int .i64 v1, .int .i64 v2] 36) none)
  have C0 := Lib.hid (wd.Two.new w 36 v1 v2 rfl)
  have TK := Lib.hid (fun W (hg : w.grownBy W none) => show Calls Tryz.prog 89 #[.pointer (some ⟨c.B, 0, none⟩), .agg #[.int .i64 v1, .int .i64 v2]] W fun e w' => e = .returned (.bool false) ∧ W.grownBy w' none from by
    rw [← htk]
    exact takes_any (h.new hg) v1 v2)
  obtain ⟨d0, d1, _⟩ := C0.out
  clear h htk
  go_enter Tryz.func36, Tryz.ntmps36
  go_wp2_with (go_at_call 64; (with_reducible refine (there_any _ _).mono ?_); rintro e w' ⟨rfl, rfl⟩)
  refine wp_region_held_drew (S := fun _ => True) (by kernel_rfl) trivial (fun _ => ?_)
  refine wpAnyH_take (i := 0) (v := .pointer (some ⟨c.B, 0, none⟩)) rfl (by kernel_rfl) (by kernel_rfl) (by kernel_rfl) (fun _ _ _ h => h) (Or.inl ⟨by kernel_rfl, fun _ _ => by go_simp⟩) trivial ?_
  refine any_at (b := { tmps := #[.pointer (some ⟨c.B, 0, none⟩), .int .i64 t, .agg #[.int .i64 v1, .int .i64 v2], undef, undef, .pointer (some ⟨w.heap.size, 0, none⟩), .bool false, .pointer (some ⟨c.B, 0, none⟩), .pointer (some ⟨c.B, 0, none⟩), .pointer (some ⟨c.B, 0, none⟩), .pointer (some ⟨c.B, 0, none⟩), undef, undef, undef, undef, undef, undef, undef, undef, undef, undef, undef], defers := [] }) (by kernel_rfl) ?_
  refine wpAnyH_take (i := 1) (v := .pointer (some ⟨c.B, 0, none⟩)) rfl (by kernel_rfl) (by kernel_rfl) (by kernel_rfl) (fun _ _ _ h => h) (Or.inl ⟨by kernel_rfl, fun _ _ => by rfl⟩) trivial ?_
  refine any_at (b := { tmps := #[.pointer (some ⟨c.B, 0, none⟩), .int .i64 t, .agg #[.int .i64 v1, .int .i64 v2], undef, undef, .pointer (some ⟨w.heap.size, 0, none⟩), .bool false, .pointer (some ⟨c.B, 0, none⟩), .pointer (some ⟨c.B, 0, none⟩), .pointer (some ⟨c.B, 0, none⟩), .pointer (some ⟨c.B, 0, none⟩), .pointer (some ⟨c.B, 0, none⟩), undef, undef, undef, undef, undef, undef, undef, undef, undef, undef], defers := [] }) (by kernel_rfl) ?_
  refine wpAnyH_take (i := 2) (v := .pointer (some ⟨c.B, 0, none⟩)) rfl (by kernel_rfl) (by kernel_rfl) (by kernel_rfl) (fun _ _ _ h => h) (Or.inl ⟨by kernel_rfl, fun _ _ => by go_simp⟩) trivial ?_
  refine any_at (b := { tmps := #[.pointer (some ⟨c.B, 0, none⟩), .int .i64 t, .agg #[.int .i64 v1, .int .i64 v2], undef, undef, .pointer (some ⟨w.heap.size, 0, none⟩), .bool false, .pointer (some ⟨c.B, 0, none⟩), .pointer (some ⟨c.B, 0, none⟩), .pointer (some ⟨c.B, 0, none⟩), .pointer (some ⟨c.B, 0, none⟩), .pointer (some ⟨c.B, 0, none⟩), .pointer (some ⟨c.B, 0, none⟩), undef, undef, undef, undef, undef, undef, undef, undef, undef], defers := [] }) (by kernel_rfl) ?_
  refine wpAnyH_ready (rs := [3]) (by kernel_rfl) (by simp) (AllReadyH.cons rfl (fun K hK => ?_) AllReadyH.nil)
  go_simp
  refine hK.out _ _ trivial (fun _ => ?_)
  clear hK K
  refine any_at (b := { tmps := #[.pointer (some ⟨c.B, 0, none⟩), .int .i64 t, .agg #[.int .i64 v1, .int .i64 v2], undef, undef, .pointer (some ⟨w.heap.size, 0, none⟩), .bool false, .pointer (some ⟨c.B, 0, none⟩), .pointer (some ⟨c.B, 0, none⟩), .pointer (some ⟨c.B, 0, none⟩), .pointer (some ⟨c.B, 0, none⟩), .pointer (some ⟨c.B, 0, none⟩), .pointer (some ⟨c.B, 0, none⟩), .agg #[.int .i64 v1, .int .i64 v2], undef, undef, undef, undef, undef, undef, undef, undef], defers := [] }) (by kernel_rfl) ?_
  refine wpAnyH_ready (rs := [4]) (by kernel_rfl) (by simp) (AllReadyH.cons rfl (fun K hK => ?_) AllReadyH.nil)
  go_simp
  (go_at_call 89; (with_reducible refine (TK.out _ (G0.out.trans (by first | exact World.grownBy.refl _ _ | exact li.grown_drewN _ _ _ | exact gr.grown_drew _ _))).mono ?_); rintro e w2 ⟨rfl, hg⟩; have G2 := Lib.hid ((G0.out.trans (by first | exact World.grownBy.refl _ _ | exact li.grown_drewN _ _ _ | exact gr.grown_drew _ _)).trans hg); clear hg)
  refine hK.out _ _ trivial (fun _ => ?_)
  clear hK K
  refine any_at (b := { tmps := #[.pointer (some ⟨c.B, 0, none⟩), .int .i64 t, .agg #[.int .i64 v1, .int .i64 v2], undef, undef, .pointer (some ⟨w.heap.size, 0, none⟩), .bool false, .pointer (some ⟨c.B, 0, none⟩), .pointer (some ⟨c.B, 0, none⟩), .pointer (some ⟨c.B, 0, none⟩), .pointer (some ⟨c.B, 0, none⟩), .pointer (some ⟨c.B, 0, none⟩), .pointer (some ⟨c.B, 0, none⟩), .agg #[.int .i64 v1, .int .i64 v2], .bool false, undef, undef, undef, undef, undef, undef, undef], defers := [] }) (by kernel_rfl) ?_
  refine wpAnyH_take (i := 5) (v := .bool false) rfl (by kernel_rfl) (by kernel_rfl) (by kernel_rfl) (fun _ _ _ h => h) (Or.inl ⟨by kernel_rfl, fun _ _ => by rfl⟩) trivial ?_
  refine any_at (b := { tmps := #[.pointer (some ⟨c.B, 0, none⟩), .int .i64 t, .agg #[.int .i64 v1, .int .i64 v2], undef, undef, .pointer (some ⟨w.heap.size, 0, none⟩), .bool false, .pointer (some ⟨c.B, 0, none⟩), .pointer (some ⟨c.B, 0, none⟩), .pointer (some ⟨c.B, 0, none⟩), .pointer (some ⟨c.B, 0, none⟩), .pointer (some ⟨c.B, 0, none⟩), .pointer (some ⟨c.B, 0, none⟩), .agg #[.int .i64 v1, .int .i64 v2], .bool false, .bool false, undef, undef, undef, undef, undef, undef], defers := [] }) (by kernel_rfl) ?_
  refine wpAnyH_take (i := 6) (v := undef) rfl (by kernel_rfl) (by kernel_rfl) (by kernel_rfl) (fun _ _ _ h => h) (Or.inr ⟨by kernel_rfl, rfl⟩) trivial ?_
  refine any_at (b := { tmps := #[.pointer (some ⟨c.B, 0, none⟩), .int .i64 t, .agg #[.int .i64 v1, .int .i64 v2], undef, undef, .pointer (some ⟨w.heap.size, 0, none⟩), .bool false, .pointer (some ⟨c.B, 0, none⟩), .pointer (some ⟨c.B, 0, none⟩), .pointer (some ⟨c.B, 0, none⟩), .pointer (some ⟨c.B, 0, none⟩), .pointer (some ⟨c.B, 0, none⟩), .pointer (some ⟨c.B, 0, none⟩), .agg #[.int .i64 v1, .int .i64 v2], .bool false, .bool false, undef, undef, undef, undef, undef, undef], defers := [] }) (by kernel_rfl) ?_
  refine wpAnyH_take (i := 7) (v := undef) rfl (by kernel_rfl) (by kernel_rfl) (by kernel_rfl) (fun _ _ _ h => h) (Or.inr ⟨by kernel_rfl, rfl⟩) trivial ?_
  refine any_at (b := { tmps := #[.pointer (some ⟨c.B, 0, none⟩), .int .i64 t, .agg #[.int .i64 v1, .int .i64 v2], undef, undef, .pointer (some ⟨w.heap.size, 0, none⟩), .bool false, .pointer (some ⟨c.B, 0, none⟩), .pointer (some ⟨c.B, 0, none⟩), .pointer (some ⟨c.B, 0, none⟩), .pointer (some ⟨c.B, 0, none⟩), .pointer (some ⟨c.B, 0, none⟩), .pointer (some ⟨c.B, 0, none⟩), .agg #[.int .i64 v1, .int .i64 v2], .bool false, .bool false, undef, undef, undef, undef, undef, undef], defers := [] }) (by kernel_rfl) ?_
  refine wpAnyH_take (i := 8) (v := undef) rfl (by kernel_rfl) (by kernel_rfl) (by kernel_rfl) (fun _ _ _ h => h) (Or.inr ⟨by kernel_rfl, rfl⟩) trivial ?_
  refine any_at (b := { tmps := #[.pointer (some ⟨c.B, 0, none⟩), .int .i64 t, .agg #[.int .i64 v1, .int .i64 v2], undef, undef, .pointer (some ⟨w.heap.size, 0, none⟩), .bool false, .pointer (some ⟨c.B, 0, none⟩), .pointer (some ⟨c.B, 0, none⟩), .pointer (some ⟨c.B, 0, none⟩), .pointer (some ⟨c.B, 0, none⟩), .pointer (some ⟨c.B, 0, none⟩), .pointer (some ⟨c.B, 0, none⟩), .agg #[.int .i64 v1, .int .i64 v2], .bool false, .bool false, undef, undef, undef, undef, undef, undef], defers := [] }) (by kernel_rfl) ?_
  refine wpAnyH_take (i := 9) (v := undef) rfl (by kernel_rfl) (by kernel_rfl) (by kernel_rfl) (fun _ _ _ h => h) (Or.inr ⟨by kernel_rfl, rfl⟩) trivial ?_
  refine any_at (b := { tmps := #[.pointer (some ⟨c.B, 0, none⟩), .int .i64 t, .agg #[.int .i64 v1, .int .i64 v2], undef, undef, .pointer (some ⟨w.heap.size, 0, none⟩), .bool false, .pointer (some ⟨c.B, 0, none⟩), .pointer (some ⟨c.B, 0, none⟩), .pointer (some ⟨c.B, 0, none⟩), .pointer (some ⟨c.B, 0, none⟩), .pointer (some ⟨c.B, 0, none⟩), .pointer (some ⟨c.B, 0, none⟩), .agg #[.int .i64 v1, .int .i64 v2], .bool false, .bool false, undef, undef, undef, undef, undef, undef], defers := [] }) (by kernel_rfl) ?_
  refine wpAnyH_take (i := 10) (v := undef) rfl (by kernel_rfl) (by kernel_rfl) (by kernel_rfl) (fun _ _ _ h => h) (Or.inr ⟨by kernel_rfl, rfl⟩) trivial ?_
  refine any_at (b := { tmps := #[.pointer (some ⟨c.B, 0, none⟩), .int .i64 t, .agg #[.int .i64 v1, .int .i64 v2], undef, undef, .pointer (some ⟨w.heap.size, 0, none⟩), .bool false, .pointer (some ⟨c.B, 0, none⟩), .pointer (some ⟨c.B, 0, none⟩), .pointer (some ⟨c.B, 0, none⟩), .pointer (some ⟨c.B, 0, none⟩), .pointer (some ⟨c.B, 0, none⟩), .pointer (some ⟨c.B, 0, none⟩), .agg #[.int .i64 v1, .int .i64 v2], .bool false, .bool false, undef, undef, undef, undef, undef, undef], defers := [] }) (by kernel_rfl) ?_
  refine wpAnyH_take (i := 11) (v := .bool false) rfl (by kernel_rfl) (by kernel_rfl) (by kernel_rfl) (fun _ _ _ h => h) (Or.inl ⟨by kernel_rfl, fun _ _ => by kernel_rfl⟩) trivial ?_
  refine any_at (b := { tmps := #[.pointer (some ⟨c.B, 0, none⟩), .int .i64 t, .agg #[.int .i64 v1, .int .i64 v2], undef, undef, .pointer (some ⟨w.heap.size, 0, none⟩), .bool false, .pointer (some ⟨c.B, 0, none⟩), .pointer (some ⟨c.B, 0, none⟩), .pointer (some ⟨c.B, 0, none⟩), .pointer (some ⟨c.B, 0, none⟩), .pointer (some ⟨c.B, 0, none⟩), .pointer (some ⟨c.B, 0, none⟩), .agg #[.int .i64 v1, .int .i64 v2], .bool false, .bool false, undef, undef, undef, undef, undef, .bool false], defers := [] }) (by kernel_rfl) ?_
  refine wpAnyH_take (i := 12) (v := .bool false) rfl (by kernel_rfl) (by kernel_rfl) (by kernel_rfl) (fun _ _ _ h => h) (Or.inl ⟨by kernel_rfl, fun _ _ => by rfl⟩) trivial ?_
  refine any_at (b := { tmps := #[.pointer (some ⟨c.B, 0, none⟩), .int .i64 t, .agg #[.int .i64 v1, .int .i64 v2], undef, undef, .pointer (some ⟨w.heap.size, 0, none⟩), .bool false, .pointer (some ⟨c.B, 0, none⟩), .pointer (some ⟨c.B, 0, none⟩), .pointer (some ⟨c.B, 0, none⟩), .pointer (some ⟨c.B, 0, none⟩), .pointer (some ⟨c.B, 0, none⟩), .pointer (some ⟨c.B, 0, none⟩), .agg #[.int .i64 v1, .int .i64 v2], .bool false, .bool false, undef, undef, undef, undef, undef, .bool false], defers := [] }) (by kernel_rfl) ?_
  refine wpAnyH_done (by kernel_rfl) ?_ _
  refine then_at (b := { tmps := #[.pointer (some ⟨c.B, 0, none⟩), .int .i64 t, .agg #[.int .i64 v1, .int .i64 v2], undef, undef, .pointer (some ⟨w.heap.size, 0, none⟩), .bool false, .pointer (some ⟨c.B, 0, none⟩), .pointer (some ⟨c.B, 0, none⟩), .pointer (some ⟨c.B, 0, none⟩), .pointer (some ⟨c.B, 0, none⟩), .pointer (some ⟨c.B, 0, none⟩), .pointer (some ⟨c.B, 0, none⟩), .agg #[.int .i64 v1, .int .i64 v2], .bool false, .bool false, undef, undef, undef, undef, undef, .bool false], defers := [] }) (by kernel_rfl) ?_
  go_wp2
  go_ret
  exact ⟨rfl, G2.out⟩
theorem Push_dead (h : Cw w k c L K σ) {t : Int} (hl : σ.lv t = false) {v1 v2 : Int} (htk : σ.tks (v1, v2) = true) : Calls Tryz.prog 36 #[.pointer (some ⟨c.B, 0, none⟩), .int .i64 t, .agg #[.int .i64 v1, .int .i64 v2]] w fun e w' => e = .returned (.bool false) ∧ Cx w k c L K σ w' := by
  have G0 := Lib.hid (World.grownBy_alloc w (.cells #[.int .i64 v1, .int .i64 v2] 36) none)
  have C0 := Lib.hid (wd.Two.new w 36 v1 v2 rfl)
  have hw1 := h.new G0.out
  have X0 := Lib.hid (Cx.start hw1)
  have DD := Lib.hid (fun W τ (hx : Cx (w.alloc (.cells #[.int .i64 v1, .int .i64 v2] 36)) k c L K τ W) => (show W.cell? ⟨w.heap.size, 0, none⟩ = some (.int .i64 v1) ∧ W.cell? ⟨w.heap.size, 1, none⟩ = some (.int .i64 v2) from by
    obtain ⟨d0, d1, _⟩ := C0.out
    have off : w.heap.size ∉ al c L K := fun hm => by have := h.lt _ hm; omega
    exact ⟨hx.gro.cell d0 off, hx.gro.cell d1 off⟩))
  have D0 := DD.out _ _ X0.out
  have TK := Lib.hid (fun W (hx : Cx (w.alloc (.cells #[.int .i64 v1, .int .i64 v2] 36)) k c L K σ W) => show Calls Tryz.prog 89 #[.pointer (some ⟨c.B, 0, none⟩), .agg #[.int .i64 v1, .int .i64 v2]] W fun e w' => e = .returned (.bool true) ∧ Cx (w.alloc (.cells #[.int .i64 v1, .int .i64 v2] 36)) k c L K σ w' from by
    rw [← htk]
    exact hx.tell fun L K h => takes_any h v1 v2)
  have RT := Lib.hid (fun W (hx : Cx (w.alloc (.cells #[.int .i64 v1, .int .i64 v2] 36)) k c L K σ W) => hx.same fun L K h => roots_no h hl)
  have PU := Lib.hid (fun W (hx : Cx (w.alloc (.cells #[.int .i64 v1, .int .i64 v2] 36)) k c L K σ W) => hx.tell fun L K h => ro.Push_nil v1 v2 W)
  clear h hl htk hw1 C0
  go_enter Tryz.func36, Tryz.ntmps36
  go_wp2_with (go_at_call 64; (with_reducible refine (there_any _ _).mono ?_); rintro e w' ⟨rfl, rfl⟩)
  go_region_held3 (fun W => W.cell? ⟨w.heap.size, 0, none⟩ = some (.int .i64 v1) ∧ W.cell? ⟨w.heap.size, 1, none⟩ = some (.int .i64 v2)) (first | with_reducible exact D0 | with_reducible exact D2 | with_reducible exact D4 | with_reducible exact D5 | go_keep) (first
    | (go_at_call 89; (with_reducible refine (TK.out _ (X0.out.new (by first | exact World.grownBy.refl _ _ | exact li.grown_drewN _ _ _ | exact gr.grown_drew _ _))).mono ?_); rintro e w2 ⟨rfl, h2⟩; have X2 := Lib.hid h2; have D2 := DD.out _ _ h2; clear h2)
    | (go_at_call 78; (with_reducible refine (RT.out _ (X2.out.new (by first | exact World.grownBy.refl _ _ | exact li.grown_drewN _ _ _ | exact gr.grown_drew _ _))).mono ?_); rintro e w4 ⟨rfl, h4⟩; have X4 := Lib.hid h4; have D4 := DD.out _ _ h4; clear h4)
    | (go_at_call 90; (with_reducible refine (PU.out _ (X4.out.new (by first | exact World.grownBy.refl _ _ | exact li.grown_drewN _ _ _ | exact gr.grown_drew _ _))).mono ?_); rintro e w5 ⟨rfl, h5⟩; have X5 := Lib.hid h5; have D5 := DD.out _ _ h5; clear h5))
  all_goals
    go_wp2
    go_ret
    exact ⟨rfl, by first | exact X5.out.base G0.out | exact (X5.out.new (li.grown_drewN _ _ _)).base G0.out | exact (X5.out.new (gr.grown_drew _ _)).base G0.out⟩
theorem Push_full (h : Cw w k c L K σ) {t : Nat} (ht : t < 8) (hl : σ.lv t = true) {v1 v2 : Int} (htk : σ.tks (v1, v2) = true) (hf : (σ.rt.getD t []).length = 16) : Calls Tryz.prog 36 #[.pointer (some ⟨c.B, 0, none⟩), .int .i64 t, .agg #[.int .i64 v1, .int .i64 v2]] w fun e w' => e = .returned (.bool false) ∧ Cx w k c L K σ w' := by
  have G0 := Lib.hid (World.grownBy_alloc w (.cells #[.int .i64 v1, .int .i64 v2] 36) none)
  have C0 := Lib.hid (wd.Two.new w 36 v1 v2 rfl)
  have hw1 := h.new G0.out
  have X0 := Lib.hid (Cx.start hw1)
  have DD := Lib.hid (fun W τ (hx : Cx (w.alloc (.cells #[.int .i64 v1, .int .i64 v2] 36)) k c L K τ W) => (show W.cell? ⟨w.heap.size, 0, none⟩ = some (.int .i64 v1) ∧ W.cell? ⟨w.heap.size, 1, none⟩ = some (.int .i64 v2) from by
    obtain ⟨d0, d1, _⟩ := C0.out
    have off : w.heap.size ∉ al c L K := fun hm => by have := h.lt _ hm; omega
    exact ⟨hx.gro.cell d0 off, hx.gro.cell d1 off⟩))
  have D0 := DD.out _ _ X0.out
  have TK := Lib.hid (fun W (hx : Cx (w.alloc (.cells #[.int .i64 v1, .int .i64 v2] 36)) k c L K σ W) => show Calls Tryz.prog 89 #[.pointer (some ⟨c.B, 0, none⟩), .agg #[.int .i64 v1, .int .i64 v2]] W fun e w' => e = .returned (.bool true) ∧ Cx (w.alloc (.cells #[.int .i64 v1, .int .i64 v2] 36)) k c L K σ w' from by
    rw [← htk]
    exact hx.tell fun L K h => takes_any h v1 v2)
  have RT := Lib.hid (fun W (hx : Cx (w.alloc (.cells #[.int .i64 v1, .int .i64 v2] 36)) k c L K σ W) => hx.same fun L K h => roots_yes h ht hl)
  have PU := Lib.hid (fun W (hx : Cx (w.alloc (.cells #[.int .i64 v1, .int .i64 v2] 36)) k c L K σ W) => hx.tell fun L K h => rx.Push_full (h.rt ht) hf v1 v2)
  clear h hl htk hf hw1 C0
  go_enter Tryz.func36, Tryz.ntmps36
  go_wp2_with (go_at_call 64; (with_reducible refine (there_any _ _).mono ?_); rintro e w' ⟨rfl, rfl⟩)
  go_region_held3 (fun W => W.cell? ⟨w.heap.size, 0, none⟩ = some (.int .i64 v1) ∧ W.cell? ⟨w.heap.size, 1, none⟩ = some (.int .i64 v2)) (first | with_reducible exact D0 | with_reducible exact D2 | with_reducible exact D4 | with_reducible exact D5 | go_keep) (first
    | (go_at_call 89; (with_reducible refine (TK.out _ (X0.out.new (by first | exact World.grownBy.refl _ _ | exact li.grown_drewN _ _ _ | exact gr.grown_drew _ _))).mono ?_); rintro e w2 ⟨rfl, h2⟩; have X2 := Lib.hid h2; have D2 := DD.out _ _ h2; clear h2)
    | (go_at_call 78; (with_reducible refine (RT.out _ (X2.out.new (by first | exact World.grownBy.refl _ _ | exact li.grown_drewN _ _ _ | exact gr.grown_drew _ _))).mono ?_); rintro e w4 ⟨rfl, h4⟩; have X4 := Lib.hid h4; have D4 := DD.out _ _ h4; clear h4)
    | (go_at_call 90; (with_reducible refine (PU.out _ (X4.out.new (by first | exact World.grownBy.refl _ _ | exact li.grown_drewN _ _ _ | exact gr.grown_drew _ _))).mono ?_); rintro e w5 ⟨rfl, h5⟩; have X5 := Lib.hid h5; have D5 := DD.out _ _ h5; clear h5))
  all_goals
    go_wp2
    go_ret
    exact ⟨rfl, by first | exact X5.out.base G0.out | exact (X5.out.new (li.grown_drewN _ _ _)).base G0.out | exact (X5.out.new (gr.grown_drew _ _)).base G0.out⟩
theorem Push_yes (h : Cw w k c L K σ) {t : Nat} (ht : t < 8) (hl : σ.lv t = true) {v1 v2 : Int} (htk : σ.tks (v1, v2) = true) (hf : (σ.rt.getD t []).length < 16) : Calls Tryz.prog 36 #[.pointer (some ⟨c.B, 0, none⟩), .int .i64 t, .agg #[.int .i64 v1, .int .i64 v2]] w fun e w' => e = .returned (.bool true) ∧ Cx w k c L K (σ.pushed t (v1, v2)) w' := by
  have G0 := Lib.hid (World.grownBy_alloc w (.cells #[.int .i64 v1, .int .i64 v2] 36) none)
  have C0 := Lib.hid (wd.Two.new w 36 v1 v2 rfl)
  have hw1 := h.new G0.out
  have X0 := Lib.hid (Cx.start hw1)
  have DD := Lib.hid (fun W τ (hx : Cx (w.alloc (.cells #[.int .i64 v1, .int .i64 v2] 36)) k c L K τ W) => (show W.cell? ⟨w.heap.size, 0, none⟩ = some (.int .i64 v1) ∧ W.cell? ⟨w.heap.size, 1, none⟩ = some (.int .i64 v2) from by
    obtain ⟨d0, d1, _⟩ := C0.out
    have off : w.heap.size ∉ al c L K := fun hm => by have := h.lt _ hm; omega
    exact ⟨hx.gro.cell d0 off, hx.gro.cell d1 off⟩))
  have D0 := DD.out _ _ X0.out
  have TK := Lib.hid (fun W (hx : Cx (w.alloc (.cells #[.int .i64 v1, .int .i64 v2] 36)) k c L K σ W) => show Calls Tryz.prog 89 #[.pointer (some ⟨c.B, 0, none⟩), .agg #[.int .i64 v1, .int .i64 v2]] W fun e w' => e = .returned (.bool true) ∧ Cx (w.alloc (.cells #[.int .i64 v1, .int .i64 v2] 36)) k c L K σ w' from by
    rw [← htk]
    exact hx.tell fun L K h => takes_any h v1 v2)
  have hc : wd.chk v1 v2 = 0 := by unfold Cy.tks at htk; simp at htk; exact htk.1
  have RT := Lib.hid (fun W (hx : Cx (w.alloc (.cells #[.int .i64 v1, .int .i64 v2] 36)) k c L K σ W) => hx.same fun L K h => roots_yes h ht hl)
  have PU := Lib.hid (fun W (hx : Cx (w.alloc (.cells #[.int .i64 v1, .int .i64 v2] 36)) k c L K σ W) => show Calls Tryz.prog 90 #[.pointer (some ⟨c.B, 7 + t * 33, none⟩), .agg #[.int .i64 v1, .int .i64 v2]] W fun e w' => e = .returned (.bool true) ∧ Cx (w.alloc (.cells #[.int .i64 v1, .int .i64 v2] 36)) k c L K (σ.pushed t (v1, v2)) w' from hx.rput ht fun L K h => rx.Push_yes (h.rt ht) hf v1 v2 hc)
  clear h hl htk hf hw1 C0 hc
  go_enter Tryz.func36, Tryz.ntmps36
  go_wp2_with (go_at_call 64; (with_reducible refine (there_any _ _).mono ?_); rintro e w' ⟨rfl, rfl⟩)
  go_region_held3 (fun W => W.cell? ⟨w.heap.size, 0, none⟩ = some (.int .i64 v1) ∧ W.cell? ⟨w.heap.size, 1, none⟩ = some (.int .i64 v2)) (first | with_reducible exact D0 | with_reducible exact D2 | with_reducible exact D4 | with_reducible exact D5 | go_keep) (first
    | (go_at_call 89; (with_reducible refine (TK.out _ (X0.out.new (by first | exact World.grownBy.refl _ _ | exact li.grown_drewN _ _ _ | exact gr.grown_drew _ _))).mono ?_); rintro e w2 ⟨rfl, h2⟩; have X2 := Lib.hid h2; have D2 := DD.out _ _ h2; clear h2)
    | (go_at_call 78; (with_reducible refine (RT.out _ (X2.out.new (by first | exact World.grownBy.refl _ _ | exact li.grown_drewN _ _ _ | exact gr.grown_drew _ _))).mono ?_); rintro e w4 ⟨rfl, h4⟩; have X4 := Lib.hid h4; have D4 := DD.out _ _ h4; clear h4)
    | (go_at_call 90; (with_reducible refine (PU.out _ (X4.out.new (by first | exact World.grownBy.refl _ _ | exact li.grown_drewN _ _ _ | exact gr.grown_drew _ _))).mono ?_); rintro e w5 ⟨rfl, h5⟩; have X5 := Lib.hid h5; have D5 := DD.out _ _ h5; clear h5))
  all_goals
    go_wp2
    go_ret
    exact ⟨rfl, by first | exact X5.out.base G0.out | exact (X5.out.new (li.grown_drewN _ _ _)).base G0.out | exact (X5.out.new (gr.grown_drew _ _)).base G0.out⟩
theorem Pop_dead (h : Cw w k c L K σ) {t : Int} (hl : σ.lv t = false) : Calls Tryz.prog 29 #[.pointer (some ⟨c.B, 0, none⟩), .int .i64 t] w fun e w' => e = ro.vb (0, 0) false ∧ Cx w k c L K σ w' := by
  have G0 := Lib.hid (World.grownBy_alloc w (.cells #[.int .i64 0, .int .i64 0] 36) none)
  have C0 := Lib.hid (wd.Two.new w 36 0 0 rfl)
  have X0 := Lib.hid (Cx.start h)
  have RT := Lib.hid (roots_no (h.new G0.out) hl)
  clear h hl
  go_enter Tryz.func29, Tryz.ntmps29
  go_wp2_with (first
    | (go_at_call 78; (with_reducible refine RT.out.mono ?_); rintro e w1 ⟨rfl, rfl⟩)
    | (go_at_call 79; (with_reducible refine (ro.Pop_nil _).mono ?_); rintro e w1 ⟨rfl, hg⟩; obtain ⟨d0, d1, d2, d3⟩ := wd.Two.below (li.grown_below hg) C0.out; have G1 := Lib.hid (G0.out.trans hg); have hz1 : w.heap.size < w1.heap.size := (World.block_lt_of_cell? w1 _ d0); clear hg))
  refine bodyPost_ret (v := .tuple #[.agg #[.int .i64 0, .int .i64 0], .bool false]) ?_ rfl ⟨rfl, X0.out.new ?_⟩
  · simp [results, Tryz.results29, go_sem, *]
  · exact li.grown_new G1.out ((ro.grown_set _ _ _ _).trans (ro.grown_set _ _ _ _)) (Nat.le_refl _)
theorem Cx.aside {b : Nat} (hg : w.grownBy w1 none) (h : Cx w1 k c L K τ W) (hl : ∀ q, q ∈ al c L K → q < w.heap.size) (hb : w.heap.size ≤ b) (hb1 : b < w1.heap.size) (hW : W.grownBy w' (some b)) : Cx w k c L K τ w' := by
  obtain ⟨L', K', h1, h2, h3, h4⟩ := h
  have off : ∀ q, q ∈ al c L' K' → q ∉ [b] := fun q hq hm => by
    have e : q = b := by simpa using hm
    subst e
    rcases al_old h1 h2 q hq with e | e
    · have := hl q e; omega
    · omega
  refine ⟨L', K', fun q hq => (h1 q hq).imp (fun e => e) fun e => Nat.le_trans hg.size e, fun q hq => (h2 q hq).imp (fun e => e) fun e => Nat.le_trans hg.size e, h3.gr (.one hW (by simp)) off, ((Gr.new hg).trans h4).own (Gr.one (L := [b]) hW (by simp)) fun q hq => .inr (by simp at hq; omega)⟩
theorem Pop_none (h : Cw w k c L K σ) {t : Nat} (ht : t < 8) (hl : σ.lv t = true) (hr : σ.rt.getD t [] = []) : Calls Tryz.prog 29 #[.pointer (some ⟨c.B, 0, none⟩), .int .i64 t] w fun e w' => e = ro.vb (0, 0) false ∧ Cx w k c L K σ w' := by
  have G0 := Lib.hid (World.grownBy_alloc w (.cells #[.int .i64 0, .int .i64 0] 36) none)
  have C0 := Lib.hid (wd.Two.new w 36 0 0 rfl)
  have X0 := Lib.hid (Cx.start h)
  have RT := Lib.hid (roots_yes (h.new G0.out) ht hl)
  have PO := Lib.hid (rx.Pop_none (by have := (h.new G0.out).rt ht; rwa [hr] at this))
  clear h hl hr
  go_enter Tryz.func29, Tryz.ntmps29
  go_wp2_with (first
    | (go_at_call 78; (with_reducible refine RT.out.mono ?_); rintro e w1 ⟨rfl, rfl⟩)
    | (go_at_call 79; (with_reducible refine PO.out.mono ?_); rintro e w1 ⟨rfl, hg⟩; obtain ⟨d0, d1, d2, d3⟩ := wd.Two.below (li.grown_below hg) C0.out; have G1 := Lib.hid (G0.out.trans hg); have hz1 : w.heap.size < w1.heap.size := (World.block_lt_of_cell? w1 _ d0); clear hg))
  refine bodyPost_ret (v := .tuple #[.agg #[.int .i64 0, .int .i64 0], .bool false]) ?_ rfl ⟨rfl, X0.out.new ?_⟩
  · simp [results, Tryz.results29, go_sem, *]
  · exact li.grown_new G1.out ((ro.grown_set _ _ _ _).trans (ro.grown_set _ _ _ _)) (Nat.le_refl _)
theorem Pop_yes (h : Cw w k c L K σ) {t : Nat} (ht : t < 8) (hl : σ.lv t = true) {m : List Va} {v1 v2 : Int} (hr : σ.rt.getD t [] = m ++ [(v1, v2)]) : Calls Tryz.prog 29 #[.pointer (some ⟨c.B, 0, none⟩), .int .i64 t] w fun e w' => e = ro.vb (v1, v2) true ∧ Cx w k c L K (σ.popped t) w' := by
  have G0 := Lib.hid (World.grownBy_alloc w (.cells #[.int .i64 0, .int .i64 0] 36) none)
  have C0 := Lib.hid (wd.Two.new w 36 0 0 rfl)
  have LT := Lib.hid h.lt
  have hw1 := h.new G0.out
  have X0 := Lib.hid (Cx.start hw1)
  have RT := Lib.hid (roots_yes hw1 ht hl)
  have PO := Lib.hid (show Calls Tryz.prog 79 #[.pointer (some ⟨c.B, 7 + t * 33, none⟩)] (w.alloc (.cells #[.int .i64 0, .int .i64 0] 36)) fun e w' => e = .returned (.tuple #[.agg #[.int .i64 v1, .int .i64 v2], .bool true]) ∧ Cx (w.alloc (.cells #[.int .i64 0, .int .i64 0] 36)) k c L K { σ with rt := σ.rt.set t m } w' from X0.out.rput ht fun L K h => rx.Pop_yes (x := (v1, v2)) (by have := h.rt ht; rwa [hr] at this))
  have FN := Lib.hid (show { σ with rt := σ.rt.set t m } = σ.popped t by unfold Cy.popped; rw [hr, List.dropLast_concat])
  have off := Lib.hid (show w.heap.size ∉ al c L K from fun hm => by have := h.lt _ hm; omega)
  clear h hl hr hw1
  go_enter Tryz.func29, Tryz.ntmps29
  go_wp2_with (first
    | (go_at_call 78; (with_reducible refine RT.out.mono ?_); rintro e w1 ⟨rfl, rfl⟩)
    | (go_at_call 79; (with_reducible refine PO.out.mono ?_); rintro e w1 ⟨rfl, h1⟩; have X1 := Lib.hid h1; have d0 := h1.gro.cell C0.out.1 off.out; have d1 := h1.gro.cell C0.out.2.1 off.out; have hz1 : w.heap.size < w1.heap.size := (World.block_lt_of_cell? w1 _ d0); have f0 : ∀ j, w1.frozen? ⟨w.heap.size, j, none⟩ = false := (fun j => by
        have := h1.gro.heap (heap_alloc_new w (.cells #[.int .i64 0, .int .i64 0] 36)) off.out
        exact frozen_of_row w1 _ j _ _ this); clear h1))
  rw [FN.out] at X1
  refine bodyPost_ret (v := .tuple #[.agg #[.int .i64 v1, .int .i64 v2], .bool true]) ?_ rfl ⟨rfl, ?_⟩
  · simp [results, Tryz.results29, go_sem, *]
  · exact X1.out.aside G0.out LT.out (Nat.le_refl _) (by simp) ((ro.grown_set _ _ _ _).trans (ro.grown_set _ _ _ _))
theorem Roots_dead (h : Cw w k c L K σ) {t : Int} (hl : σ.lv t = false) : Calls Tryz.prog 39 #[.pointer (some ⟨c.B, 0, none⟩), .int .i64 t] w (va.VasAns [] w) := by
  have RT := Lib.hid (roots_no h hl)
  clear h hl
  go_enter Tryz.func39, Tryz.ntmps39
  go_wp2_with (first
    | (go_at_call 78; (with_reducible refine RT.out.mono ?_); rintro e w1 ⟨rfl, rfl⟩)
    | (go_at_call 96; (with_reducible refine (ro.All_nil _).mono ?_); rintro e w1 ⟨A, d, rfl, h1, h2⟩; have H1 := Lib.hid h1; have H2 := Lib.hid h2; clear h1 h2))
  go_ret
  exact ⟨A, d, rfl, H1.out, H2.out⟩
theorem Roots_any (h : Cw w k c L K σ) {t : Nat} (ht : t < 8) (hl : σ.lv t = true) : Calls Tryz.prog 39 #[.pointer (some ⟨c.B, 0, none⟩), .int .i64 t] w (va.VasAns (σ.rt.getD t []) w) := by
  have RT := Lib.hid (roots_yes h ht hl)
  have AL := Lib.hid (rx.All_any (h.rt ht))
  clear h hl
  go_enter Tryz.func39, Tryz.ntmps39
  go_wp2_with (first
    | (go_at_call 78; (with_reducible refine RT.out.mono ?_); rintro e w1 ⟨rfl, rfl⟩)
    | (go_at_call 96; (with_reducible refine AL.out.mono ?_); rintro e w1 ⟨A, d, rfl, h1, h2⟩; have H1 := Lib.hid h1; have H2 := Lib.hid h2; clear h1 h2))
  go_ret
  exact ⟨A, d, rfl, H1.out, H2.out⟩
end
end Go.Proofs.YtkgdcgmbapchcaaGreatDoor.cy
