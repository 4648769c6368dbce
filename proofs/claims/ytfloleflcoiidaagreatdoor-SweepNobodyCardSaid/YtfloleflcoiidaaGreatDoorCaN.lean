/- A cache that nobody made. -/
import Derived.Test.YtfloleflcoiidaaGreatDoorCaY
namespace Go.Proofs.YtfloleflcoiidaaGreatDoor.ca
open Go.ChangeShapes Go.WideShapes Go.ChangeAt Go.RowKit Go.Maps gen calls cls Go.Sort
set_option linter.unusedVariables false
set_option maxHeartbeats 8000000
set_option maxRecDepth 100000
/-- No cache, or one of nothing. -/
def Nob (w : World) (p : Option Addr) : Prop := p = none ∨ ∃ a, p = some ⟨a, 0, none⟩ ∧ w.cell? ⟨a, 0, none⟩ = some (.int .i64 0) ∧ w.cell? ⟨a, 1, none⟩ = some (.map none)
theorem field_1n (w : World) : (Instr.field 116 (.agg #[.int .i64 0, .map none]) 1).run Tryz.prog w = .ok (.map none) w := by kernel_rfl
theorem field_0n (w : World) : (Instr.field 116 (.agg #[.int .i64 0, .map none]) 0).run Tryz.prog w = .ok (.int .i64 0) w := by kernel_rfl
section
variable {w w' : World} {P : Option Addr}
theorem Nob.new (h : Nob w P) (hg : w.grownBy w' none) : Nob w' P := by
  rcases h with h | ⟨a, e, h0, h1⟩
  · exact .inl h
  · exact .inr ⟨a, e, hg.cell h0 (by simp), hg.cell h1 (by simp)⟩
theorem made_nob (h : Nob w P) : Calls Tryz.prog 93 #[.pointer P] w fun e w' => e = .returned (.agg #[.int .i64 0, .map none]) ∧ w.grownBy w' none := by
  rcases h with rfl | ⟨a, rfl, h0, h1⟩
  · go_enter Tryz.func93, Tryz.ntmps93
    go_wp2
    refine bodyPost_ret (v := .agg #[.int .i64 0, .map none]) ?_ rfl ⟨rfl, World.grownBy_alloc _ _ _⟩
    simp [results, Tryz.results93, go_sem]
  · have c0 := fun o => (World.grownBy_alloc w o none).cell h0 (by simp)
    have c1 := fun o => (World.grownBy_alloc w o none).cell h1 (by simp)
    clear h0 h1
    go_enter Tryz.func93, Tryz.ntmps93
    go_wp2
    refine bodyPost_ret (v := .agg #[.int .i64 0, .map none]) ?_ rfl ⟨rfl, World.grownBy_alloc _ _ _⟩
    simp [results, Tryz.results93, go_sem]
theorem has_nob (h : Nob w P) (k : Int) :
    Calls Tryz.prog 120 #[.pointer P, .agg #[.int .i64 0, .int .i64 k]] w fun e w' => e = .returned (.bool false) ∧ w.grownBy w' none := by
  have G0 := Lib.hid (World.grownBy_alloc w (.cells #[.int .i64 0, .int .i64 k] 133) none)
  have T0 := Lib.hid (Two.new w 0 k 133)
  have HM := Lib.hid (fun W (hg : w.grownBy W none) => made_nob (h.new hg))
  obtain ⟨f00, f01⟩ := T0.out
  have fl := field_0n
  clear h
  go_enter Tryz.func120, Tryz.ntmps120
  go_wp2
  refine wp_region_held_drew (S := fun _ => True) (by kernel_rfl) trivial (fun _ => ?_)
  refine wpAnyH_take (i := 0) (v := .pointer (some ⟨w.heap.size, 0, none⟩)) rfl (by kernel_rfl) (by kernel_rfl) (by kernel_rfl) (fun _ _ _ h => h) (Or.inl ⟨by kernel_rfl, fun _ _ => by go_simp⟩) trivial ?_
  refine any_at (b := { tmps := #[.pointer P, .agg #[.int .i64 0, .int .i64 k], undef, .pointer (some ⟨w.heap.size, 0, none⟩), .bool false, .pointer (some ⟨w.heap.size, 0, none⟩), undef, undef, undef, undef, undef, undef, undef, undef, undef, undef, undef, undef, undef, undef, undef, undef], defers := [] }) (by kernel_rfl) ?_
  refine wpAnyH_ready (rs := [1]) (by kernel_rfl) (by simp) (AllReadyH.cons rfl (fun K hK => ?_) AllReadyH.nil)
  go_simp
  refine hK.out _ _ trivial (fun _ => ?_)
  clear hK K
  refine any_at (b := { tmps := #[.pointer P, .agg #[.int .i64 0, .int .i64 k], undef, .pointer (some ⟨w.heap.size, 0, none⟩), .bool false, .pointer (some ⟨w.heap.size, 0, none⟩), .int .i64 0, undef, undef, undef, undef, undef, undef, undef, undef, undef, undef, undef, undef, undef, undef, undef], defers := [] }) (by kernel_rfl) ?_
  refine wpAnyH_take (i := 2) (v := .bool true) rfl (by kernel_rfl) (by kernel_rfl) (by kernel_rfl) (fun _ _ _ h => h) (Or.inl ⟨by kernel_rfl, fun _ _ => by go_simp⟩) trivial ?_
  refine any_at (b := { tmps := #[.pointer P, .agg #[.int .i64 0, .int .i64 k], undef, .pointer (some ⟨w.heap.size, 0, none⟩), .bool false, .pointer (some ⟨w.heap.size, 0, none⟩), .int .i64 0, .bool true, undef, undef, undef, undef, undef, undef, undef, undef, undef, undef, undef, undef, undef, undef], defers := [] }) (by kernel_rfl) ?_
  refine wpAnyH_take (i := 3) (v := .bool true) rfl (by kernel_rfl) (by kernel_rfl) (by kernel_rfl) (fun _ _ _ h => h) (Or.inl ⟨by kernel_rfl, fun _ _ => by rfl⟩) trivial ?_
  refine any_at (b := { tmps := #[.pointer P, .agg #[.int .i64 0, .int .i64 k], undef, .pointer (some ⟨w.heap.size, 0, none⟩), .bool false, .pointer (some ⟨w.heap.size, 0, none⟩), .int .i64 0, .bool true, .bool true, undef, undef, undef, undef, undef, undef, undef, undef, undef, undef, undef, undef, undef], defers := [] }) (by kernel_rfl) ?_
  refine wpAnyH_take (i := 4) (v := .pointer (some ⟨w.heap.size, 0, none⟩)) rfl (by kernel_rfl) (by kernel_rfl) (by kernel_rfl) (fun _ _ _ h => h) (Or.inl ⟨by kernel_rfl, fun _ _ => by go_simp⟩) trivial ?_
  refine any_at (b := { tmps := #[.pointer P, .agg #[.int .i64 0, .int .i64 k], undef, .pointer (some ⟨w.heap.size, 0, none⟩), .bool false, .pointer (some ⟨w.heap.size, 0, none⟩), .int .i64 0, .bool true, .bool true, .pointer (some ⟨w.heap.size, 0, none⟩), undef, undef, undef, undef, undef, undef, undef, undef, undef, undef, undef, undef], defers := [] }) (by kernel_rfl) ?_
  refine wpAnyH_take (i := 6) (v := .pointer P) rfl (by kernel_rfl) (by kernel_rfl) (by kernel_rfl) (fun _ _ _ h => h) (Or.inl ⟨by kernel_rfl, fun _ _ => by rfl⟩) trivial ?_
  refine any_at (b := { tmps := #[.pointer P, .agg #[.int .i64 0, .int .i64 k], undef, .pointer (some ⟨w.heap.size, 0, none⟩), .bool false, .pointer (some ⟨w.heap.size, 0, none⟩), .int .i64 0, .bool true, .bool true, .pointer (some ⟨w.heap.size, 0, none⟩), undef, .pointer P, undef, undef, undef, undef, undef, undef, undef, undef, undef, undef], defers := [] }) (by kernel_rfl) ?_
  refine wpAnyH_ready (rs := [5, 7]) (by kernel_rfl) (by simp) (AllReadyH.cons rfl (fun K hK => ?_) (AllReadyH.cons rfl (fun K hK => ?_) AllReadyH.nil))
  · skip
    go_simp
    refine hK.out _ _ trivial (fun _ => ?_)
    clear hK K
    refine any_at (b := { tmps := #[.pointer P, .agg #[.int .i64 0, .int .i64 k], undef, .pointer (some ⟨w.heap.size, 0, none⟩), .bool false, .pointer (some ⟨w.heap.size, 0, none⟩), .int .i64 0, .bool true, .bool true, .pointer (some ⟨w.heap.size, 0, none⟩), .int .i64 0, .pointer P, undef, undef, undef, undef, undef, undef, undef, undef, undef, undef], defers := [] }) (by kernel_rfl) ?_
    refine wpAnyH_ready (rs := [7]) (by kernel_rfl) (by simp) (AllReadyH.cons rfl (fun K hK => ?_) AllReadyH.nil)
    go_simp
    (first | (go_at_call 93; (with_reducible refine (HM.out _ (G0.out.trans (grown_drewN _ _ _))).mono ?_); rintro e w2 ⟨rfl, hg⟩; have G2 := Lib.hid (G0.out.trans ((grown_drewN _ _ _).trans hg)); have f2 := T0.out.made ((grown_drewN _ _ _).trans hg); obtain ⟨f20, f21⟩ := f2; clear hg) | (go_at_call 93; (with_reducible refine (HM.out _ (G0.out.trans (grown_drew _ _))).mono ?_); rintro e w2 ⟨rfl, hg⟩; have G2 := Lib.hid (G0.out.trans ((grown_drew _ _).trans hg)); have f2 := T0.out.made ((grown_drew _ _).trans hg); obtain ⟨f20, f21⟩ := f2; clear hg))
    refine hK.out _ _ trivial (fun _ => ?_)
    clear hK K
    refine any_at (b := { tmps := #[.pointer P, .agg #[.int .i64 0, .int .i64 k], undef, .pointer (some ⟨w.heap.size, 0, none⟩), .bool false, .pointer (some ⟨w.heap.size, 0, none⟩), .int .i64 0, .bool true, .bool true, .pointer (some ⟨w.heap.size, 0, none⟩), .int .i64 0, .pointer P, .agg #[.int .i64 0, .map none], undef, undef, undef, undef, undef, undef, undef, undef, undef], defers := [] }) (by kernel_rfl) ?_
    refine wpAnyH_take (i := 8) (v := .int .i64 0) rfl (by kernel_rfl) (by kernel_rfl) (by kernel_rfl) (fun _ _ _ h => h) (Or.inl ⟨by kernel_rfl, fun _ _ => by go_simp⟩) trivial ?_
    refine any_at (b := { tmps := #[.pointer P, .agg #[.int .i64 0, .int .i64 k], undef, .pointer (some ⟨w.heap.size, 0, none⟩), .bool false, .pointer (some ⟨w.heap.size, 0, none⟩), .int .i64 0, .bool true, .bool true, .pointer (some ⟨w.heap.size, 0, none⟩), .int .i64 0, .pointer P, .agg #[.int .i64 0, .map none], .int .i64 0, undef, undef, undef, undef, undef, undef, undef, undef], defers := [] }) (by kernel_rfl) ?_
    refine wpAnyH_take (i := 9) (v := .bool false) rfl (by kernel_rfl) (by kernel_rfl) (by kernel_rfl) (fun _ _ _ h => h) (Or.inl ⟨by kernel_rfl, fun _ _ => by go_simp⟩) trivial ?_
    refine any_at (b := { tmps := #[.pointer P, .agg #[.int .i64 0, .int .i64 k], undef, .pointer (some ⟨w.heap.size, 0, none⟩), .bool false, .pointer (some ⟨w.heap.size, 0, none⟩), .int .i64 0, .bool true, .bool true, .pointer (some ⟨w.heap.size, 0, none⟩), .int .i64 0, .pointer P, .agg #[.int .i64 0, .map none], .int .i64 0, .bool false, undef, undef, undef, undef, undef, undef, undef], defers := [] }) (by kernel_rfl) ?_
    refine wpAnyH_take (i := 10) (v := .bool false) rfl (by kernel_rfl) (by kernel_rfl) (by kernel_rfl) (fun _ _ _ h => h) (Or.inl ⟨by kernel_rfl, fun _ _ => by go_simp⟩) trivial ?_
    refine any_at (b := { tmps := #[.pointer P, .agg #[.int .i64 0, .int .i64 k], undef, .pointer (some ⟨w.heap.size, 0, none⟩), .bool false, .pointer (some ⟨w.heap.size, 0, none⟩), .int .i64 0, .bool true, .bool true, .pointer (some ⟨w.heap.size, 0, none⟩), .int .i64 0, .pointer P, .agg #[.int .i64 0, .map none], .int .i64 0, .bool false, .bool false, undef, undef, undef, undef, undef, undef], defers := [] }) (by kernel_rfl) ?_
    refine wpAnyH_take (i := 11) (v := .bool false) rfl (by kernel_rfl) (by kernel_rfl) (by kernel_rfl) (fun _ _ _ h => h) (Or.inl ⟨by kernel_rfl, fun _ _ => by rfl⟩) trivial ?_
    refine any_at (b := { tmps := #[.pointer P, .agg #[.int .i64 0, .int .i64 k], undef, .pointer (some ⟨w.heap.size, 0, none⟩), .bool false, .pointer (some ⟨w.heap.size, 0, none⟩), .int .i64 0, .bool true, .bool true, .pointer (some ⟨w.heap.size, 0, none⟩), .int .i64 0, .pointer P, .agg #[.int .i64 0, .map none], .int .i64 0, .bool false, .bool false, .bool false, undef, undef, undef, undef, undef], defers := [] }) (by kernel_rfl) ?_
    refine wpAnyH_take (i := 12) (v := undef) rfl (by kernel_rfl) (by kernel_rfl) (by kernel_rfl) (fun _ _ _ h => h) (Or.inr ⟨by kernel_rfl, rfl⟩) trivial ?_
    refine any_at (b := { tmps := #[.pointer P, .agg #[.int .i64 0, .int .i64 k], undef, .pointer (some ⟨w.heap.size, 0, none⟩), .bool false, .pointer (some ⟨w.heap.size, 0, none⟩), .int .i64 0, .bool true, .bool true, .pointer (some ⟨w.heap.size, 0, none⟩), .int .i64 0, .pointer P, .agg #[.int .i64 0, .map none], .int .i64 0, .bool false, .bool false, .bool false, undef, undef, undef, undef, undef], defers := [] }) (by kernel_rfl) ?_
    refine wpAnyH_take (i := 13) (v := undef) rfl (by kernel_rfl) (by kernel_rfl) (by kernel_rfl) (fun _ _ _ h => h) (Or.inr ⟨by kernel_rfl, rfl⟩) trivial ?_
    refine any_at (b := { tmps := #[.pointer P, .agg #[.int .i64 0, .int .i64 k], undef, .pointer (some ⟨w.heap.size, 0, none⟩), .bool false, .pointer (some ⟨w.heap.size, 0, none⟩), .int .i64 0, .bool true, .bool true, .pointer (some ⟨w.heap.size, 0, none⟩), .int .i64 0, .pointer P, .agg #[.int .i64 0, .map none], .int .i64 0, .bool false, .bool false, .bool false, undef, undef, undef, undef, undef], defers := [] }) (by kernel_rfl) ?_
    refine wpAnyH_take (i := 14) (v := undef) rfl (by kernel_rfl) (by kernel_rfl) (by kernel_rfl) (fun _ _ _ h => h) (Or.inr ⟨by kernel_rfl, rfl⟩) trivial ?_
    refine any_at (b := { tmps := #[.pointer P, .agg #[.int .i64 0, .int .i64 k], undef, .pointer (some ⟨w.heap.size, 0, none⟩), .bool false, .pointer (some ⟨w.heap.size, 0, none⟩), .int .i64 0, .bool true, .bool true, .pointer (some ⟨w.heap.size, 0, none⟩), .int .i64 0, .pointer P, .agg #[.int .i64 0, .map none], .int .i64 0, .bool false, .bool false, .bool false, undef, undef, undef, undef, undef], defers := [] }) (by kernel_rfl) ?_
    refine wpAnyH_take (i := 15) (v := undef) rfl (by kernel_rfl) (by kernel_rfl) (by kernel_rfl) (fun _ _ _ h => h) (Or.inr ⟨by kernel_rfl, rfl⟩) trivial ?_
    refine any_at (b := { tmps := #[.pointer P, .agg #[.int .i64 0, .int .i64 k], undef, .pointer (some ⟨w.heap.size, 0, none⟩), .bool false, .pointer (some ⟨w.heap.size, 0, none⟩), .int .i64 0, .bool true, .bool true, .pointer (some ⟨w.heap.size, 0, none⟩), .int .i64 0, .pointer P, .agg #[.int .i64 0, .map none], .int .i64 0, .bool false, .bool false, .bool false, undef, undef, undef, undef, undef], defers := [] }) (by kernel_rfl) ?_
    refine wpAnyH_take (i := 16) (v := .bool false) rfl (by kernel_rfl) (by kernel_rfl) (by kernel_rfl) (fun _ _ _ h => h) (Or.inl ⟨by kernel_rfl, fun _ _ => by kernel_rfl⟩) trivial ?_
    refine any_at (b := { tmps := #[.pointer P, .agg #[.int .i64 0, .int .i64 k], undef, .pointer (some ⟨w.heap.size, 0, none⟩), .bool false, .pointer (some ⟨w.heap.size, 0, none⟩), .int .i64 0, .bool true, .bool true, .pointer (some ⟨w.heap.size, 0, none⟩), .int .i64 0, .pointer P, .agg #[.int .i64 0, .map none], .int .i64 0, .bool false, .bool false, .bool false, undef, undef, undef, undef, .bool false], defers := [] }) (by kernel_rfl) ?_
    refine wpAnyH_take (i := 17) (v := .bool false) rfl (by kernel_rfl) (by kernel_rfl) (by kernel_rfl) (fun _ _ _ h => h) (Or.inl ⟨by kernel_rfl, fun _ _ => by rfl⟩) trivial ?_
    refine any_at (b := { tmps := #[.pointer P, .agg #[.int .i64 0, .int .i64 k], undef, .pointer (some ⟨w.heap.size, 0, none⟩), .bool false, .pointer (some ⟨w.heap.size, 0, none⟩), .int .i64 0, .bool true, .bool true, .pointer (some ⟨w.heap.size, 0, none⟩), .int .i64 0, .pointer P, .agg #[.int .i64 0, .map none], .int .i64 0, .bool false, .bool false, .bool false, undef, undef, undef, undef, .bool false], defers := [] }) (by kernel_rfl) ?_
    refine wpAnyH_done (by kernel_rfl) ?_ _
    refine then_at (b := { tmps := #[.pointer P, .agg #[.int .i64 0, .int .i64 k], undef, .pointer (some ⟨w.heap.size, 0, none⟩), .bool false, .pointer (some ⟨w.heap.size, 0, none⟩), .int .i64 0, .bool true, .bool true, .pointer (some ⟨w.heap.size, 0, none⟩), .int .i64 0, .pointer P, .agg #[.int .i64 0, .map none], .int .i64 0, .bool false, .bool false, .bool false, undef, undef, undef, undef, .bool false], defers := [] }) (by kernel_rfl) ?_
    go_wp2
    go_ret
    exact ⟨rfl, G2.out⟩
  · skip
    go_simp
    (first | (go_at_call 93; (with_reducible refine (HM.out _ (G0.out.trans (grown_drewN _ _ _))).mono ?_); rintro e w2 ⟨rfl, hg⟩; have G2 := Lib.hid (G0.out.trans ((grown_drewN _ _ _).trans hg)); have f2 := T0.out.made ((grown_drewN _ _ _).trans hg); obtain ⟨f20, f21⟩ := f2; clear hg) | (go_at_call 93; (with_reducible refine (HM.out _ (G0.out.trans (grown_drew _ _))).mono ?_); rintro e w2 ⟨rfl, hg⟩; have G2 := Lib.hid (G0.out.trans ((grown_drew _ _).trans hg)); have f2 := T0.out.made ((grown_drew _ _).trans hg); obtain ⟨f20, f21⟩ := f2; clear hg))
    refine hK.out _ _ trivial (fun _ => ?_)
    clear hK K
    refine any_at (b := { tmps := #[.pointer P, .agg #[.int .i64 0, .int .i64 k], undef, .pointer (some ⟨w.heap.size, 0, none⟩), .bool false, .pointer (some ⟨w.heap.size, 0, none⟩), .int .i64 0, .bool true, .bool true, .pointer (some ⟨w.heap.size, 0, none⟩), undef, .pointer P, .agg #[.int .i64 0, .map none], undef, undef, undef, undef, undef, undef, undef, undef, undef], defers := [] }) (by kernel_rfl) ?_
    refine wpAnyH_take (i := 8) (v := .int .i64 0) rfl (by kernel_rfl) (by kernel_rfl) (by kernel_rfl) (fun _ _ _ h => h) (Or.inl ⟨by kernel_rfl, fun _ _ => by go_simp⟩) trivial ?_
    refine any_at (b := { tmps := #[.pointer P, .agg #[.int .i64 0, .int .i64 k], undef, .pointer (some ⟨w.heap.size, 0, none⟩), .bool false, .pointer (some ⟨w.heap.size, 0, none⟩), .int .i64 0, .bool true, .bool true, .pointer (some ⟨w.heap.size, 0, none⟩), undef, .pointer P, .agg #[.int .i64 0, .map none], .int .i64 0, undef, undef, undef, undef, undef, undef, undef, undef], defers := [] }) (by kernel_rfl) ?_
    refine wpAnyH_ready (rs := [5]) (by kernel_rfl) (by simp) (AllReadyH.cons rfl (fun K hK => ?_) AllReadyH.nil)
    go_simp
    refine hK.out _ _ trivial (fun _ => ?_)
    clear hK K
    refine any_at (b := { tmps := #[.pointer P, .agg #[.int .i64 0, .int .i64 k], undef, .pointer (some ⟨w.heap.size, 0, none⟩), .bool false, .pointer (some ⟨w.heap.size, 0, none⟩), .int .i64 0, .bool true, .bool true, .pointer (some ⟨w.heap.size, 0, none⟩), .int .i64 0, .pointer P, .agg #[.int .i64 0, .map none], .int .i64 0, undef, undef, undef, undef, undef, undef, undef, undef], defers := [] }) (by kernel_rfl) ?_
    refine wpAnyH_take (i := 9) (v := .bool false) rfl (by kernel_rfl) (by kernel_rfl) (by kernel_rfl) (fun _ _ _ h => h) (Or.inl ⟨by kernel_rfl, fun _ _ => by go_simp⟩) trivial ?_
    refine any_at (b := { tmps := #[.pointer P, .agg #[.int .i64 0, .int .i64 k], undef, .pointer (some ⟨w.heap.size, 0, none⟩), .bool false, .pointer (some ⟨w.heap.size, 0, none⟩), .int .i64 0, .bool true, .bool true, .pointer (some ⟨w.heap.size, 0, none⟩), .int .i64 0, .pointer P, .agg #[.int .i64 0, .map none], .int .i64 0, .bool false, undef, undef, undef, undef, undef, undef, undef], defers := [] }) (by kernel_rfl) ?_
    refine wpAnyH_take (i := 10) (v := .bool false) rfl (by kernel_rfl) (by kernel_rfl) (by kernel_rfl) (fun _ _ _ h => h) (Or.inl ⟨by kernel_rfl, fun _ _ => by go_simp⟩) trivial ?_
    refine any_at (b := { tmps := #[.pointer P, .agg #[.int .i64 0, .int .i64 k], undef, .pointer (some ⟨w.heap.size, 0, none⟩), .bool false, .pointer (some ⟨w.heap.size, 0, none⟩), .int .i64 0, .bool true, .bool true, .pointer (some ⟨w.heap.size, 0, none⟩), .int .i64 0, .pointer P, .agg #[.int .i64 0, .map none], .int .i64 0, .bool false, .bool false, undef, undef, undef, undef, undef, undef], defers := [] }) (by kernel_rfl) ?_
    refine wpAnyH_take (i := 11) (v := .bool false) rfl (by kernel_rfl) (by kernel_rfl) (by kernel_rfl) (fun _ _ _ h => h) (Or.inl ⟨by kernel_rfl, fun _ _ => by rfl⟩) trivial ?_
    refine any_at (b := { tmps := #[.pointer P, .agg #[.int .i64 0, .int .i64 k], undef, .pointer (some ⟨w.heap.size, 0, none⟩), .bool false, .pointer (some ⟨w.heap.size, 0, none⟩), .int .i64 0, .bool true, .bool true, .pointer (some ⟨w.heap.size, 0, none⟩), .int .i64 0, .pointer P, .agg #[.int .i64 0, .map none], .int .i64 0, .bool false, .bool false, .bool false, undef, undef, undef, undef, undef], defers := [] }) (by kernel_rfl) ?_
    refine wpAnyH_take (i := 12) (v := undef) rfl (by kernel_rfl) (by kernel_rfl) (by kernel_rfl) (fun _ _ _ h => h) (Or.inr ⟨by kernel_rfl, rfl⟩) trivial ?_
    refine any_at (b := { tmps := #[.pointer P, .agg #[.int .i64 0, .int .i64 k], undef, .pointer (some ⟨w.heap.size, 0, none⟩), .bool false, .pointer (some ⟨w.heap.size, 0, none⟩), .int .i64 0, .bool true, .bool true, .pointer (some ⟨w.heap.size, 0, none⟩), .int .i64 0, .pointer P, .agg #[.int .i64 0, .map none], .int .i64 0, .bool false, .bool false, .bool false, undef, undef, undef, undef, undef], defers := [] }) (by kernel_rfl) ?_
    refine wpAnyH_take (i := 13) (v := undef) rfl (by kernel_rfl) (by kernel_rfl) (by kernel_rfl) (fun _ _ _ h => h) (Or.inr ⟨by kernel_rfl, rfl⟩) trivial ?_
    refine any_at (b := { tmps := #[.pointer P, .agg #[.int .i64 0, .int .i64 k], undef, .pointer (some ⟨w.heap.size, 0, none⟩), .bool false, .pointer (some ⟨w.heap.size, 0, none⟩), .int .i64 0, .bool true, .bool true, .pointer (some ⟨w.heap.size, 0, none⟩), .int .i64 0, .pointer P, .agg #[.int .i64 0, .map none], .int .i64 0, .bool false, .bool false, .bool false, undef, undef, undef, undef, undef], defers := [] }) (by kernel_rfl) ?_
    refine wpAnyH_take (i := 14) (v := undef) rfl (by kernel_rfl) (by kernel_rfl) (by kernel_rfl) (fun _ _ _ h => h) (Or.inr ⟨by kernel_rfl, rfl⟩) trivial ?_
    refine any_at (b := { tmps := #[.pointer P, .agg #[.int .i64 0, .int .i64 k], undef, .pointer (some ⟨w.heap.size, 0, none⟩), .bool false, .pointer (some ⟨w.heap.size, 0, none⟩), .int .i64 0, .bool true, .bool true, .pointer (some ⟨w.heap.size, 0, none⟩), .int .i64 0, .pointer P, .agg #[.int .i64 0, .map none], .int .i64 0, .bool false, .bool false, .bool false, undef, undef, undef, undef, undef], defers := [] }) (by kernel_rfl) ?_
    refine wpAnyH_take (i := 15) (v := undef) rfl (by kernel_rfl) (by kernel_rfl) (by kernel_rfl) (fun _ _ _ h => h) (Or.inr ⟨by kernel_rfl, rfl⟩) trivial ?_
    refine any_at (b := { tmps := #[.pointer P, .agg #[.int .i64 0, .int .i64 k], undef, .pointer (some ⟨w.heap.size, 0, none⟩), .bool false, .pointer (some ⟨w.heap.size, 0, none⟩), .int .i64 0, .bool true, .bool true, .pointer (some ⟨w.heap.size, 0, none⟩), .int .i64 0, .pointer P, .agg #[.int .i64 0, .map none], .int .i64 0, .bool false, .bool false, .bool false, undef, undef, undef, undef, undef], defers := [] }) (by kernel_rfl) ?_
    refine wpAnyH_take (i := 16) (v := .bool false) rfl (by kernel_rfl) (by kernel_rfl) (by kernel_rfl) (fun _ _ _ h => h) (Or.inl ⟨by kernel_rfl, fun _ _ => by kernel_rfl⟩) trivial ?_
    refine any_at (b := { tmps := #[.pointer P, .agg #[.int .i64 0, .int .i64 k], undef, .pointer (some ⟨w.heap.size, 0, none⟩), .bool false, .pointer (some ⟨w.heap.size, 0, none⟩), .int .i64 0, .bool true, .bool true, .pointer (some ⟨w.heap.size, 0, none⟩), .int .i64 0, .pointer P, .agg #[.int .i64 0, .map none], .int .i64 0, .bool false, .bool false, .bool false, undef, undef, undef, undef, .bool false], defers := [] }) (by kernel_rfl) ?_
    refine wpAnyH_take (i := 17) (v := .bool false) rfl (by kernel_rfl) (by kernel_rfl) (by kernel_rfl) (fun _ _ _ h => h) (Or.inl ⟨by kernel_rfl, fun _ _ => by rfl⟩) trivial ?_
    refine any_at (b := { tmps := #[.pointer P, .agg #[.int .i64 0, .int .i64 k], undef, .pointer (some ⟨w.heap.size, 0, none⟩), .bool false, .pointer (some ⟨w.heap.size, 0, none⟩), .int .i64 0, .bool true, .bool true, .pointer (some ⟨w.heap.size, 0, none⟩), .int .i64 0, .pointer P, .agg #[.int .i64 0, .map none], .int .i64 0, .bool false, .bool false, .bool false, undef, undef, undef, undef, .bool false], defers := [] }) (by kernel_rfl) ?_
    refine wpAnyH_done (by kernel_rfl) ?_ _
    refine then_at (b := { tmps := #[.pointer P, .agg #[.int .i64 0, .int .i64 k], undef, .pointer (some ⟨w.heap.size, 0, none⟩), .bool false, .pointer (some ⟨w.heap.size, 0, none⟩), .int .i64 0, .bool true, .bool true, .pointer (some ⟨w.heap.size, 0, none⟩), .int .i64 0, .pointer P, .agg #[.int .i64 0, .map none], .int .i64 0, .bool false, .bool false, .bool false, undef, undef, undef, undef, .bool false], defers := [] }) (by kernel_rfl) ?_
    go_wp2
    go_ret
    exact ⟨rfl, G2.out⟩
theorem Set_nob (h : Nob w P) (k p : Int) :
    Calls Tryz.prog 81 #[.pointer P, .int .i64 0, .int .i64 k, .int .i64 p] w fun e w' => e = .returned (.bool false) ∧ w.grownBy w' none := by
  have G0 := Lib.hid (World.grownBy_alloc w (.cells #[.int .i64 0, .int .i64 k] 133) none)
  have HA := Lib.hid (has_nob (h.new G0.out) k)
  clear h
  go_enter Tryz.func81, Tryz.ntmps81
  go_wp2_with (first
    | (go_at_call 120; (with_reducible refine HA.out.mono ?_); rintro e w2 ⟨rfl, hg⟩; have G2 := Lib.hid (G0.out.trans hg); clear hg))
  go_ret
  exact ⟨rfl, G2.out⟩
theorem Page_nob (h : Nob w P) (t k : Int) (ht : fits t = true) (hk : fits k = true) :
    Calls Tryz.prog 116 #[.pointer P, .int .i64 t, .int .i64 k] w fun e w' => e = .returned (.int .i64 (-1)) ∧ w.grownBy w' none := by
  have HM := Lib.hid (made_nob h)
  have fl := field_1n
  have lk := fun (w : World) => Maps.look_nil (P := Tryz.prog) (w := w) (t := 114) (e := 3) true klaw Tryz.underlying114 (zeroE w) (key_mk ht hk)
  clear h
  go_enter Tryz.func116, Tryz.ntmps116
  go_wp2_with (first
    | (go_at_call 93; (with_reducible refine HM.out.mono ?_); rintro e w2 ⟨rfl, hg⟩; have G2 := Lib.hid hg; clear hg))
  go_ret
  exact ⟨rfl, G2.out⟩
theorem Owner_nob (h : Nob w P) (p : Int) :
    Calls Tryz.prog 108 #[.pointer P, .int .i64 p] w fun e w' => e = .returned (.tuple #[.int .i64 (-1), .int .i64 0]) ∧ w.grownBy w' none := by
  have HM := Lib.hid (made_nob h)
  have fl := field_1n
  have hrg := fun w => run_range_nilMap (P := Tryz.prog) w 114 133 3 Tryz.underlying114
  have hnx : ∀ (w : World) ty, (Instr.next (.pointer (some ⟨w.heap.size, 0, none⟩)) false ty).run Tryz.prog (w.alloc (.mapIter none 0 #[] 0)) = _ := fun w ty => run_next_nilMap w ty 0 0 #[]
  clear h
  go_enter Tryz.func108, Tryz.ntmps108
  go_wp2_with (first
    | (go_at_call 93; (with_reducible refine HM.out.mono ?_); rintro e w2 ⟨rfl, hg⟩; have G2 := Lib.hid hg; clear hg))
  refine wp_loop_rounds 1 ?_
  rw [rounds_succ]
  go_wp2
  go_ret2
  exact ⟨rfl, G2.out.trans (World.grownBy_alloc _ _ _)⟩
theorem Drop_nob (h : Nob w P) (t : Int) :
    Calls Tryz.prog 61 #[.pointer P, .int .i64 t] w fun e w' => e = .returned (.slice none 0 0) ∧ w.grownBy w' none := by
  have HM := Lib.hid (made_nob h)
  have fl := field_1n
  have hrg := fun w => run_range_nilMap (P := Tryz.prog) w 114 133 3 Tryz.underlying114
  have hnx : ∀ (w : World) ty, (Instr.next (.pointer (some ⟨w.heap.size, 0, none⟩)) false ty).run Tryz.prog (w.alloc (.mapIter none 0 #[] 0)) = _ := fun w ty => run_next_nilMap w ty 0 0 #[]
  have SN := Lib.hid (fun w => AnyM.slices_Sort_int_none Tryz.sort none 0 w)
  clear h
  go_enter Tryz.func61, Tryz.ntmps61
  go_wp2_with (first
    | (go_at_call 93; (with_reducible refine HM.out.mono ?_); rintro e w2 ⟨rfl, hg⟩; have G2 := Lib.hid hg; clear hg))
  refine wp_loop_rounds 1 ?_
  rw [rounds_succ]
  go_wp2_with (first
    | (go_at_call 94; refine (SN.out _).mono ?_; rintro e w3 ⟨rfl, rfl⟩))
  go_ret
  exact ⟨rfl, G2.out.trans (World.grownBy_alloc _ _ _)⟩
end
end Go.Proofs.YtfloleflcoiidaaGreatDoor.ca
