/- A cache that nobody made. -/
import Derived.Test.YtagahkofjgbfhaaCaG
namespace Go.Proofs.Ytagahkofjgbfhaa.ca
open Go.ChangeShapes Go.WideShapes Go.ChangeAt Go.RowKit Go.Maps gen calls cls Go.Sort
set_option linter.unusedVariables false
set_option maxHeartbeats 8000000
set_option maxRecDepth 100000
/-- No cache, or one of nothing. -/
def Nob (w : World) (p : Option Addr) : Prop := p = none ∨ ∃ a, p = some ⟨a, 0, none⟩ ∧ w.cell? ⟨a, 0, none⟩ = some (.int .i64 0) ∧ w.cell? ⟨a, 1, none⟩ = some (.map none)
theorem field_1n (w : World) : (Instr.field 46 (.agg #[.int .i64 0, .map none]) 1).run Try.prog w = .ok (.map none) w := by kernel_rfl
theorem field_0n (w : World) : (Instr.field 46 (.agg #[.int .i64 0, .map none]) 0).run Try.prog w = .ok (.int .i64 0) w := by kernel_rfl
section
variable {w w' : World} {P : Option Addr}
theorem Nob.new (h : Nob w P) (hg : w.grownBy w' none) : Nob w' P := by
  rcases h with h | ⟨a, e, h0, h1⟩
  · exact .inl h
  · exact .inr ⟨a, e, hg.cell h0 (by simp), hg.cell h1 (by simp)⟩
theorem made_nob (h : Nob w P) : Calls Try.prog 22 #[.pointer P] w fun e w' => e = .returned (.agg #[.int .i64 0, .map none]) ∧ w.grownBy w' none := by
  rcases h with rfl | ⟨a, rfl, h0, h1⟩
  · go_enter Try.func22, Try.ntmps22
    go_wp2
    refine bodyPost_ret (v := .agg #[.int .i64 0, .map none]) ?_ rfl ⟨rfl, World.grownBy_alloc _ _ _⟩
    simp [results, Try.results22, go_sem]
  · have c0 := fun o => (World.grownBy_alloc w o none).cell h0 (by simp)
    have c1 := fun o => (World.grownBy_alloc w o none).cell h1 (by simp)
    clear h0 h1
    go_enter Try.func22, Try.ntmps22
    go_wp2
    refine bodyPost_ret (v := .agg #[.int .i64 0, .map none]) ?_ rfl ⟨rfl, World.grownBy_alloc _ _ _⟩
    simp [results, Try.results22, go_sem]
theorem has_nob (h : Nob w P) (k : Int) :
    Calls Try.prog 24 #[.pointer P, .agg #[.int .i64 0, .int .i64 k]] w fun e w' => e = .returned (.bool false) ∧ w.grownBy w' none := by
  have G0 := Lib.hid (World.grownBy_alloc w (.cells #[.int .i64 0, .int .i64 k] 55) none)
  have T0 := Lib.hid (Two.new w 0 k 55)
  have HM := Lib.hid (fun W (hg : w.grownBy W none) => made_nob (h.new hg))
  obtain ⟨f00, f01⟩ := T0.out
  have fl := field_0n
  clear h
  go_enter Try.func24, Try.ntmps24
  go_wp2
  refine wp_region_held_drew (S := fun _ => True) (by kernel_rfl) trivial (fun _ => ?_)
  refine wpAnyH_take (i := 0) (v := .pointer (some ⟨w.heap.size, 0, none⟩)) rfl (by kernel_rfl) (by kernel_rfl) (by kernel_rfl) (fun _ _ _ h => h) (Or.inl ⟨by kernel_rfl, fun _ _ => by go_simp⟩) trivial ?_
  refine any_at (b := { tmps := #[.pointer P, .agg #[.int .i64 0, .int .i64 k], undef, .pointer (some ⟨w.heap.size, 0, none⟩), .bool false, .pointer (some ⟨w.heap.size, 0, none⟩), undef, undef, undef, undef, undef, undef, undef, undef, undef, undef, undef, undef, undef, undef, undef, undef], defers := [] }) (by kernel_rfl) ?_
  refine wpAnyH_ready (rs := [1]) (by kernel_rfl) (by simp) (AllReadyH.cons rfl (fun K hK => ?_) AllReadyH.nil)
  go_simp
  refine hK.out _ _ trivial (fun _ => ?_)
  clear hK K
  refine any_at (b := { tmps := #[.pointer P, .agg #[.int .i64 0, .int .i64 k], undef, .pointer (some ⟨w.heap.size, 0, none⟩), .bool false, .pointer (some ⟨w.heap.size, 0, none⟩), .int .i64 0, undef, undef, undef, undef, undef, undef, undef, undef, undef, undef, undef, undef, undef, undef, undef], defers := [] }) (by kernel_rfl) ?_
  refine wpAnyH_take (i := 2) (v := .bool true) rfl (by kernel_rfl) (by kernel_rfl) (by kernel_rfl) (fun _ _ _ h => h) (Or.inl ⟨by kernel_rfl, fun _ _ => by go_simp⟩) trivial ?_
  refine any_at (b := { tmps := #[.pointer P, .agg #[.int .i64 0, .int .i64 k], undef, .pointer (some ⟨w.heap.size, 0, none⟩), .bool false, .pointer (some ⟨w.heap.size, 0, none⟩), .int .i64 0, .bool true, undef, undef, undef, undef, undef, undef, undef, undef, undef, undef, undef, undef, undef, undef], defers := [] }) (by kernel_rfl) ?_
  refine wpAnyH_take (i := 3) (v := .bool true) rfl (by kernel_rfl) (by kernel_rfl) (by kernel_rfl) (fun _ _ _ h => h) (Or.inl ⟨by kernel_rfl, fun _ _ => by rfl⟩) trivial ?_
  refine any_at (b := { tmps := #[.pointer P, .agg #[.int .i64 0, .int .i64 k], undef, .pointer (some ⟨w.heap.size, 0, none⟩), .bool false, .pointer (some ⟨w.heap.size, 0, none⟩), .int .i64 0, .bool true, .bool true, undef, undef, undef, undef, undef, undef, undef, undef, undef, undef, undef, undef, undef], defers := [] }) (by kernel_rfl) ?_
  refine wpAnyH_take (i := 4) (v := .pointer (some ⟨w.heap.size, 0, none⟩)) rfl (by kernel_rfl) (by kernel_rfl) (by kernel_rfl) (fun _ _ _ h => h) (Or.inl ⟨by kernel_rfl, fun _ _ => by go_simp⟩) trivial ?_
  refine any_at (b := { tmps := #[.pointer P, .agg #[.int .i64 0, .int .i64 k], undef, .pointer (some ⟨w.heap.size, 0, none⟩), .bool false, .pointer (some ⟨w.heap.size, 0, none⟩), .int .i64 0, .bool true, .bool true, .pointer (some ⟨w.heap.size, 0, none⟩), undef, undef, undef, undef, undef, undef, undef, undef, undef, undef, undef, undef], defers := [] }) (by kernel_rfl) ?_
  refine wpAnyH_take (i := 6) (v := .pointer P) rfl (by kernel_rfl) (by kernel_rfl) (by kernel_rfl) (fun _ _ _ h => h) (Or.inl ⟨by kernel_rfl, fun _ _ => by rfl⟩) trivial ?_
  refine any_at (b := { tmps := #[.pointer P, .agg #[.int .i64 0, .int .i64 k], undef, .pointer (some ⟨w.heap.size, 0, none⟩), .bool false, .pointer (some ⟨w.heap.size, 0, none⟩), .int .i64 0, .bool true, .bool true, .pointer (some ⟨w.heap.size, 0, none⟩), undef, .pointer P, undef, undef, undef, undef, undef, undef, undef, undef, undef, undef], defers := [] }) (by kernel_rfl) ?_
  refine wpAnyH_ready (rs := [5, 7]) (by kernel_rfl) (by simp) (AllReadyH.cons rfl (fun K hK => ?_) (AllReadyH.cons rfl (fun K hK => ?_) AllReadyH.nil))
  · skip
    go_simp
    refine hK.out _ _ trivial (fun _ => ?_)
    clear hK K
    refine any_at (b := { tmps := #[.pointer P, .agg #[.int .i64 0, .int .i64 k], undef, .pointer (some ⟨w.heap.size, 0, none⟩), .bool false, .pointer (some ⟨w.heap.size, 0, none⟩), .int .i64 0, .bool true, .bool true, .pointer (some ⟨w.heap.size, 0, none⟩), .int .i64 0, .pointer P, undef, undef, undef, undef, undef, undef, undef, undef, undef, undef], defers := [] }) (by kernel_rfl) ?_
    refine wpAnyH_ready (rs := [7]) (by kernel_rfl) (by simp) (AllReadyH.cons rfl (fun K hK => ?_) AllReadyH.nil)
    go_simp
    (first | (go_at_call 22; (with_reducible refine (HM.out _ (G0.out.trans (grown_drewN _ _ _))).mono ?_); rintro e w2 ⟨rfl, hg⟩; have G2 := Lib.hid (G0.out.trans ((grown_drewN _ _ _).trans hg)); have f2 := T0.out.made ((grown_drewN _ _ _).trans hg); obtain ⟨f20, f21⟩ := f2; clear hg) | (go_at_call 22; (with_reducible refine (HM.out _ (G0.out.trans (grown_drew _ _))).mono ?_); rintro e w2 ⟨rfl, hg⟩; have G2 := Lib.hid (G0.out.trans ((grown_drew _ _).trans hg)); have f2 := T0.out.made ((grown_drew _ _).trans hg); obtain ⟨f20, f21⟩ := f2; clear hg))
    refine hK.out _ _ trivial (fun _ => ?_)
    clear hK K
    refine any_at (b := { tmps := #[.pointer P, .agg #[.int .i64 0, .int .i64 k], undef, .pointer (some ⟨w.heap.size, 0, none⟩), .bool false, .pointer (some ⟨w.heap.size, 0, none⟩), .int .i64 0, .bool true, .bool true, .pointer (some ⟨w.heap.size, 0, none⟩), .int .i64 0, .pointer P, .agg #[.int .i64 0, .map none], undef, undef, undef, undef, undef, undef, undef, undef, undef], defers := [] }) (by kernel_rfl) ?_
    refine wpAnyH_take (i := 8) (v := .int .i64 0) rfl (by kernel_rfl) (by kernel_rfl) (by kernel_rfl) (fun _ _ _ h => h) (Or.inl ⟨by kernel_rfl, fun _ _ => by go_simp⟩) trivial ?_
    refine any_at (b := { tmps := #[.pointer P, .agg #[.int .i64 0, .int .i64 k], undef, .pointer (some ⟨w.heap.size, 0, none⟩), .bool false, .pointer (some ⟨w.heap.size, 0, none⟩), .int .i64 0, .bool true, .bool true, .pointer (some ⟨w.heap.size, 0, none⟩), .int .i64 0, .pointer P, .agg #[.int .i64 0, .map none], .int .i64 0, undef, undef, undef, undef, undef, undef, undef, undef], defers := [] }) (by kernel_rfl) ?_
    refine wpAnyH_take (i := 9) (v := .bool false) rfl (by kernel_rfl) (by kernel_rfl) (by kernel_rfl) (fun _ _ _ h => h) (Or.inl ⟨by kernel_rfl, fun _ _ => by go_simp⟩) trivial ?_
    refine any_at (b := { tmps := #[.pointer P, .agg #[.int .i64 0, .int .i64 k], undef, .pointer (some ⟨w.heap.size, 0, none⟩), .bool false, .pointer (some ⟨w.heap.size, 0, none⟩), .int .i64 0, .bool true, .bool true, .pointer (some ⟨w.heap.size, 0, none⟩), .int .i64 0, .pointer P, .agg #[.int .i64 0, .map none], .int .i64 0, .bool false, undef, undef, undef, undef, undef, undef, undef], defers := [] }) (by kernel_rfl) ?_
    refine wpAnyH_take (i := 10) (v := .bool false) rfl (by kernel_rfl) (by kernel_rfl) (by kernel_rfl) (fun _ _ _ h => h) (Or.inl ⟨by kernel_rfl, fun _ _ => by go_simp⟩) trivial ?_
    refine any_at (b := { tmps := #[.pointer P, .agg #[.int .i64 0, .int .i64 k], undef, .pointer (some ⟨w.heap.size, 0, none⟩), .bool false, .pointer (some ⟨w.heap.size, 0, none⟩), .int .i64 0, .bool true, .bool true, .pointer (some ⟨w.heap.size, 0, none⟩), .int .i64 0, .pointer P, .agg #[.int .i64 0, .map none], .int .i64 0, .bool false, .bool false, undef, undef, undef, undef, undef, undef], defers := [] }) (by kernel_rfl) ?_
    refine wpAnyH_take (i := 11) (v := .bool false) rfl (by kernel_rfl) (by kernel_rfl) (by kernel_rfl) (fun _ _ _ h => h) (Or.inl ⟨by kernel_rfl, fun _ _ => by rfl⟩) trivial ?_
    refine any_at (b := { tmps := #[.pointer P, .agg #[.int .i64 0, .int .i64 k], undef, .pointer (some ⟨w.heap.size, 0, none⟩), .bool false, .pointer (some ⟨w.heap.size, 0, none⟩), .int .i64 0, .bool true, .bool true, .pointer (some ⟨w.heap.size, 0, none⟩), .int .i64 0, .pointer P, .agg #[.int .i64 0, .map none], .int .i64 0, .bool false, .bool false, .bool false, undef, undef, undef, undef, undef], defers := [] }) (by kernel_rfl) ?_
    refine wpAnyH_take (i := 12) (v := undef) rfl (by kernel_rfl) (by kernel_rfl) (by kernel_rfl) (fun _ _ _ h => h) (Or.inr ⟨by kernel_rfl, rfl⟩) trivial ?_
    refine any_at (b := { tmps := #[.pointer P, .agg #[.int .i64 0, .int .i64 k], undef, .pointer (some ⟨w.heap.size, 0, none⟩), .bool false, .pointer (some ⟨w.heap.size, 0, none⟩), .int .i64 0, .bool true, .bool true, .pointer (some ⟨w.heap.size, 0, none⟩), .int .i64 0, .pointer P, .agg #[.int .i64 0, .map none], .int .i64 0, .bool false, .bool false, .bool false, undef, undef, undef, undef, undef], defers := [] }) (by kernel_rfl) ?_
    refine wpAnyH_take (i := 13) (v := undef) rfl (by kernel_rfl) (by kernel_rfl) (by kernel_rfl) (fun _ _ _ h => h) (Or.inr ⟨by kernel_rfl, rfl⟩) trivial ?_
    refine any_at (b := { tmps := #[.pointer P, .agg #[.int .i64 0, .int .i64 k], undef, .pointer (some ⟨w.heap.size, 0, none⟩), .bool false, .pointer (some ⟨w.heap.size, 0, none⟩), .int .i64 0, .bool true, .bool true, .pointer (some ⟨w.heap.size, 0, none⟩), .int .i64 0, .pointer P, .agg #[.int .i64 0, .map none], .int .i64 0, .bool false, .bool false, .bool false, undef, undef, undef, undef, undef], defers := [] }) (by kernel_rfl) ?_
    refine wpAnyH_take (i := 14) (v := undef) rfl (by kernel_rfl) (by kernel_rfl) (by kernel_rfl) (fun _ _ _ h => h) (Or.inr ⟨by kernel_rfl, rfl⟩) trivial ?_
    refine any_at (b := { tmps := #[.pointer P, .agg #[.int .i64 0, .int .i64 k], undef, .pointer (some ⟨w.heap.size, 0, none⟩), .bool false, .pointer (some ⟨w.heap.size, 0, none⟩), .int .i64 0, .bool true, .bool true, .pointer (some ⟨w.heap.size, 0, none⟩), .int .i64 0, .pointer P, .agg #[.int .i64 0, .map none], .int .i64 0, .bool false, .bool false, .bool false, undef, undef, undef, undef, undef], defers := [] }) (by kernel_rfl) ?_
    refine wpAnyH_take (i := 15) (v := undef) rfl (by kernel_rfl) (by kernel_rfl) (by kernel_rfl) (fun _ _ _ h => h) (Or.inr ⟨by kernel_rfl, rfl⟩) trivial ?_
    refine any_at (b := { tmps := #[.pointer P, .agg #[.int .i64 0, .int .i64 k], undef, .pointer (some ⟨w.heap.size, 0, none⟩), .bool false, .pointer (some ⟨w.heap.size, 0, none⟩), .int .i64 0, .bool true, .bool true, .pointer (some ⟨w.heap.size, 0, none⟩), .int .i64 0, .pointer P, .agg #[.int .i64 0, .map none], .int .i64 0, .bool false, .bool false, .bool false, undef, undef, undef, undef, undef], defers := [] }) (by kernel_rfl) ?_
    refine wpAnyH_take (i := 16) (v := .bool false) rfl (by kernel_rfl) (by kernel_rfl) (by kernel_rfl) (fun _ _ _ h => h) (Or.inl ⟨by kernel_rfl, fun _ _ => by kernel_rfl⟩) trivial ?_
    refine any_at (b := { tmps := #[.pointer P, .agg #[.int .i64 0, .int .i64 k], undef, .pointer (some ⟨w.heap.size, 0, none⟩), .bool false, .pointer (some ⟨w.heap.size, 0, none⟩), .int .i64 0, .bool true, .bool true, .pointer (some ⟨w.heap.size, 0, none⟩), .int .i64 0, .pointer P, .agg #[.int .i64 0, .map none], .int .i64 0, .bool false, .bool false, .bool false, undef, undef, undef, undef, .bool false], defers := [] }) (by kernel_rfl) ?_
    refine wpAnyH_take (i := 17) (v := .bool false) rfl (by kernel_rfl) (by kernel_rfl) (by kernel_rfl) (fun _ _ _ h => h) (Or.inl ⟨by kernel_rfl, fun _ _ => by rfl⟩) trivial ?_
    refine any_at (b := { tmps := #[.pointer P, .agg #[.int .i64 0, .int .i64 k], undef, .pointer (some ⟨w.heap.size, 0, none⟩), .bool false, .pointer (some ⟨w.heap.size, 0, none⟩), .int .i64 0, .bool true, .bool true, .pointer (some ⟨w.heap.size, 0, none⟩), .int .i64 0, .pointer P, .agg #[.int .i64 0, .map none], .int .i64 0, .bool false, .bool false, .bool false, undef, undef, undef, undef, .bool false], defers := [] }) (by kernel_rfl) ?_
    refine wpAnyH_done (by kernel_rfl) ?_ _
    refine then_at (b := { tmps := #[.pointer P, .agg #[.int .i64 0, .int .i64 k], undef, .pointer (some ⟨w.heap.size, 0, none⟩), .bool false, .pointer (some ⟨w.heap.size, 0, none⟩), .int .i64 0, .bool true, .bool true, .pointer (some ⟨w.heap.size, 0, none⟩), .int .i64 0, .pointer P, .agg #[.int .i64 0, .map none], .int .i64 0, .bool false, .bool false, .bool false, undef, undef, undef, undef, .bool false], defers := [] }) (by kernel_rfl) ?_
    go_wp2
    go_ret
    exact ⟨rfl, G2.out⟩
  · skip
    go_simp
    (first | (go_at_call 22; (with_reducible refine (HM.out _ (G0.out.trans (grown_drewN _ _ _))).mono ?_); rintro e w2 ⟨rfl, hg⟩; have G2 := Lib.hid (G0.out.trans ((grown_drewN _ _ _).trans hg)); have f2 := T0.out.made ((grown_drewN _ _ _).trans hg); obtain ⟨f20, f21⟩ := f2; clear hg) | (go_at_call 22; (with_reducible refine (HM.out _ (G0.out.trans (grown_drew _ _))).mono ?_); rintro e w2 ⟨rfl, hg⟩; have G2 := Lib.hid (G0.out.trans ((grown_drew _ _).trans hg)); have f2 := T0.out.made ((grown_drew _ _).trans hg); obtain ⟨f20, f21⟩ := f2; clear hg))
    refine hK.out _ _ trivial (fun _ => ?_)
    clear hK K
    refine any_at (b := { tmps := #[.pointer P, .agg #[.int .i64 0, .int .i64 k], undef, .pointer (some ⟨w.heap.size, 0, none⟩), .bool false, .pointer (some ⟨w.heap.size, 0, none⟩), .int .i64 0, .bool true, .bool true, .pointer (some ⟨w.heap.size, 0, none⟩), undef, .pointer P, .agg #[.int .i64 0, .map none], undef, undef, undef, undef, undef, undef, undef, undef, undef], defers := [] }) (by kernel_rfl) ?_
    refine wpAnyH_take (i := 8) (v := .int .i64 0) rfl (by kernel_rfl) (by kernel_rfl) (by kernel_rfl) (fun _ _ _ h => h) (Or.inl ⟨by kernel_rfl, fun _ _ => by go_simp⟩) trivial ?_
    refine any_at (b := { tmps := #[.pointer P, .agg #[.int .i64 0, .int .i64 k], undef, .pointer (some ⟨w.heap.size, 0, none⟩), .bool false, .pointer (some ⟨w.heap.size, 0, none⟩), .int .i64 0, .bool true, .bool true, .pointer (some ⟨w.heap.size, 0, none⟩), undef, .pointer P, .agg #[.int .i64 0, .map none], .int .i64 0, undef, undef, undef, undef, undef, undef, undef, undef], defers := [] }) (by kernel_rfl) ?_
    refine wpAnyH_ready (rs := [5]) (by kernel_rfl) (by simp) (AllReadyH.cons rfl (fun K hK => ?_) AllReadyH.nil)
    go_simp
    refine hK.out _ _ trivial (fun _ => ?_)
    clear hK K
    refine any_at (b := { tmps := #[.pointer P, .agg #[.int .i64 0, .int .i64 k], undef, .pointer (some ⟨w.heap.size, 0, none⟩), .bool false, .pointer (some ⟨w.heap.size, 0, none⟩), .int .i64 0, .bool true, .bool true, .pointer (some ⟨w.heap.size, 0, none⟩), .int .i64 0, .pointer P, .agg #[.int .i64 0, .map none], .int .i64 0, undef, undef, undef, undef, undef, undef, undef, undef], defers := [] }) (by kernel_rfl) ?_
    refine wpAnyH_take (i := 9) (v := .bool false) rfl (by kernel_rfl) (by kernel_rfl) (by kernel_rfl) (fun _ _ _ h => h) (Or.inl ⟨by kernel_rfl, fun _ _ => by go_simp⟩) trivial ?_
    refine any_at (b := { tmps := #[.pointer P, .agg #[.int .i64 0, .int .i64 k], undef, .pointer (some ⟨w.heap.size, 0, none⟩), .bool false, .pointer (some ⟨w.heap.size, 0, none⟩), .int .i64 0, .bool true, .bool true, .pointer (some ⟨w.heap.size, 0, none⟩), .int .i64 0, .pointer P, .agg #[.int .i64 0, .map none], .int .i64 0, .bool false, undef, undef, undef, undef, undef, undef, undef], defers := [] }) (by kernel_rfl) ?_
    refine wpAnyH_take (i := 10) (v := .bool false) rfl (by kernel_rfl) (by kernel_rfl) (by kernel_rfl) (fun _ _ _ h => h) (Or.inl ⟨by kernel_rfl, fun _ _ => by go_simp⟩) trivial ?_
    refine any_at (b := { tmps := #[.pointer P, .agg #[.int .i64 0, .int .i64 k], undef, .pointer (some ⟨w.heap.size, 0, none⟩), .bool false, .pointer (some ⟨w.heap.size, 0, none⟩), .int .i64 0, .bool true, .bool true, .pointer (some ⟨w.heap.size, 0, none⟩), .int .i64 0, .pointer P, .agg #[.int .i64 0, .map none], .int .i64 0, .bool false, .bool false, undef, undef, undef, undef, undef, undef], defers := [] }) (by kernel_rfl) ?_
    refine wpAnyH_take (i := 11) (v := .bool false) rfl (by kernel_rfl) (by kernel_rfl) (by kernel_rfl) (fun _ _ _ h => h) (Or.inl ⟨by kernel_rfl, fun _ _ => by rfl⟩) trivial ?_
    refine any_at (b := { tmps := #[.pointer P, .agg #[.int .i64 0, .int .i64 k], undef, .pointer (some ⟨w.heap.size, 0, none⟩), .bool false, .pointer (some ⟨w.heap.size, 0, none⟩), .int .i64 0, .bool true, .bool true, .pointer (some ⟨w.heap.size, 0, none⟩), .int .i64 0, .pointer P, .agg #[.int .i64 0, .map none], .int .i64 0, .bool false, .bool false, .bool false, undef, undef, undef, undef, undef], defers := [] }) (by kernel_rfl) ?_
    refine wpAnyH_take (i := 12) (v := undef) rfl (by kernel_rfl) (by kernel_rfl) (by kernel_rfl) (fun _ _ _ h => h) (Or.inr ⟨by kernel_rfl, rfl⟩) trivial ?_
    refine any_at (b := { tmps := #[.pointer P, .agg #[.int .i64 0, .int .i64 k], undef, .pointer (some ⟨w.heap.size, 0, none⟩), .bool false, .pointer (some ⟨w.heap.size, 0, none⟩), .int .i64 0, .bool true, .bool true, .pointer (some ⟨w.heap.size, 0, none⟩), .int .i64 0, .pointer P, .agg #[.int .i64 0, .map none], .int .i64 0, .bool false, .bool false, .bool false, undef, undef, undef, undef, undef], defers := [] }) (by kernel_rfl) ?_
    refine wpAnyH_take (i := 13) (v := undef) rfl (by kernel_rfl) (by kernel_rfl) (by kernel_rfl) (fun _ _ _ h => h) (Or.inr ⟨by kernel_rfl, rfl⟩) trivial ?_
    refine any_at (b := { tmps := #[.pointer P, .agg #[.int .i64 0, .int .i64 k], undef, .pointer (some ⟨w.heap.size, 0, none⟩), .bool false, .pointer (some ⟨w.heap.size, 0, none⟩), .int .i64 0, .bool true, .bool true, .pointer (some ⟨w.heap.size, 0, none⟩), .int .i64 0, .pointer P, .agg #[.int .i64 0, .map none], .int .i64 0, .bool false, .bool false, .bool false, undef, undef, undef, undef, undef], defers := [] }) (by kernel_rfl) ?_
    refine wpAnyH_take (i := 14) (v := undef) rfl (by kernel_rfl) (by kernel_rfl) (by kernel_rfl) (fun _ _ _ h => h) (Or.inr ⟨by kernel_rfl, rfl⟩) trivial ?_
    refine any_at (b := { tmps := #[.pointer P, .agg #[.int .i64 0, .int .i64 k], undef, .pointer (some ⟨w.heap.size, 0, none⟩), .bool false, .pointer (some ⟨w.heap.size, 0, none⟩), .int .i64 0, .bool true, .bool true, .pointer (some ⟨w.heap.size, 0, none⟩), .int .i64 0, .pointer P, .agg #[.int .i64 0, .map none], .int .i64 0, .bool false, .bool false, .bool false, undef, undef, undef, undef, undef], defers := [] }) (by kernel_rfl) ?_
    refine wpAnyH_take (i := 15) (v := undef) rfl (by kernel_rfl) (by kernel_rfl) (by kernel_rfl) (fun _ _ _ h => h) (Or.inr ⟨by kernel_rfl, rfl⟩) trivial ?_
    refine any_at (b := { tmps := #[.pointer P, .agg #[.int .i64 0, .int .i64 k], undef, .pointer (some ⟨w.heap.size, 0, none⟩), .bool false, .pointer (some ⟨w.heap.size, 0, none⟩), .int .i64 0, .bool true, .bool true, .pointer (some ⟨w.heap.size, 0, none⟩), .int .i64 0, .pointer P, .agg #[.int .i64 0, .map none], .int .i64 0, .bool false, .bool false, .bool false, undef, undef, undef, undef, undef], defers := [] }) (by kernel_rfl) ?_
    refine wpAnyH_take (i := 16) (v := .bool false) rfl (by kernel_rfl) (by kernel_rfl) (by kernel_rfl) (fun _ _ _ h => h) (Or.inl ⟨by kernel_rfl, fun _ _ => by kernel_rfl⟩) trivial ?_
    refine any_at (b := { tmps := #[.pointer P, .agg #[.int .i64 0, .int .i64 k], undef, .pointer (some ⟨w.heap.size, 0, none⟩), .bool false, .pointer (some ⟨w.heap.size, 0, none⟩), .int .i64 0, .bool true, .bool true, .pointer (some ⟨w.heap.size, 0, none⟩), .int .i64 0, .pointer P, .agg #[.int .i64 0, .map none], .int .i64 0, .bool false, .bool false, .bool false, undef, undef, undef, undef, .bool false], defers := [] }) (by kernel_rfl) ?_
    refine wpAnyH_take (i := 17) (v := .bool false) rfl (by kernel_rfl) (by kernel_rfl) (by kernel_rfl) (fun _ _ _ h => h) (Or.inl ⟨by kernel_rfl, fun _ _ => by rfl⟩) trivial ?_
    refine any_at (b := { tmps := #[.pointer P, .agg #[.int .i64 0, .int .i64 k], undef, .pointer (some ⟨w.heap.size, 0, none⟩), .bool false, .pointer (some ⟨w.heap.size, 0, none⟩), .int .i64 0, .bool true, .bool true, .pointer (some ⟨w.heap.size, 0, none⟩), .int .i64 0, .pointer P, .agg #[.int .i64 0, .map none], .int .i64 0, .bool false, .bool false, .bool false, undef, undef, undef, undef, .bool false], defers := [] }) (by kernel_rfl) ?_
    refine wpAnyH_done (by kernel_rfl) ?_ _
    refine then_at (b := { tmps := #[.pointer P, .agg #[.int .i64 0, .int .i64 k], undef, .pointer (some ⟨w.heap.size, 0, none⟩), .bool false, .pointer (some ⟨w.heap.size, 0, none⟩), .int .i64 0, .bool true, .bool true, .pointer (some ⟨w.heap.size, 0, none⟩), .int .i64 0, .pointer P, .agg #[.int .i64 0, .map none], .int .i64 0, .bool false, .bool false, .bool false, undef, undef, undef, undef, .bool false], defers := [] }) (by kernel_rfl) ?_
    go_wp2
    go_ret
    exact ⟨rfl, G2.out⟩
theorem Set_nob (h : Nob w P) (k p : Int) :
    Calls Try.prog 12 #[.pointer P, .int .i64 0, .int .i64 k, .int .i64 p] w fun e w' => e = .returned (.bool false) ∧ w.grownBy w' none := by
  have G0 := Lib.hid (World.grownBy_alloc w (.cells #[.int .i64 0, .int .i64 k] 55) none)
  have HA := Lib.hid (has_nob (h.new G0.out) k)
  clear h
  go_enter Try.func12, Try.ntmps12
  go_wp2_with (first
    | (go_at_call 24; (with_reducible refine HA.out.mono ?_); rintro e w2 ⟨rfl, hg⟩; have G2 := Lib.hid (G0.out.trans hg); clear hg))
  go_ret
  exact ⟨rfl, G2.out⟩
theorem Page_nob (h : Nob w P) (t k : Int) (ht : fits t = true) (hk : fits k = true) :
    Calls Try.prog 14 #[.pointer P, .int .i64 t, .int .i64 k] w fun e w' => e = .returned (.int .i64 (-1)) ∧ w.grownBy w' none := by
  have HM := Lib.hid (made_nob h)
  have fl := field_1n
  have lk := fun (w : World) => Maps.look_nil (P := Try.prog) (w := w) (t := 44) (e := 3) true klaw Try.underlying44 (zeroE w) (key_mk ht hk)
  clear h
  go_enter Try.func14, Try.ntmps14
  go_wp2_with (first
    | (go_at_call 22; (with_reducible refine HM.out.mono ?_); rintro e w2 ⟨rfl, hg⟩; have G2 := Lib.hid hg; clear hg))
  go_ret
  exact ⟨rfl, G2.out⟩
theorem Owner_nob (h : Nob w P) (p : Int) :
    Calls Try.prog 13 #[.pointer P, .int .i64 p] w fun e w' => e = .returned (.tuple #[.int .i64 (-1), .int .i64 0]) ∧ w.grownBy w' none := by
  have HM := Lib.hid (made_nob h)
  have fl := field_1n
  have hrg := fun w => run_range_nilMap (P := Try.prog) w 44 55 3 Try.underlying44
  have hnx : ∀ (w : World) ty, (Instr.next (.pointer (some ⟨w.heap.size, 0, none⟩)) false ty).run Try.prog (w.alloc (.mapIter none 0 #[] 0)) = _ := fun w ty => run_next_nilMap w ty 0 0 #[]
  clear h
  go_enter Try.func13, Try.ntmps13
  go_wp2_with (first
    | (go_at_call 22; (with_reducible refine HM.out.mono ?_); rintro e w2 ⟨rfl, hg⟩; have G2 := Lib.hid hg; clear hg))
  refine wp_loop_rounds 1 ?_
  rw [rounds_succ]
  go_wp2
  go_ret2
  exact ⟨rfl, G2.out.trans (World.grownBy_alloc _ _ _)⟩
theorem Drop_nob (h : Nob w P) (t : Int) :
    Calls Try.prog 11 #[.pointer P, .int .i64 t] w fun e w' => e = .returned (.slice none 0 0) ∧ w.grownBy w' none := by
  have HM := Lib.hid (made_nob h)
  have fl := field_1n
  have hrg := fun w => run_range_nilMap (P := Try.prog) w 44 55 3 Try.underlying44
  have hnx : ∀ (w : World) ty, (Instr.next (.pointer (some ⟨w.heap.size, 0, none⟩)) false ty).run Try.prog (w.alloc (.mapIter none 0 #[] 0)) = _ := fun w ty => run_next_nilMap w ty 0 0 #[]
  have SN := Lib.hid (fun w => AnyM.slices_Sort_int_none Try.sort none 0 w)
  clear h
  go_enter Try.func11, Try.ntmps11
  go_wp2_with (first
    | (go_at_call 22; (with_reducible refine HM.out.mono ?_); rintro e w2 ⟨rfl, hg⟩; have G2 := Lib.hid hg; clear hg))
  refine wp_loop_rounds 1 ?_
  rw [rounds_succ]
  go_wp2_with (first
    | (go_at_call 23; refine (SN.out _).mono ?_; rintro e w3 ⟨rfl, rfl⟩))
  go_ret
  exact ⟨rfl, G2.out.trans (World.grownBy_alloc _ _ _)⟩
theorem values1_nil (k l Bm : Nat) (J : List Int → World → Prop) (W : World) (hJ : AbidesFrom W.heap.size J) (hm : W.cell? ⟨Bm, 0, none⟩ = some (.map none)) (h0 : J [] W) :
    CallsIn Fence.wide k Try.prog 36 #[.func (.yield l) #[] #[], .pointer (some ⟨Bm, 0, none⟩)] W fun e W' => (∃ v, e = .returned v) ∧ ∃ ss : List Int, ss = [] ∧ J ss W' := by
  refine callsIn_of_wp Try.func36 rfl trivial ?_ rfl
  simp only [Try.ntmps36, List.size_toArray, List.length_cons, List.length_nil, Nat.reduceAdd, Nat.reduceSub, Array.replicate_succ, Array.replicate_zero, List.push_toArray, List.append_toArray, List.nil_append, List.cons_append]
  have hrg := run_range_nilMap (P := Try.prog) W 44 55 3 Try.underlying44
  have hnx : ∀ ty, (Instr.next (.pointer (some ⟨W.heap.size, 0, none⟩)) false ty).run Try.prog (W.alloc (.mapIter none 0 #[] 0)) = _ := fun ty => run_next_nilMap _ ty 0 0 #[]
  gi_wp2
  refine wpIn_loop_rounds 1 ?_
  rw [roundsIn_succ]
  gi_wp2
  go_end0
  exact ⟨⟨_, rfl⟩, [], rfl, hJ [] W _ none h0 (World.grownBy_alloc W _ none) (fun r e => by cases e)⟩
theorem Values_nil (w : World) :
    Calls Try.prog 26 #[.map none] w fun e w' => e = .returned (.func (.func 36) #[] #[.pointer (some ⟨w.heap.size, 0, none⟩)]) ∧ w' = w.alloc (.cells #[.map none] 44) := by
  go_enter Try.func26, Try.ntmps26
  go_wp2
  go_ret
  exact ⟨rfl, rfl⟩
theorem Sorted_nil {Bm : Nat} (hm : w.cell? ⟨Bm, 0, none⟩ = some (.map none)) (hB : Bm < w.heap.size) :
    Calls Try.prog 25 #[.func (.func 36) #[] #[.pointer (some ⟨Bm, 0, none⟩)]] w fun e w' => e = .returned (.slice none 0 0) ∧ w.grownBy w' none := by
  refine (callsIn_wide (n := 5)).1 ?_
  have hseq : SeqGives Fence.wide 2 Try.prog 36 #[.pointer (some ⟨Bm, 0, none⟩)] encZ (fun ss : List Int => ss = []) 0 w := fun l J W hW hJ hY h0 =>
    values1_nil 2 l Bm J W hJ ((hW.cell (p := ⟨Bm, 0, none⟩) hB).trans hm) h0
  have cS := AnyZI.sorted_in Try.sorted Fence.wide 5 trivial trivial trivial trivial rfl (by omega) (sorts _) (enters_of Try.func23 (by kernel_rfl) rfl) 36 #[.pointer (some ⟨Bm, 0, none⟩)] trivial
    (enters_of Try.func36 (by kernel_rfl) rfl) _ _ (by unfold maxLen; omega) (by omega) _ hseq
  change CallsIn _ _ Try.prog 25 _ _ _ at cS
  refine cS.mono ?_
  rintro e w' ⟨v, ss, rfl, rfl, hrow, hnil, hb⟩
  exact ⟨by rw [hnil.2 rfl], below_grown hb⟩
theorem All_nob (h : Nob w P) : Calls Try.prog 16 #[.pointer P] w fun e w' => e = .returned (.slice none 0 0) ∧ w.grownBy w' none := by
  have HM := Lib.hid (made_nob h)
  have fl := field_1n
  clear h
  go_enter Try.func16, Try.ntmps16
  go_wp2_with (first
    | (go_at_call 22; (with_reducible refine HM.out.mono ?_); rintro e w2 ⟨rfl, hg⟩; have G2 := Lib.hid hg; clear hg)
    | (go_at_call 26; (with_reducible refine (Values_nil _).mono ?_); rintro e w3 ⟨rfl, hw⟩; have G3 := Lib.hid (show w2.grownBy w3 none by rw [hw]; exact World.grownBy_alloc _ _ _); have B3 := Lib.hid (show w3.cell? ⟨w2.heap.size, 0, none⟩ = some (.map none) by rw [hw]; simp [go_sem]); have L3 := Lib.hid (show w2.heap.size < w3.heap.size by rw [hw]; simp); clear hw)
    | (go_at_call 25; (with_reducible refine (Sorted_nil B3.out L3.out).mono ?_); rintro e w4 ⟨rfl, hg⟩; have G4 := Lib.hid hg; clear hg))
  go_ret
  exact ⟨rfl, G2.out.trans (G3.out.trans G4.out)⟩
theorem Clone_nob (h : Nob w P) : Calls Try.prog 17 #[.pointer P] w fun e w' => e = .returned (.pointer none) ∧ w.grownBy w' none := by
  have HM := Lib.hid (made_nob h)
  have hq := fun w => run_eql_map_nil_sl (P := Try.prog) w 44 _ _ none Try.underlying44
  clear h
  go_enter Try.func17, Try.ntmps17
  go_wp2_with (first
    | (go_at_call 22; (with_reducible refine HM.out.mono ?_); rintro e w2 ⟨rfl, hg⟩; have G2 := Lib.hid hg; clear hg))
  go_ret
  exact ⟨rfl, G2.out.trans (World.grownBy_alloc _ _ _)⟩
end
end Go.Proofs.Ytagahkofjgbfhaa.ca
