/- The program's cache: has, Page. -/
import Derived.Test.YtagahkofjgbfhaaCaB
import Derived.BigQuiet
import Derived.Deep.RegionHeld3
import Derived.Deep.QuietTactic
namespace Go.Proofs.Ytagahkofjgbfhaa.ca
open Go.ChangeShapes Go.WideShapes Go.ChangeAt Go.RowKit Go.Maps gen calls cls
set_option linter.unusedVariables false
set_option maxHeartbeats 4000000
set_option maxRecDepth 100000
/-- Two numbers at the head of a block. -/
structure Two (w : World) (B : Nat) (x y : Int) : Prop where
  t0 : w.cell? ⟨B, 0, none⟩ = some (.int .i64 x)
  t1 : w.cell? ⟨B, 1, none⟩ = some (.int .i64 y)
theorem Two.new (w : World) (x y : Int) (t : TypeId) : Two (w.alloc (.cells #[.int .i64 x, .int .i64 y] t)) w.heap.size x y := ⟨by simp [go_sem], by simp [go_sem]⟩
theorem Two.kept {w w' : World} {B : Nat} {x y : Int} {row : Option Nat} (h : Two w B x y) (hg : w.grownBy w' row) (hr : some B ≠ row) : Two w' B x y := ⟨hg.cell h.t0 hr, hg.cell h.t1 hr⟩
theorem Two.made {w w' : World} {B : Nat} {x y : Int} (h : Two w B x y) (hg : w.grownBy w' none) : Two w' B x y := h.kept hg (by simp)
theorem Two.both {w : World} {B : Nat} {x y : Int} (h : Two w B x y) : w.cell? ⟨B, 0, none⟩ = some (.int .i64 x) ∧ w.cell? ⟨B, 1, none⟩ = some (.int .i64 y) := ⟨h.t0, h.t1⟩
theorem grown_drewN (w : World) (n : Nat) (row : Option Nat) : w.grownBy (w.drewN n) row := bm.grown_drewN w n row
theorem grown_drew (w : World) (row : Option Nat) : w.grownBy w.drew row := bm.grown_drewN w 1 row
theorem any_at {P : Program} {md : Region.Mode} {ops : Array Oper} {Q : Exit → Act → World → Prop} {S : World → Prop} {fuel : Nat} {listed : Array Bool} {a b : Act} {w : World} (h : a = b) (hq : wpAnyH P md ops Q S fuel listed b w) : wpAnyH P md ops Q S fuel listed a w := h ▸ hq
theorem then_at {K : Act → World → Prop} {Q : Exit → Act → World → Prop} {e : Exit} {a b : Act} {w : World} (h : a = b) (hq : Exit.then K Q e b w) : Exit.then K Q e a w := h ▸ hq
theorem field_0 (n mb : Nat) (w : World) : (Instr.field 46 (.agg #[.int .i64 n, .map (some mb)]) 0).run Try.prog w = .ok (.int .i64 n) w := by kernel_rfl
theorem field_1 (n mb : Nat) (w : World) : (Instr.field 46 (.agg #[.int .i64 n, .map (some mb)]) 1).run Try.prog w = .ok (.map (some mb)) w := by kernel_rfl
section
variable {w w' : World} {c mb n : Nat} {m : List Ow} {D : DataW Unit}
theorem has_neg (c : Addr) (w : World) {t k : Int} (h : t < 0) :
    Calls Try.prog 24 #[.pointer (some c), .agg #[.int .i64 t, .int .i64 k]] w fun e w' => e = .returned (.bool false) ∧ w.grownBy w' none := by
  have t1 : decide (0 ≤ t) = false := by simp; omega
  obtain ⟨u0, u1⟩ := Two.new w t k 55
  go_enter Try.func24, Try.ntmps24
  go_wp2
  go_quiet (fail)
  go_wp2
  go_ret
  exact ⟨rfl, (World.grownBy_alloc _ _ _).trans (grown_drewN _ _ _)⟩
theorem has_yes (C : At w c mb n m D) {t k : Int} (h0 : 0 ≤ t) (h1 : t < n) (hk : fits k = true) :
    Calls Try.prog 24 #[.pointer (some ⟨c, 0, none⟩), .agg #[.int .i64 t, .int .i64 k]] w fun e w' => e = .returned (.bool (decide (0 < cl k))) ∧ w.grownBy w' none := by
  have t1 : decide (0 ≤ t) = true := by simpa using h0
  have t2 : decide (t < (n : Int)) = true := by simpa using h1
  have G0 := Lib.hid (World.grownBy_alloc w (.cells #[.int .i64 t, .int .i64 k] 55) none)
  have T0 := Lib.hid (Two.new w t k 55)
  have CC := Lib.hid C
  have HK := Lib.hid hk
  obtain ⟨q, hq⟩ : ∃ q, cl k = q := ⟨_, rfl⟩
  have HQ := Lib.hid hq
  have f0 := T0.out.both
  have fl := field_0 n mb
  clear C hk
  rw [hq]
  clear hq
  go_enter Try.func24, Try.ntmps24
  go_wp2
  go_region_held3 (fun W => W.cell? ⟨w.heap.size, 0, none⟩ = some (.int .i64 t) ∧ W.cell? ⟨w.heap.size, 1, none⟩ = some (.int .i64 k)) (first | exact f0 | exact f2 | exact f3 | go_keep) (first
    | (go_at_call 22; (with_reducible refine (made_yes (CC.out.new (G0.out.trans (grown_drewN _ _ _)))).mono ?_); rintro e w2 ⟨rfl, hg⟩; have G2 := Lib.hid (G0.out.trans ((grown_drewN _ _ _).trans hg)); have f2 := (T0.out.made ((grown_drewN _ _ _).trans hg)).both; clear hg)
    | (go_at_call 22; (with_reducible refine (made_yes (CC.out.new (G0.out.trans (grown_drew _ _)))).mono ?_); rintro e w2 ⟨rfl, hg⟩; have G2 := Lib.hid (G0.out.trans ((grown_drew _ _).trans hg)); have f2 := (T0.out.made ((grown_drew _ _).trans hg)).both; clear hg)
    | (go_at_call 34; (with_reducible refine (cells_any _ _ HK.out).mono ?_); rintro e w3 ⟨rfl, rfl⟩; rw [HQ.out]; have f3 := f2))
  all_goals
    go_wp2
    go_ret
    exact ⟨rfl, G2.out⟩
theorem has_out (C : At w c mb n m D) {t k : Int} (h0 : 0 ≤ t) (h1 : (n : Int) ≤ t) :
    Calls Try.prog 24 #[.pointer (some ⟨c, 0, none⟩), .agg #[.int .i64 t, .int .i64 k]] w fun e w' => e = .returned (.bool false) ∧ w.grownBy w' none := by
  have t1 : decide (0 ≤ t) = true := by simpa using h0
  have t2 : decide (t < (n : Int)) = false := by simp; omega
  have G0 := Lib.hid (World.grownBy_alloc w (.cells #[.int .i64 t, .int .i64 k] 55) none)
  have T0 := Lib.hid (Two.new w t k 55)
  have CC := Lib.hid C
  obtain ⟨f00, f01⟩ := T0.out
  have fl := field_0 n mb
  clear C
  go_enter Try.func24, Try.ntmps24
  go_wp2
  refine wp_region_held_drew (S := fun _ => True) (by kernel_rfl) trivial (fun _ => ?_)
  refine wpAnyH_take (i := 0) (v := .pointer (some ⟨w.heap.size, 0, none⟩)) rfl (by kernel_rfl) (by kernel_rfl) (by kernel_rfl) (fun _ _ _ h => h) (Or.inl ⟨by kernel_rfl, fun _ _ => by go_simp⟩) trivial ?_
  refine any_at (b := { tmps := #[.pointer (some ⟨c, 0, none⟩), .agg #[.int .i64 t, .int .i64 k], undef, .pointer (some ⟨w.heap.size, 0, none⟩), .bool false, .pointer (some ⟨w.heap.size, 0, none⟩), undef, undef, undef, undef, undef, undef, undef, undef, undef, undef, undef, undef, undef, undef, undef, undef], defers := [] }) (by kernel_rfl) ?_
  refine wpAnyH_ready (rs := [1]) (by kernel_rfl) (by simp) (AllReadyH.cons rfl (fun K hK => ?_) AllReadyH.nil)
  go_simp
  refine hK.out _ _ trivial (fun _ => ?_)
  clear hK K
  refine any_at (b := { tmps := #[.pointer (some ⟨c, 0, none⟩), .agg #[.int .i64 t, .int .i64 k], undef, .pointer (some ⟨w.heap.size, 0, none⟩), .bool false, .pointer (some ⟨w.heap.size, 0, none⟩), .int .i64 t, undef, undef, undef, undef, undef, undef, undef, undef, undef, undef, undef, undef, undef, undef, undef], defers := [] }) (by kernel_rfl) ?_
  refine wpAnyH_take (i := 2) (v := .bool true) rfl (by kernel_rfl) (by kernel_rfl) (by kernel_rfl) (fun _ _ _ h => h) (Or.inl ⟨by kernel_rfl, fun _ _ => by go_simp⟩) trivial ?_
  refine any_at (b := { tmps := #[.pointer (some ⟨c, 0, none⟩), .agg #[.int .i64 t, .int .i64 k], undef, .pointer (some ⟨w.heap.size, 0, none⟩), .bool false, .pointer (some ⟨w.heap.size, 0, none⟩), .int .i64 t, .bool true, undef, undef, undef, undef, undef, undef, undef, undef, undef, undef, undef, undef, undef, undef], defers := [] }) (by kernel_rfl) ?_
  refine wpAnyH_take (i := 3) (v := .bool true) rfl (by kernel_rfl) (by kernel_rfl) (by kernel_rfl) (fun _ _ _ h => h) (Or.inl ⟨by kernel_rfl, fun _ _ => by rfl⟩) trivial ?_
  refine any_at (b := { tmps := #[.pointer (some ⟨c, 0, none⟩), .agg #[.int .i64 t, .int .i64 k], undef, .pointer (some ⟨w.heap.size, 0, none⟩), .bool false, .pointer (some ⟨w.heap.size, 0, none⟩), .int .i64 t, .bool true, .bool true, undef, undef, undef, undef, undef, undef, undef, undef, undef, undef, undef, undef, undef], defers := [] }) (by kernel_rfl) ?_
  refine wpAnyH_take (i := 4) (v := .pointer (some ⟨w.heap.size, 0, none⟩)) rfl (by kernel_rfl) (by kernel_rfl) (by kernel_rfl) (fun _ _ _ h => h) (Or.inl ⟨by kernel_rfl, fun _ _ => by go_simp⟩) trivial ?_
  refine any_at (b := { tmps := #[.pointer (some ⟨c, 0, none⟩), .agg #[.int .i64 t, .int .i64 k], undef, .pointer (some ⟨w.heap.size, 0, none⟩), .bool false, .pointer (some ⟨w.heap.size, 0, none⟩), .int .i64 t, .bool true, .bool true, .pointer (some ⟨w.heap.size, 0, none⟩), undef, undef, undef, undef, undef, undef, undef, undef, undef, undef, undef, undef], defers := [] }) (by kernel_rfl) ?_
  refine wpAnyH_take (i := 6) (v := .pointer (some ⟨c, 0, none⟩)) rfl (by kernel_rfl) (by kernel_rfl) (by kernel_rfl) (fun _ _ _ h => h) (Or.inl ⟨by kernel_rfl, fun _ _ => by rfl⟩) trivial ?_
  refine any_at (b := { tmps := #[.pointer (some ⟨c, 0, none⟩), .agg #[.int .i64 t, .int .i64 k], undef, .pointer (some ⟨w.heap.size, 0, none⟩), .bool false, .pointer (some ⟨w.heap.size, 0, none⟩), .int .i64 t, .bool true, .bool true, .pointer (some ⟨w.heap.size, 0, none⟩), undef, .pointer (some ⟨c, 0, none⟩), undef, undef, undef, undef, undef, undef, undef, undef, undef, undef], defers := [] }) (by kernel_rfl) ?_
  refine wpAnyH_ready (rs := [5, 7]) (by kernel_rfl) (by simp) (AllReadyH.cons rfl (fun K hK => ?_) (AllReadyH.cons rfl (fun K hK => ?_) AllReadyH.nil))
  · skip
    go_simp
    refine hK.out _ _ trivial (fun _ => ?_)
    clear hK K
    refine any_at (b := { tmps := #[.pointer (some ⟨c, 0, none⟩), .agg #[.int .i64 t, .int .i64 k], undef, .pointer (some ⟨w.heap.size, 0, none⟩), .bool false, .pointer (some ⟨w.heap.size, 0, none⟩), .int .i64 t, .bool true, .bool true, .pointer (some ⟨w.heap.size, 0, none⟩), .int .i64 t, .pointer (some ⟨c, 0, none⟩), undef, undef, undef, undef, undef, undef, undef, undef, undef, undef], defers := [] }) (by kernel_rfl) ?_
    refine wpAnyH_ready (rs := [7]) (by kernel_rfl) (by simp) (AllReadyH.cons rfl (fun K hK => ?_) AllReadyH.nil)
    go_simp
    (first | (go_at_call 22; (with_reducible refine (made_yes (CC.out.new (G0.out.trans (grown_drewN _ _ _)))).mono ?_); rintro e w2 ⟨rfl, hg⟩; have G2 := Lib.hid (G0.out.trans ((grown_drewN _ _ _).trans hg)); have f2 := T0.out.made ((grown_drewN _ _ _).trans hg); obtain ⟨f20, f21⟩ := f2; clear hg) | (go_at_call 22; (with_reducible refine (made_yes (CC.out.new (G0.out.trans (grown_drew _ _)))).mono ?_); rintro e w2 ⟨rfl, hg⟩; have G2 := Lib.hid (G0.out.trans ((grown_drew _ _).trans hg)); have f2 := T0.out.made ((grown_drew _ _).trans hg); obtain ⟨f20, f21⟩ := f2; clear hg))
    refine hK.out _ _ trivial (fun _ => ?_)
    clear hK K
    refine any_at (b := { tmps := #[.pointer (some ⟨c, 0, none⟩), .agg #[.int .i64 t, .int .i64 k], undef, .pointer (some ⟨w.heap.size, 0, none⟩), .bool false, .pointer (some ⟨w.heap.size, 0, none⟩), .int .i64 t, .bool true, .bool true, .pointer (some ⟨w.heap.size, 0, none⟩), .int .i64 t, .pointer (some ⟨c, 0, none⟩), .agg #[.int .i64 n, .map (some mb)], undef, undef, undef, undef, undef, undef, undef, undef, undef], defers := [] }) (by kernel_rfl) ?_
    refine wpAnyH_take (i := 8) (v := .int .i64 n) rfl (by kernel_rfl) (by kernel_rfl) (by kernel_rfl) (fun _ _ _ h => h) (Or.inl ⟨by kernel_rfl, fun _ _ => by go_simp⟩) trivial ?_
    refine any_at (b := { tmps := #[.pointer (some ⟨c, 0, none⟩), .agg #[.int .i64 t, .int .i64 k], undef, .pointer (some ⟨w.heap.size, 0, none⟩), .bool false, .pointer (some ⟨w.heap.size, 0, none⟩), .int .i64 t, .bool true, .bool true, .pointer (some ⟨w.heap.size, 0, none⟩), .int .i64 t, .pointer (some ⟨c, 0, none⟩), .agg #[.int .i64 n, .map (some mb)], .int .i64 n, undef, undef, undef, undef, undef, undef, undef, undef], defers := [] }) (by kernel_rfl) ?_
    refine wpAnyH_take (i := 9) (v := .bool false) rfl (by kernel_rfl) (by kernel_rfl) (by kernel_rfl) (fun _ _ _ h => h) (Or.inl ⟨by kernel_rfl, fun _ _ => by go_simp⟩) trivial ?_
    refine any_at (b := { tmps := #[.pointer (some ⟨c, 0, none⟩), .agg #[.int .i64 t, .int .i64 k], undef, .pointer (some ⟨w.heap.size, 0, none⟩), .bool false, .pointer (some ⟨w.heap.size, 0, none⟩), .int .i64 t, .bool true, .bool true, .pointer (some ⟨w.heap.size, 0, none⟩), .int .i64 t, .pointer (some ⟨c, 0, none⟩), .agg #[.int .i64 n, .map (some mb)], .int .i64 n, .bool false, undef, undef, undef, undef, undef, undef, undef], defers := [] }) (by kernel_rfl) ?_
    refine wpAnyH_take (i := 10) (v := .bool false) rfl (by kernel_rfl) (by kernel_rfl) (by kernel_rfl) (fun _ _ _ h => h) (Or.inl ⟨by kernel_rfl, fun _ _ => by go_simp⟩) trivial ?_
    refine any_at (b := { tmps := #[.pointer (some ⟨c, 0, none⟩), .agg #[.int .i64 t, .int .i64 k], undef, .pointer (some ⟨w.heap.size, 0, none⟩), .bool false, .pointer (some ⟨w.heap.size, 0, none⟩), .int .i64 t, .bool true, .bool true, .pointer (some ⟨w.heap.size, 0, none⟩), .int .i64 t, .pointer (some ⟨c, 0, none⟩), .agg #[.int .i64 n, .map (some mb)], .int .i64 n, .bool false, .bool false, undef, undef, undef, undef, undef, undef], defers := [] }) (by kernel_rfl) ?_
    refine wpAnyH_take (i := 11) (v := .bool false) rfl (by kernel_rfl) (by kernel_rfl) (by kernel_rfl) (fun _ _ _ h => h) (Or.inl ⟨by kernel_rfl, fun _ _ => by rfl⟩) trivial ?_
    refine any_at (b := { tmps := #[.pointer (some ⟨c, 0, none⟩), .agg #[.int .i64 t, .int .i64 k], undef, .pointer (some ⟨w.heap.size, 0, none⟩), .bool false, .pointer (some ⟨w.heap.size, 0, none⟩), .int .i64 t, .bool true, .bool true, .pointer (some ⟨w.heap.size, 0, none⟩), .int .i64 t, .pointer (some ⟨c, 0, none⟩), .agg #[.int .i64 n, .map (some mb)], .int .i64 n, .bool false, .bool false, .bool false, undef, undef, undef, undef, undef], defers := [] }) (by kernel_rfl) ?_
    refine wpAnyH_take (i := 12) (v := undef) rfl (by kernel_rfl) (by kernel_rfl) (by kernel_rfl) (fun _ _ _ h => h) (Or.inr ⟨by kernel_rfl, rfl⟩) trivial ?_
    refine any_at (b := { tmps := #[.pointer (some ⟨c, 0, none⟩), .agg #[.int .i64 t, .int .i64 k], undef, .pointer (some ⟨w.heap.size, 0, none⟩), .bool false, .pointer (some ⟨w.heap.size, 0, none⟩), .int .i64 t, .bool true, .bool true, .pointer (some ⟨w.heap.size, 0, none⟩), .int .i64 t, .pointer (some ⟨c, 0, none⟩), .agg #[.int .i64 n, .map (some mb)], .int .i64 n, .bool false, .bool false, .bool false, undef, undef, undef, undef, undef], defers := [] }) (by kernel_rfl) ?_
    refine wpAnyH_take (i := 13) (v := undef) rfl (by kernel_rfl) (by kernel_rfl) (by kernel_rfl) (fun _ _ _ h => h) (Or.inr ⟨by kernel_rfl, rfl⟩) trivial ?_
    refine any_at (b := { tmps := #[.pointer (some ⟨c, 0, none⟩), .agg #[.int .i64 t, .int .i64 k], undef, .pointer (some ⟨w.heap.size, 0, none⟩), .bool false, .pointer (some ⟨w.heap.size, 0, none⟩), .int .i64 t, .bool true, .bool true, .pointer (some ⟨w.heap.size, 0, none⟩), .int .i64 t, .pointer (some ⟨c, 0, none⟩), .agg #[.int .i64 n, .map (some mb)], .int .i64 n, .bool false, .bool false, .bool false, undef, undef, undef, undef, undef], defers := [] }) (by kernel_rfl) ?_
    refine wpAnyH_take (i := 14) (v := undef) rfl (by kernel_rfl) (by kernel_rfl) (by kernel_rfl) (fun _ _ _ h => h) (Or.inr ⟨by kernel_rfl, rfl⟩) trivial ?_
    refine any_at (b := { tmps := #[.pointer (some ⟨c, 0, none⟩), .agg #[.int .i64 t, .int .i64 k], undef, .pointer (some ⟨w.heap.size, 0, none⟩), .bool false, .pointer (some ⟨w.heap.size, 0, none⟩), .int .i64 t, .bool true, .bool true, .pointer (some ⟨w.heap.size, 0, none⟩), .int .i64 t, .pointer (some ⟨c, 0, none⟩), .agg #[.int .i64 n, .map (some mb)], .int .i64 n, .bool false, .bool false, .bool false, undef, undef, undef, undef, undef], defers := [] }) (by kernel_rfl) ?_
    refine wpAnyH_take (i := 15) (v := undef) rfl (by kernel_rfl) (by kernel_rfl) (by kernel_rfl) (fun _ _ _ h => h) (Or.inr ⟨by kernel_rfl, rfl⟩) trivial ?_
    refine any_at (b := { tmps := #[.pointer (some ⟨c, 0, none⟩), .agg #[.int .i64 t, .int .i64 k], undef, .pointer (some ⟨w.heap.size, 0, none⟩), .bool false, .pointer (some ⟨w.heap.size, 0, none⟩), .int .i64 t, .bool true, .bool true, .pointer (some ⟨w.heap.size, 0, none⟩), .int .i64 t, .pointer (some ⟨c, 0, none⟩), .agg #[.int .i64 n, .map (some mb)], .int .i64 n, .bool false, .bool false, .bool false, undef, undef, undef, undef, undef], defers := [] }) (by kernel_rfl) ?_
    refine wpAnyH_take (i := 16) (v := .bool false) rfl (by kernel_rfl) (by kernel_rfl) (by kernel_rfl) (fun _ _ _ h => h) (Or.inl ⟨by kernel_rfl, fun _ _ => by kernel_rfl⟩) trivial ?_
    refine any_at (b := { tmps := #[.pointer (some ⟨c, 0, none⟩), .agg #[.int .i64 t, .int .i64 k], undef, .pointer (some ⟨w.heap.size, 0, none⟩), .bool false, .pointer (some ⟨w.heap.size, 0, none⟩), .int .i64 t, .bool true, .bool true, .pointer (some ⟨w.heap.size, 0, none⟩), .int .i64 t, .pointer (some ⟨c, 0, none⟩), .agg #[.int .i64 n, .map (some mb)], .int .i64 n, .bool false, .bool false, .bool false, undef, undef, undef, undef, .bool false], defers := [] }) (by kernel_rfl) ?_
    refine wpAnyH_take (i := 17) (v := .bool false) rfl (by kernel_rfl) (by kernel_rfl) (by kernel_rfl) (fun _ _ _ h => h) (Or.inl ⟨by kernel_rfl, fun _ _ => by rfl⟩) trivial ?_
    refine any_at (b := { tmps := #[.pointer (some ⟨c, 0, none⟩), .agg #[.int .i64 t, .int .i64 k], undef, .pointer (some ⟨w.heap.size, 0, none⟩), .bool false, .pointer (some ⟨w.heap.size, 0, none⟩), .int .i64 t, .bool true, .bool true, .pointer (some ⟨w.heap.size, 0, none⟩), .int .i64 t, .pointer (some ⟨c, 0, none⟩), .agg #[.int .i64 n, .map (some mb)], .int .i64 n, .bool false, .bool false, .bool false, undef, undef, undef, undef, .bool false], defers := [] }) (by kernel_rfl) ?_
    refine wpAnyH_done (by kernel_rfl) ?_ _
    refine then_at (b := { tmps := #[.pointer (some ⟨c, 0, none⟩), .agg #[.int .i64 t, .int .i64 k], undef, .pointer (some ⟨w.heap.size, 0, none⟩), .bool false, .pointer (some ⟨w.heap.size, 0, none⟩), .int .i64 t, .bool true, .bool true, .pointer (some ⟨w.heap.size, 0, none⟩), .int .i64 t, .pointer (some ⟨c, 0, none⟩), .agg #[.int .i64 n, .map (some mb)], .int .i64 n, .bool false, .bool false, .bool false, undef, undef, undef, undef, .bool false], defers := [] }) (by kernel_rfl) ?_
    go_wp2
    go_ret
    exact ⟨rfl, G2.out⟩
  · skip
    go_simp
    (first | (go_at_call 22; (with_reducible refine (made_yes (CC.out.new (G0.out.trans (grown_drewN _ _ _)))).mono ?_); rintro e w2 ⟨rfl, hg⟩; have G2 := Lib.hid (G0.out.trans ((grown_drewN _ _ _).trans hg)); have f2 := T0.out.made ((grown_drewN _ _ _).trans hg); obtain ⟨f20, f21⟩ := f2; clear hg) | (go_at_call 22; (with_reducible refine (made_yes (CC.out.new (G0.out.trans (grown_drew _ _)))).mono ?_); rintro e w2 ⟨rfl, hg⟩; have G2 := Lib.hid (G0.out.trans ((grown_drew _ _).trans hg)); have f2 := T0.out.made ((grown_drew _ _).trans hg); obtain ⟨f20, f21⟩ := f2; clear hg))
    refine hK.out _ _ trivial (fun _ => ?_)
    clear hK K
    refine any_at (b := { tmps := #[.pointer (some ⟨c, 0, none⟩), .agg #[.int .i64 t, .int .i64 k], undef, .pointer (some ⟨w.heap.size, 0, none⟩), .bool false, .pointer (some ⟨w.heap.size, 0, none⟩), .int .i64 t, .bool true, .bool true, .pointer (some ⟨w.heap.size, 0, none⟩), undef, .pointer (some ⟨c, 0, none⟩), .agg #[.int .i64 n, .map (some mb)], undef, undef, undef, undef, undef, undef, undef, undef, undef], defers := [] }) (by kernel_rfl) ?_
    refine wpAnyH_take (i := 8) (v := .int .i64 n) rfl (by kernel_rfl) (by kernel_rfl) (by kernel_rfl) (fun _ _ _ h => h) (Or.inl ⟨by kernel_rfl, fun _ _ => by go_simp⟩) trivial ?_
    refine any_at (b := { tmps := #[.pointer (some ⟨c, 0, none⟩), .agg #[.int .i64 t, .int .i64 k], undef, .pointer (some ⟨w.heap.size, 0, none⟩), .bool false, .pointer (some ⟨w.heap.size, 0, none⟩), .int .i64 t, .bool true, .bool true, .pointer (some ⟨w.heap.size, 0, none⟩), undef, .pointer (some ⟨c, 0, none⟩), .agg #[.int .i64 n, .map (some mb)], .int .i64 n, undef, undef, undef, undef, undef, undef, undef, undef], defers := [] }) (by kernel_rfl) ?_
    refine wpAnyH_ready (rs := [5]) (by kernel_rfl) (by simp) (AllReadyH.cons rfl (fun K hK => ?_) AllReadyH.nil)
    go_simp
    refine hK.out _ _ trivial (fun _ => ?_)
    clear hK K
    refine any_at (b := { tmps := #[.pointer (some ⟨c, 0, none⟩), .agg #[.int .i64 t, .int .i64 k], undef, .pointer (some ⟨w.heap.size, 0, none⟩), .bool false, .pointer (some ⟨w.heap.size, 0, none⟩), .int .i64 t, .bool true, .bool true, .pointer (some ⟨w.heap.size, 0, none⟩), .int .i64 t, .pointer (some ⟨c, 0, none⟩), .agg #[.int .i64 n, .map (some mb)], .int .i64 n, undef, undef, undef, undef, undef, undef, undef, undef], defers := [] }) (by kernel_rfl) ?_
    refine wpAnyH_take (i := 9) (v := .bool false) rfl (by kernel_rfl) (by kernel_rfl) (by kernel_rfl) (fun _ _ _ h => h) (Or.inl ⟨by kernel_rfl, fun _ _ => by go_simp⟩) trivial ?_
    refine any_at (b := { tmps := #[.pointer (some ⟨c, 0, none⟩), .agg #[.int .i64 t, .int .i64 k], undef, .pointer (some ⟨w.heap.size, 0, none⟩), .bool false, .pointer (some ⟨w.heap.size, 0, none⟩), .int .i64 t, .bool true, .bool true, .pointer (some ⟨w.heap.size, 0, none⟩), .int .i64 t, .pointer (some ⟨c, 0, none⟩), .agg #[.int .i64 n, .map (some mb)], .int .i64 n, .bool false, undef, undef, undef, undef, undef, undef, undef], defers := [] }) (by kernel_rfl) ?_
    refine wpAnyH_take (i := 10) (v := .bool false) rfl (by kernel_rfl) (by kernel_rfl) (by kernel_rfl) (fun _ _ _ h => h) (Or.inl ⟨by kernel_rfl, fun _ _ => by go_simp⟩) trivial ?_
    refine any_at (b := { tmps := #[.pointer (some ⟨c, 0, none⟩), .agg #[.int .i64 t, .int .i64 k], undef, .pointer (some ⟨w.heap.size, 0, none⟩), .bool false, .pointer (some ⟨w.heap.size, 0, none⟩), .int .i64 t, .bool true, .bool true, .pointer (some ⟨w.heap.size, 0, none⟩), .int .i64 t, .pointer (some ⟨c, 0, none⟩), .agg #[.int .i64 n, .map (some mb)], .int .i64 n, .bool false, .bool false, undef, undef, undef, undef, undef, undef], defers := [] }) (by kernel_rfl) ?_
    refine wpAnyH_take (i := 11) (v := .bool false) rfl (by kernel_rfl) (by kernel_rfl) (by kernel_rfl) (fun _ _ _ h => h) (Or.inl ⟨by kernel_rfl, fun _ _ => by rfl⟩) trivial ?_
    refine any_at (b := { tmps := #[.pointer (some ⟨c, 0, none⟩), .agg #[.int .i64 t, .int .i64 k], undef, .pointer (some ⟨w.heap.size, 0, none⟩), .bool false, .pointer (some ⟨w.heap.size, 0, none⟩), .int .i64 t, .bool true, .bool true, .pointer (some ⟨w.heap.size, 0, none⟩), .int .i64 t, .pointer (some ⟨c, 0, none⟩), .agg #[.int .i64 n, .map (some mb)], .int .i64 n, .bool false, .bool false, .bool false, undef, undef, undef, undef, undef], defers := [] }) (by kernel_rfl) ?_
    refine wpAnyH_take (i := 12) (v := undef) rfl (by kernel_rfl) (by kernel_rfl) (by kernel_rfl) (fun _ _ _ h => h) (Or.inr ⟨by kernel_rfl, rfl⟩) trivial ?_
    refine any_at (b := { tmps := #[.pointer (some ⟨c, 0, none⟩), .agg #[.int .i64 t, .int .i64 k], undef, .pointer (some ⟨w.heap.size, 0, none⟩), .bool false, .pointer (some ⟨w.heap.size, 0, none⟩), .int .i64 t, .bool true, .bool true, .pointer (some ⟨w.heap.size, 0, none⟩), .int .i64 t, .pointer (some ⟨c, 0, none⟩), .agg #[.int .i64 n, .map (some mb)], .int .i64 n, .bool false, .bool false, .bool false, undef, undef, undef, undef, undef], defers := [] }) (by kernel_rfl) ?_
    refine wpAnyH_take (i := 13) (v := undef) rfl (by kernel_rfl) (by kernel_rfl) (by kernel_rfl) (fun _ _ _ h => h) (Or.inr ⟨by kernel_rfl, rfl⟩) trivial ?_
    refine any_at (b := { tmps := #[.pointer (some ⟨c, 0, none⟩), .agg #[.int .i64 t, .int .i64 k], undef, .pointer (some ⟨w.heap.size, 0, none⟩), .bool false, .pointer (some ⟨w.heap.size, 0, none⟩), .int .i64 t, .bool true, .bool true, .pointer (some ⟨w.heap.size, 0, none⟩), .int .i64 t, .pointer (some ⟨c, 0, none⟩), .agg #[.int .i64 n, .map (some mb)], .int .i64 n, .bool false, .bool false, .bool false, undef, undef, undef, undef, undef], defers := [] }) (by kernel_rfl) ?_
    refine wpAnyH_take (i := 14) (v := undef) rfl (by kernel_rfl) (by kernel_rfl) (by kernel_rfl) (fun _ _ _ h => h) (Or.inr ⟨by kernel_rfl, rfl⟩) trivial ?_
    refine any_at (b := { tmps := #[.pointer (some ⟨c, 0, none⟩), .agg #[.int .i64 t, .int .i64 k], undef, .pointer (some ⟨w.heap.size, 0, none⟩), .bool false, .pointer (some ⟨w.heap.size, 0, none⟩), .int .i64 t, .bool true, .bool true, .pointer (some ⟨w.heap.size, 0, none⟩), .int .i64 t, .pointer (some ⟨c, 0, none⟩), .agg #[.int .i64 n, .map (some mb)], .int .i64 n, .bool false, .bool false, .bool false, undef, undef, undef, undef, undef], defers := [] }) (by kernel_rfl) ?_
    refine wpAnyH_take (i := 15) (v := undef) rfl (by kernel_rfl) (by kernel_rfl) (by kernel_rfl) (fun _ _ _ h => h) (Or.inr ⟨by kernel_rfl, rfl⟩) trivial ?_
    refine any_at (b := { tmps := #[.pointer (some ⟨c, 0, none⟩), .agg #[.int .i64 t, .int .i64 k], undef, .pointer (some ⟨w.heap.size, 0, none⟩), .bool false, .pointer (some ⟨w.heap.size, 0, none⟩), .int .i64 t, .bool true, .bool true, .pointer (some ⟨w.heap.size, 0, none⟩), .int .i64 t, .pointer (some ⟨c, 0, none⟩), .agg #[.int .i64 n, .map (some mb)], .int .i64 n, .bool false, .bool false, .bool false, undef, undef, undef, undef, undef], defers := [] }) (by kernel_rfl) ?_
    refine wpAnyH_take (i := 16) (v := .bool false) rfl (by kernel_rfl) (by kernel_rfl) (by kernel_rfl) (fun _ _ _ h => h) (Or.inl ⟨by kernel_rfl, fun _ _ => by kernel_rfl⟩) trivial ?_
    refine any_at (b := { tmps := #[.pointer (some ⟨c, 0, none⟩), .agg #[.int .i64 t, .int .i64 k], undef, .pointer (some ⟨w.heap.size, 0, none⟩), .bool false, .pointer (some ⟨w.heap.size, 0, none⟩), .int .i64 t, .bool true, .bool true, .pointer (some ⟨w.heap.size, 0, none⟩), .int .i64 t, .pointer (some ⟨c, 0, none⟩), .agg #[.int .i64 n, .map (some mb)], .int .i64 n, .bool false, .bool false, .bool false, undef, undef, undef, undef, .bool false], defers := [] }) (by kernel_rfl) ?_
    refine wpAnyH_take (i := 17) (v := .bool false) rfl (by kernel_rfl) (by kernel_rfl) (by kernel_rfl) (fun _ _ _ h => h) (Or.inl ⟨by kernel_rfl, fun _ _ => by rfl⟩) trivial ?_
    refine any_at (b := { tmps := #[.pointer (some ⟨c, 0, none⟩), .agg #[.int .i64 t, .int .i64 k], undef, .pointer (some ⟨w.heap.size, 0, none⟩), .bool false, .pointer (some ⟨w.heap.size, 0, none⟩), .int .i64 t, .bool true, .bool true, .pointer (some ⟨w.heap.size, 0, none⟩), .int .i64 t, .pointer (some ⟨c, 0, none⟩), .agg #[.int .i64 n, .map (some mb)], .int .i64 n, .bool false, .bool false, .bool false, undef, undef, undef, undef, .bool false], defers := [] }) (by kernel_rfl) ?_
    refine wpAnyH_done (by kernel_rfl) ?_ _
    refine then_at (b := { tmps := #[.pointer (some ⟨c, 0, none⟩), .agg #[.int .i64 t, .int .i64 k], undef, .pointer (some ⟨w.heap.size, 0, none⟩), .bool false, .pointer (some ⟨w.heap.size, 0, none⟩), .int .i64 t, .bool true, .bool true, .pointer (some ⟨w.heap.size, 0, none⟩), .int .i64 t, .pointer (some ⟨c, 0, none⟩), .agg #[.int .i64 n, .map (some mb)], .int .i64 n, .bool false, .bool false, .bool false, undef, undef, undef, undef, .bool false], defers := [] }) (by kernel_rfl) ?_
    go_wp2
    go_ret
    exact ⟨rfl, G2.out⟩
end
end Go.Proofs.Ytagahkofjgbfhaa.ca
