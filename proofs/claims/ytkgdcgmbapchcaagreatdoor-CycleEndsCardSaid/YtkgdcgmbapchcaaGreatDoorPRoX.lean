/- Texts that this claim stands on. -/
import Derived.Deep.RegionLaw
import Derived.Laws.Cover3
import Derived.RegionTactic
import Derived.Laws.CopyOwn
import Derived.Test.YtkgdcgmbapchcaaGreatDoorPBoX
import Derived.Test.YtkgdcgmbapchcaaGreatDoorPMmQ
namespace Go.Proofs.YtkgdcgmbapchcaaGreatDoor.ro
open Go.ChangeShapes Go.WideShapes Go.ChangeAt Go.RowKit gen li va wd
set_option linter.unusedVariables false
set_option maxHeartbeats 4000000
set_option maxRecDepth 100000
def rc (m : List Va) : List Value := .int .i64 m.length :: (vc m ++ List.replicate (32 - 2 * m.length) (.int .i64 0))
theorem rc_length {m : List Va} (h : m.length ≤ 16) : (rc m).length = 33 := by simp [rc, vc_length]; omega
def Rt (w : World) (g : Nat) (m : List Va) : Prop := w.heap[g]? = some (.cells (rc m).toArray 62 (0, 0)) ∧ m.length ≤ 16
section
variable {w w' : World} {g : Nat} {m : List Va}
theorem Rt.lt (h : Rt w g m) : g < w.heap.size := (Array.getElem?_eq_some_iff.1 h.1).1
theorem Rt.kept {row : Option Nat} (h : Rt w g m) (hg : w.grownBy w' row) (h1 : some g ≠ row) : Rt w' g m := ⟨(hg.block g h.lt h1).trans h.1, h.2⟩
theorem Rt.new (h : Rt w g m) (hg : w.grownBy w' none) : Rt w' g m := h.kept hg (by simp)
theorem Rt.drewN (h : Rt w g m) (n : Nat) : Rt (w.drewN n) g m := h
theorem Rt.count (h : Rt w g m) : w.cell? ⟨g, 0, none⟩ = some (.int .i64 m.length) := by rw [cell_of_row w g 0 _ _ _ h.1]; rfl
theorem Rt.free (h : Rt w g m) (k : Nat) : w.frozen? ⟨g, k, none⟩ = false := frozen_of_row w g k _ _ h.1
theorem rc_at {m : List Va} {i : Nat} (hi : i < m.length) : (rc m)[1 + i * 2]? = some (.int .i64 (m.getD i (0, 0)).1) ∧ (rc m)[1 + i * 2 + 1]? = some (.int .i64 (m.getD i (0, 0)).2) := by
  obtain ⟨a1, a2⟩ := vc_at m i hi
  have e : ∀ j, (rc m)[1 + j]? = (vc m ++ List.replicate (32 - 2 * m.length) (.int .i64 0))[j]? := fun j => by rw [show 1 + j = j + 1 by omega]; rfl
  refine ⟨?_, ?_⟩
  · rw [e, List.getElem?_append_left (by rw [vc_length]; omega), show i * 2 = 2 * i by omega, a1]
  · rw [show 1 + i * 2 + 1 = 1 + (i * 2 + 1) by omega, e, List.getElem?_append_left (by rw [vc_length]; omega), show i * 2 + 1 = 2 * i + 1 by omega, a2]
theorem rc_end {m : List Va} {i : Nat} (hi : m.length ≤ i) (h16 : i < 16) : (rc m)[1 + i * 2]? = some (.int .i64 0) ∧ (rc m)[1 + i * 2 + 1]? = some (.int .i64 0) := by
  have e : ∀ j, (rc m)[1 + j]? = (vc m ++ List.replicate (32 - 2 * m.length) (.int .i64 0))[j]? := fun j => by rw [show 1 + j = j + 1 by omega]; rfl
  refine ⟨?_, ?_⟩
  · rw [e, List.getElem?_append_right (by rw [vc_length]; omega), vc_length, List.getElem?_replicate, if_pos (by omega)]
  · rw [show 1 + i * 2 + 1 = 1 + (i * 2 + 1) by omega, e, List.getElem?_append_right (by rw [vc_length]; omega), vc_length, List.getElem?_replicate, if_pos (by omega)]
theorem Rt.at_ (h : Rt w g m) {i : Nat} (hi : i < m.length) : w.cell? ⟨g, 1 + i * 2, none⟩ = some (.int .i64 (m.getD i (0, 0)).1) ∧ w.cell? ⟨g, 1 + i * 2 + 1, none⟩ = some (.int .i64 (m.getD i (0, 0)).2) := by
  obtain ⟨a1, a2⟩ := rc_at hi
  refine ⟨?_, ?_⟩
  · rw [cell_of_row w g _ _ _ _ h.1]; simpa using a1
  · rw [cell_of_row w g _ _ _ _ h.1]; simpa using a2
theorem Rt.end_ (h : Rt w g m) {i : Nat} (hi : m.length ≤ i) (h16 : i < 16) : w.cell? ⟨g, 1 + i * 2, none⟩ = some (.int .i64 0) ∧ w.cell? ⟨g, 1 + i * 2 + 1, none⟩ = some (.int .i64 0) := by
  obtain ⟨a1, a2⟩ := rc_end hi h16
  refine ⟨?_, ?_⟩
  · rw [cell_of_row w g _ _ _ _ h.1]; simpa using a1
  · rw [cell_of_row w g _ _ _ _ h.1]; simpa using a2
theorem rc_push {m : List Va} {p : Nat} (hp : m.length = p) (hm : p < 16) (k n : Int) : (((rc m).set (1 + p * 2) (.int .i64 k)).set (1 + p * 2 + 1) (.int .i64 n)).set 0 (.int .i64 ((p : Int) + 1)) = rc (m ++ [(k, n)]) := by
  subst hp
  have e : 32 - 2 * m.length = 32 - 2 * (m.length + 1) + 1 + 1 := by omega
  have l : 1 + m.length * 2 = (vc m).length + 1 := by rw [vc_length]; omega
  unfold rc
  rw [e, List.replicate_succ, List.replicate_succ, l, vc_add, List.length_append, List.length_singleton]
  simp
theorem rc_pop {m : List Va} {p : Nat} (hp : m.length = p) (hm : p < 16) (x : Va) : (((rc (m ++ [x])).set 0 (.int .i64 p)).set (1 + p * 2) (.int .i64 0)).set (1 + p * 2 + 1) (.int .i64 0) = rc m := by
  subst hp
  have e : 32 - 2 * m.length = 32 - 2 * (m.length + 1) + 1 + 1 := by omega
  have l : 1 + m.length * 2 = (vc m).length + 1 := by rw [vc_length]; omega
  unfold rc
  rw [e, List.replicate_succ, List.replicate_succ, l, vc_add, List.length_append, List.length_singleton]
  simp
theorem grown_set (w : World) (g o : Nat) (v : Value) : w.grownBy (w.setCell ⟨g, o, none⟩ v) (some g) := ⟨rfl, rfl, rfl, by simp, fun i _ hi => heap_setCell_other w ⟨g, o, none⟩ i _ (fun e => hi (by simp [e]))⟩
theorem Rt.push (h : Rt w g m) {p : Nat} (hp : m.length = p) (hm : p < 16) (k n : Int) : Rt (((w.setCell ⟨g, 1 + p * 2, none⟩ (.int .i64 k)).setCell ⟨g, 1 + p * 2 + 1, none⟩ (.int .i64 n)).drew.setCell ⟨g, 0, none⟩ (.int .i64 ((p : Int) + 1))) g (m ++ [(k, n)]) := by
  have h1 := heap_setCell_same w g (1 + p * 2) _ _ (.int .i64 k) h.1
  rw [List.setIfInBounds_toArray] at h1
  have h2 := heap_setCell_same _ g (1 + p * 2 + 1) _ _ (.int .i64 n) h1
  rw [List.setIfInBounds_toArray] at h2
  have h3 := heap_setCell_same (((w.setCell ⟨g, 1 + p * 2, none⟩ (.int .i64 k)).setCell ⟨g, 1 + p * 2 + 1, none⟩ (.int .i64 n)).drew) g 0 _ _ (.int .i64 ((p : Int) + 1)) h2
  rw [List.setIfInBounds_toArray, rc_push hp hm] at h3
  exact ⟨h3, by simp; omega⟩
theorem Rt.pop {x : Va} (h : Rt w g (m ++ [x])) {p : Nat} (hp : m.length = p) (hm : p < 16) : Rt (((w.setCell ⟨g, 0, none⟩ (.int .i64 p)).setCell ⟨g, 1 + p * 2, none⟩ (.int .i64 0)).setCell ⟨g, 1 + p * 2 + 1, none⟩ (.int .i64 0)) g m := by
  have h1 := heap_setCell_same w g 0 _ _ (.int .i64 p) h.1
  rw [List.setIfInBounds_toArray] at h1
  have h2 := heap_setCell_same _ g (1 + p * 2) _ _ (.int .i64 0) h1
  rw [List.setIfInBounds_toArray] at h2
  have h3 := heap_setCell_same _ g (1 + p * 2 + 1) _ _ (.int .i64 0) h2
  rw [List.setIfInBounds_toArray, rc_pop hp hm] at h3
  exact ⟨h3, by omega⟩
theorem Rt.rv (h : Rt w g m) : Rv w w.heap.size (some ⟨g, 1, none⟩) m.length 16 m :=
  ⟨rfl, h.2, by unfold maxLen; omega, fun i hi => ⟨g, 1, rfl, h.lt, h.at_ hi⟩⟩
theorem arr16 : Tryz.prog.arrayLen 60 = 16 := by kernel_rfl
theorem slice16 (g n : Nat) (hn : n ≤ 16) : ∀ w : World, (Instr.sliceAt 60 (.pointer (some ⟨g, 1, none⟩)) none (some (.int .i64 n)) none).run Tryz.prog w = .ok (.slice (some ⟨g, 1, none⟩) n 16) w := fun w => by
  rw [run_sliceAt_array_h w _ _ (by kernel_rfl) .i64 n (by omega) (by rw [arr16]; omega)]
  have e : ∀ w, (Go.sizeOf (Tryz.prog.elem 60)).run Tryz.prog w = .ok 2 w := fun w => by kernel_rfl
  rw [e, arr16]
  simp [slicedAt, Addr.add, Result.andThen]
theorem held_any (h : Rt w g m) : Calls Tryz.prog 133 #[.pointer (some ⟨g, 0, none⟩)] w fun e w' => e = .returned (.slice (some ⟨g, 1, none⟩) m.length 16) ∧ Drew w w' := by
  have c := h.count
  have l1 := h.2
  generalize m.length = n at c l1
  have SL := slice16 g n l1
  clear h
  go_enter Tryz.func133, Tryz.ntmps133
  go_wp2
  go_quiet (fail)
  go_wp2
  go_ret
  exact ⟨rfl, _, rfl⟩
theorem held_nil (w : World) : Calls Tryz.prog 133 #[.pointer none] w fun e w' => e = .returned (.slice none 0 0) ∧ w = w' := by
  go_enter Tryz.func133, Tryz.ntmps133
  go_wp2
  go_ret
  exact ⟨rfl, rfl⟩
theorem Len_any (h : Rt w g m) : Calls Tryz.prog 151 #[.pointer (some ⟨g, 0, none⟩)] w fun e w' => e = .returned (.int .i64 m.length) ∧ Drew w w' := by
  have HP := Lib.hid (held_any h)
  have l1 := h.2
  generalize m.length = n at HP l1
  clear h
  go_enter Tryz.func151, Tryz.ntmps151
  go_wp2_with (go_at_call 133; (with_reducible refine HP.out.mono ?_); rintro e w' ⟨rfl, q, rfl⟩)
  go_ret
  exact ⟨rfl, _, rfl⟩
theorem Len_nil (w : World) : Calls Tryz.prog 151 #[.pointer none] w fun e w' => e = .returned (.int .i64 0) ∧ w = w' := by
  go_enter Tryz.func151, Tryz.ntmps151
  go_wp2_with (go_at_call 133; (with_reducible refine (held_nil _).mono ?_); rintro e w' ⟨rfl, rfl⟩)
  go_ret
  exact ⟨rfl, rfl⟩
end
end Go.Proofs.YtkgdcgmbapchcaaGreatDoor.ro
namespace Go.Proofs.YtkgdcgmbapchcaaGreatDoor.ro
open Go.ChangeShapes Go.WideShapes Go.ChangeAt Go.RowKit gen li va wd
set_option linter.unusedVariables false
set_option maxHeartbeats 4000000
set_option maxRecDepth 100000
abbrev vb (x : Va) (b : Bool) : Ending := .returned (.tuple #[.agg #[.int .i64 x.1, .int .i64 x.2], .bool b])
def gt (m : List Va) (i : Int) : Va := if 0 ≤ i ∧ i < m.length then m.getD i.toNat (0, 0) else (0, 0)
def has (m : List Va) (i : Int) : Bool := decide (0 ≤ i ∧ i < m.length)
section
variable {w w' : World} {g : Nat} {m : List Va}
theorem Get_nil (i : Int) (w : World) : Calls Tryz.prog 150 #[.pointer none, .int .i64 i] w fun e w' => e = vb (0, 0) false ∧ w.grownBy w' none := by
  have G0 := Lib.hid (World.grownBy_alloc w (.cells #[.int .i64 0, .int .i64 0] 36) none)
  by_cases h1 : i < 0
  · go_enter Tryz.func150, Tryz.ntmps150
    go_wp2
    exact bodyPost_ret (v := .tuple #[.agg #[.int .i64 0, .int .i64 0], .bool false]) (by simp [results, Tryz.results150, go_sem]) rfl ⟨rfl, G0.out⟩
  · have h2 : 0 ≤ i := by omega
    go_enter Tryz.func150, Tryz.ntmps150
    go_wp2_with (go_at_call 151; (with_reducible refine (Len_nil _).mono ?_); rintro e w' ⟨rfl, rfl⟩)
    exact bodyPost_ret (v := .tuple #[.agg #[.int .i64 0, .int .i64 0], .bool false]) (by simp [results, Tryz.results150, go_sem]) rfl ⟨rfl, G0.out⟩
theorem grown_of {a b : World} (h : Below a.heap.size a b) : a.grownBy b none := ⟨h.os, h.tape, h.output, h.size, fun k hk _ => h.block k hk⟩
theorem grown_aside {a b c : World} {r : Nat} {row : Option Nat} (h : a.grownBy b row) (k : b.grownBy c (some r)) (hr : a.heap.size ≤ r) : a.grownBy c row :=
  ⟨k.os.trans h.os, k.tape.trans h.tape, k.output.trans h.output, Nat.le_trans h.size k.size, fun i hi hne => (k.block i (Nat.lt_of_lt_of_le hi h.size) (by simp; omega)).trans (h.block i hi hne)⟩
theorem Push_yes (h : Rt w g m) (hm : m.length < 16) (k n : Int) (hc : chk k n = 0) :
    Calls Tryz.prog 90 #[.pointer (some ⟨g, 0, none⟩), .agg #[.int .i64 k, .int .i64 n]] w fun e w' => e = .returned (.bool true) ∧ Rt w' g (m ++ [(k, n)]) ∧ w.grownBy w' (some g) := by
  have c := h.count
  have l1 : m.length < 16 := hm
  have hlt := h.lt
  have H := Lib.hid h
  have HC := Lib.hid hc
  obtain ⟨p, hp⟩ : ∃ p, m.length = p := ⟨_, rfl⟩
  have HP := Lib.hid hp
  rw [hp] at c l1
  have t1 : ((p : Int) == 16) = false := by simp; omega
  have C0 := Lib.hid (Two.new w 36 k n rfl)
  have G0 := Lib.hid (World.grownBy_alloc w (.cells #[.int .i64 k, .int .i64 n] 36) none)
  clear h hm hc hp
  go_enter Tryz.func90, Tryz.ntmps90
  go_wp2_with (go_at_call 164; (with_reducible refine (Check_any k n _).mono ?_); rintro e w1 ⟨rfl, hb⟩; rw [HC.out]; obtain ⟨d0, d1, d2, d3⟩ := Two.below hb C0.out; have G1 := Lib.hid (G0.out.trans (grown_of hb)); have R1 := Lib.hid (H.out.new G1.out); have c1 := R1.out.count; rw [HP.out] at c1; have fz := R1.out.free; obtain ⟨e0, e1⟩ := R1.out.end_ (i := p) (by rw [HP.out]; exact Nat.le_refl _) l1; have hz : w.heap.size < w1.heap.size := (World.block_lt_of_cell? w1 _ d0); clear hb)
  go_region
  go_wp2
  go_ret
  exact ⟨rfl, R1.out.push HP.out l1 k n, grown_then G1.out ((((grown_set _ _ _ _).trans (grown_set _ _ _ _)).trans (grown_set _ _ _ _)).trans (grown_drewN _ 1 _))⟩
theorem Push_full (h : Rt w g m) (hm : m.length = 16) (k n : Int) :
    Calls Tryz.prog 90 #[.pointer (some ⟨g, 0, none⟩), .agg #[.int .i64 k, .int .i64 n]] w fun e w' => e = .returned (.bool false) ∧ w.grownBy w' none := by
  have c := h.count
  rw [hm] at c
  have hlt := h.lt
  have G0 := Lib.hid (World.grownBy_alloc w (.cells #[.int .i64 k, .int .i64 n] 36) none)
  clear h hm
  go_enter Tryz.func90, Tryz.ntmps90
  go_wp2
  go_ret
  exact ⟨rfl, G0.out⟩
theorem Push_nil (k n : Int) (w : World) :
    Calls Tryz.prog 90 #[.pointer none, .agg #[.int .i64 k, .int .i64 n]] w fun e w' => e = .returned (.bool false) ∧ w.grownBy w' none := by
  have G0 := Lib.hid (World.grownBy_alloc w (.cells #[.int .i64 k, .int .i64 n] 36) none)
  go_enter Tryz.func90, Tryz.ntmps90
  go_wp2
  go_ret
  exact ⟨rfl, G0.out⟩
theorem Get_in (h : Rt w g m) (i : Int) (h1 : 0 ≤ i) (h2 : i < m.length) :
    Calls Tryz.prog 150 #[.pointer (some ⟨g, 0, none⟩), .int .i64 i] w fun e w' => e = vb (m.getD i.toNat (0, 0)) true ∧ w.grownBy w' none := by
  obtain ⟨k, rfl⟩ : ∃ k : Nat, i = k := ⟨i.toNat, by omega⟩
  have G0 := Lib.hid (World.grownBy_alloc w (.cells #[.int .i64 0, .int .i64 0] 36) none)
  have hk : k < m.length := by omega
  have HL := Lib.hid (Len_any (h.new G0.out))
  obtain ⟨e0, e1⟩ := (h.new G0.out).at_ hk
  have l16 := h.2
  rw [show ((k : Int)).toNat = k from rfl]
  generalize m.getD k (0, 0) = x at e0 e1
  generalize m.length = p at *
  have l1 : (0 : Int) ≤ (k : Int) := h1
  have l2 : k < 16 := by omega
  clear h
  go_enter Tryz.func150, Tryz.ntmps150
  go_wp2_with (go_at_call 151; (with_reducible refine HL.out.mono ?_); rintro e w1 ⟨rfl, q, rfl⟩)
  refine bodyPost_ret (v := .tuple #[.agg #[.int .i64 x.1, .int .i64 x.2], .bool true]) ?_ rfl ⟨rfl, ?_⟩
  · simp [results, Tryz.results150, go_sem, *]
  · exact grown_new (G0.out.trans (grown_drewN _ q _)) ((grown_set _ _ _ _).trans (grown_set _ _ _ _)) (Nat.le_refl _)
theorem Get_out (h : Rt w g m) (i : Int) (ho : i < 0 ∨ (m.length : Int) ≤ i) :
    Calls Tryz.prog 150 #[.pointer (some ⟨g, 0, none⟩), .int .i64 i] w fun e w' => e = vb (0, 0) false ∧ w.grownBy w' none := by
  have G0 := Lib.hid (World.grownBy_alloc w (.cells #[.int .i64 0, .int .i64 0] 36) none)
  have HL := Lib.hid (Len_any (h.new G0.out))
  have l16 := h.2
  generalize m.length = p at *
  clear h
  by_cases h1 : i < 0
  · clear ho
    go_enter Tryz.func150, Tryz.ntmps150
    go_wp2
    exact bodyPost_ret (v := .tuple #[.agg #[.int .i64 0, .int .i64 0], .bool false]) (by simp [results, Tryz.results150, go_sem]) rfl ⟨rfl, G0.out⟩
  · have h2 : 0 ≤ i := by omega
    have h3 : (p : Int) ≤ i := by omega
    clear ho h1
    go_enter Tryz.func150, Tryz.ntmps150
    go_wp2_with (go_at_call 151; (with_reducible refine HL.out.mono ?_); rintro e w1 ⟨rfl, q, rfl⟩)
    refine bodyPost_ret (v := .tuple #[.agg #[.int .i64 0, .int .i64 0], .bool false]) (by simp [results, Tryz.results150, go_sem]) rfl ⟨rfl, ?_⟩
    exact grown_new (G0.out.trans (grown_drewN _ q _)) ((grown_set _ _ _ _).trans (grown_set _ _ _ _)) (Nat.le_refl _)
theorem Pop_nil (w : World) : Calls Tryz.prog 79 #[.pointer none] w fun e w' => e = vb (0, 0) false ∧ w.grownBy w' none := by
  have G0 := Lib.hid (World.grownBy_alloc w (.cells #[.int .i64 0, .int .i64 0] 36) none)
  have C0 := Lib.hid (Two.new w 36 0 0 rfl)
  go_enter Tryz.func79, Tryz.ntmps79
  go_wp2_with (first
    | (go_at_call 151; (with_reducible refine (Len_nil _).mono ?_); rintro e w' ⟨rfl, rfl⟩)
    | (go_at_call 150; (with_reducible refine (Get_nil _ _).mono ?_); rintro e w1 ⟨rfl, hg⟩; obtain ⟨d0, d1, d2, d3⟩ := Two.below (li.grown_below hg) C0.out; have G1 := Lib.hid (G0.out.trans hg); have hz : w.heap.size < w1.heap.size := (World.block_lt_of_cell? w1 _ d0); clear hg))
  exact bodyPost_ret (v := .tuple #[.agg #[.int .i64 0, .int .i64 0], .bool false]) (by simp [results, Tryz.results79, go_sem, *]) rfl ⟨rfl, (grown_new G1.out ((grown_set _ _ _ _).trans (grown_set _ _ _ _)) (Nat.le_refl _)).trans (World.grownBy_alloc _ _ _)⟩
theorem Pop_none (h : Rt w g []) : Calls Tryz.prog 79 #[.pointer (some ⟨g, 0, none⟩)] w fun e w' => e = vb (0, 0) false ∧ w.grownBy w' none := by
  have G0 := Lib.hid (World.grownBy_alloc w (.cells #[.int .i64 0, .int .i64 0] 36) none)
  have C0 := Lib.hid (Two.new w 36 0 0 rfl)
  have HL := Lib.hid (Len_any (h.new G0.out))
  have HG := Lib.hid (fun q => Get_out ((h.new G0.out).drewN q) (-1) (by omega))
  clear h
  go_enter Tryz.func79, Tryz.ntmps79
  go_wp2_with (first
    | (go_at_call 151; (with_reducible refine HL.out.mono ?_); rintro e w' ⟨rfl, q, rfl⟩)
    | (go_at_call 150; (with_reducible refine (HG.out _).mono ?_); rintro e w1 ⟨rfl, hg⟩; have hg' := (grown_drewN _ q none).trans hg; obtain ⟨d0, d1, d2, d3⟩ := Two.below (li.grown_below hg') C0.out; have G1 := Lib.hid (G0.out.trans hg'); have hz : w.heap.size < w1.heap.size := (World.block_lt_of_cell? w1 _ d0); clear hg hg'))
  exact bodyPost_ret (v := .tuple #[.agg #[.int .i64 0, .int .i64 0], .bool false]) (by simp [results, Tryz.results79, go_sem, *]) rfl ⟨rfl, (grown_new G1.out ((grown_set _ _ _ _).trans (grown_set _ _ _ _)) (Nat.le_refl _)).trans (World.grownBy_alloc _ _ _)⟩
theorem Pop_yes {x : Va} (h : Rt w g (m ++ [x])) : Calls Tryz.prog 79 #[.pointer (some ⟨g, 0, none⟩)] w fun e w' => e = vb x true ∧ Rt w' g m ∧ w.grownBy w' (some g) := by
  have l16 := h.2
  have hlt := h.lt
  obtain ⟨p, hp⟩ : ∃ p, m.length = p := ⟨_, rfl⟩
  have HP := Lib.hid hp
  have hl : (m ++ [x]).length = p + 1 := by simp [hp]
  rw [hl] at l16
  have G0 := Lib.hid (World.grownBy_alloc w (.cells #[.int .i64 0, .int .i64 0] 36) none)
  have C0 := Lib.hid (Two.new w 36 0 0 rfl)
  have HL := Len_any (h.new G0.out)
  rw [hl] at HL
  have HLL := Lib.hid HL
  have hx : (m ++ [x]).getD p (0, 0) = x := by rw [← hp]; simp
  have HG := Lib.hid (fun q (i : Int) (hi : i = p) => show Calls Tryz.prog 150 #[.pointer (some ⟨g, 0, none⟩), .int .i64 i] ((w.alloc (.cells #[.int .i64 0, .int .i64 0] 36)).drewN q) fun e w' => e = vb x true ∧ ((w.alloc (.cells #[.int .i64 0, .int .i64 0] 36)).drewN q).grownBy w' none by
    subst hi
    have := Get_in ((h.new G0.out).drewN q) p (by omega) (by rw [hl]; omega)
    rwa [show ((p : Int)).toNat = p from rfl, hx] at this)
  have H := Lib.hid h
  have HLN := Lib.hid hl
  obtain ⟨x1, x2⟩ := x
  clear h hp hl HL hx
  go_enter Tryz.func79, Tryz.ntmps79
  go_wp2_with (first
    | (go_at_call 151; (with_reducible refine HLL.out.mono ?_); rintro e w' ⟨rfl, q, rfl⟩)
    | (go_at_call 150; (with_reducible refine (HG.out _ _ (by omega)).mono ?_); rintro e w1 ⟨rfl, hg⟩; have hg' := (grown_drewN _ q none).trans hg; obtain ⟨d0, d1, d2, d3⟩ := Two.below (li.grown_below hg') C0.out; have G1 := Lib.hid (G0.out.trans hg'); have R1 := Lib.hid (H.out.new G1.out); have c1 := R1.out.count; rw [HLN.out] at c1; have fz := R1.out.free; obtain ⟨e0, e1⟩ := R1.out.at_ (i := p) (by rw [HLN.out]; omega); have hlt1 := R1.out.lt; have hz : w.heap.size < w1.heap.size := (World.block_lt_of_cell? w1 _ d0); clear hg hg'))
  go_region
  go_wp2
  have R3 := Lib.hid (R1.out.pop HP.out (by omega))
  have G3 := Lib.hid (grown_then G1.out (((grown_set w1 g 0 (.int .i64 p)).trans (grown_set _ g (1 + p * 2) (.int .i64 0))).trans (grown_set _ g (1 + p * 2 + 1) (.int .i64 0))))
  refine bodyPost_ret (v := .tuple #[.agg #[.int .i64 x1, .int .i64 x2], .bool true]) ?_ rfl ⟨rfl, ?_, ?_⟩
  · simp [results, Tryz.results79, go_sem, *]
  · exact R3.out.kept ((((grown_set _ w.heap.size _ _).trans (grown_set _ _ _ _)).trans (World.grownBy_alloc _ _ _)).trans (grown_drewN _ 1 _)) (by simp; omega)
  · exact grown_aside G3.out ((((grown_set _ w.heap.size _ _).trans (grown_set _ _ _ _)).trans (World.grownBy_alloc _ _ _)).trans (grown_drewN _ 1 _)) (Nat.le_refl _)
end
end Go.Proofs.YtkgdcgmbapchcaaGreatDoor.ro
namespace Go.Proofs.YtkgdcgmbapchcaaGreatDoor.ro
open Go.ChangeShapes Go.WideShapes Go.ChangeAt Go.RowKit gen li va wd
set_option linter.unusedVariables false
set_option maxHeartbeats 4000000
set_option maxRecDepth 100000
theorem append_int {w : World} {ops : Array Oper} {rest : List Oper} {o : Oper} {a : Act} {Q : Exit → Act → World → Prop} (hgd : o.guard = none) (s x : Operand) (ho : o.op = .call { callee := .builtin .append, args := #[s, x], argTypes := #[41, 41] })
    (base : Nat) (v : Value) (xs : List Int) (hs : a.eval s = v) (hown : w.ownsRow base 3 1 v xs.length (ints xs)) (b : Nat) (z : Int) (hx : a.eval x = .slice (some ⟨b, 0, none⟩) 1 1)
    (hz : w.cell? ⟨b, 0, none⟩ = some (.int .i64 z)) (hm : xs.length ≤ 1048576) (hbase : base ≤ w.heap.size)
    (h : ∀ A' N' c' w', N' = (xs ++ [z]).length → w'.ownsRow base 3 1 (.slice A' N' c') (xs ++ [z]).length (ints (xs ++ [z])) → w.grownBy w' v.ownBlock → wpList Tryz.prog ops Q rest (a.put o.dst (.slice A' N' c')) w') : wpList Tryz.prog ops Q (o :: rest) a w := by
  obtain ⟨i0, hi, hz0, hz1, hz2⟩ := info_parts info_int
  refine wpList_append_rd hgd s x 41 ho base 3 i0 (.int .i64 0) 8 Tryz.underlying41 hi hz0 hz1 hz2 rfl v xs.length xs hs hown (some ⟨b, 0, none⟩) 1 1 w.heap.size [z] hx
    ⟨rfl, fun e => (by cases e), fun ad e i hi => ?_⟩ (by unfold maxLen; omega) (by omega) hbase (fun A' c' w' h1 h2 h3 => ?_)
  · injection e with e
    subst e
    obtain rfl : i = 0 := by omega
    exact ⟨World.block_lt_of_cell? _ _ hz, hz⟩
  · exact h A' (xs.length + 1) c' w' (by simp) (by rw [List.length_append]; exact h1) h3
theorem Index_any {w : World} {A : Option Addr} {n c B : Nat} {xs : List Int} (hs : n ≤ 4194304) (h : Rd w B A n c xs) (z : Int) :
    Calls Tryz.prog 202 #[.slice A n c, .int .i64 z] w fun e w' => ∃ r : Int, e = .returned (.int .i64 r) ∧ decide (0 ≤ r) = decide (z ∈ xs) ∧ w' = w := by
  have H := Lib.hid h
  clear h
  go_enter Tryz.func202, Tryz.ntmps202
  go_wp2
  go_loopw [8] (fun i wr => ∃ k : Nat, k ≤ n ∧ i = .int .i64 k ∧ z ∉ xs.take k ∧ wr = w) (fun i _ => n - (intOf i).toNat)
  case atStart => exact ⟨0, Nat.zero_le _, rfl, by simp, rfl⟩
  case round =>
    obtain ⟨k, hk, rfl, hz, hw⟩ := hrel
    subst hw
    have HZ := Lib.hid hz
    clear hz
    by_cases hlt : k < n
    · obtain ⟨b1, o1, rfl, g1⟩ := H.out.at_ hlt
      have HM := Lib.hid (li.getD_mem (xs := xs) (k := k) (by rw [H.out.1]; exact hlt) 0)
      have HT := Lib.hid (li.take_more (xs := xs) (k := k) (by rw [H.out.1]; exact hlt) 0)
      generalize xs.getD k 0 = x at g1 HM HT
      by_cases he : z = x
      · subst he
        go_wp2
        go_ret
        exact ⟨k, rfl, by rw [decide_eq_true HM.out]; simp, rfl⟩
      · have he1 : (z == x) = false := by simpa using he
        have HE := Lib.hid he
        clear he
        go_wp2
        go_roundw
        case rel => exact ⟨k + 1, by omega, by go_num, by rw [HT.out, List.mem_append]; exact fun h => h.elim HZ.out (fun h => HE.out (by simpa using h : z = x)), trivial⟩
        case measure => simp [intOf]; omega
    · obtain rfl : k = n := by omega
      go_wp2
      go_ret
      have hz := HZ.out
      rw [List.take_of_length_le (by rw [H.out.1]; omega)] at hz
      exact ⟨-1, rfl, by rw [decide_eq_false hz]; rfl, rfl⟩
theorem Contains_any {w : World} {A : Option Addr} {n c B : Nat} {xs : List Int} (hs : n ≤ 4194304) (h : Rd w B A n c xs) (z : Int) :
    Calls Tryz.prog 134 #[.slice A n c, .int .i64 z] w fun e w' => e = .returned (.bool (decide (z ∈ xs))) ∧ w' = w := by
  have H := Lib.hid (Index_any hs h z)
  clear h
  generalize decide (z ∈ xs) = b at *
  go_enter Tryz.func134, Tryz.ntmps134
  go_wp2_with (go_at_call 202; (with_reducible refine H.out.mono ?_); rintro e w' ⟨r, rfl, hr, rfl⟩; subst hr)
  all_goals
    go_ret
    exact ⟨by simp [*], rfl⟩
def rfA (a : List Int) (x : Va) : List Int := if x.1 = 2 ∧ x.2 ∉ a then a ++ [x.2] else a
def rf (m : List Va) : List Int := m.foldl rfA []
theorem rf_more {m : List Va} {k : Nat} (h : k < m.length) : rf (m.take (k + 1)) = rfA (rf (m.take k)) (m.getD k (0, 0)) := by
  rw [va.take_more h]
  unfold rf
  rw [List.foldl_append]
  rfl
theorem rf_fold_length : ∀ (m : List Va) (a : List Int), (m.foldl rfA a).length ≤ a.length + m.length
  | [], a => by simp
  | x :: m, a => by
    have h1 := rf_fold_length m (rfA a x)
    have h2 : (rfA a x).length ≤ a.length + 1 := by unfold rfA; split <;> simp
    rw [List.foldl_cons, List.length_cons]
    omega
theorem rf_length (m : List Va) : (rf m).length ≤ m.length := by
  have := rf_fold_length m []
  simpa [rf] using this
theorem rfA_no1 {a : List Int} {x : Va} (h : x.1 ≠ 2) : rfA a x = a := by unfold rfA; rw [if_neg (fun e => h e.1)]
theorem rfA_no2 {a : List Int} {x : Va} (h : x.2 ∈ a) : rfA a x = a := by unfold rfA; rw [if_neg (fun e => e.2 h)]
theorem rfA_yes {a : List Int} {x : Va} (h : x.1 = 2) (h2 : x.2 ∉ a) : rfA a x = a ++ [x.2] := by unfold rfA; rw [if_pos ⟨h, h2⟩]
section
variable {w w' : World} {g : Nat} {m : List Va}
theorem Refs_any (h : Rt w g m) : Calls Tryz.prog 70 #[.pointer (some ⟨g, 0, none⟩)] w (ListAns (rf m) w) := by
  have HH := Lib.hid (held_any h)
  have l16 := h.2
  have H := Lib.hid h
  obtain ⟨n, hn⟩ : ∃ n, m.length = n := ⟨_, rfl⟩
  have HN := Lib.hid hn
  rw [hn] at HH l16
  clear h hn
  go_enter Tryz.func70, Tryz.ntmps70
  go_wp2_with (go_at_call 133; (with_reducible refine HH.out.mono ?_); rintro e w' ⟨rfl, q, rfl⟩)
  go_loopw [3, 10] (fun v i wr => ∃ (k N : Nat) (A' : Option Addr) (c' : Nat), k ≤ n ∧ i = .int .i64 k ∧ v = .slice A' N c' ∧ N = (rf (m.take k)).length ∧ wr.ownsRow w.heap.size 3 1 (.slice A' N c') (rf (m.take k)).length (ints (rf (m.take k))) ∧ w.grownBy wr none) (fun _ i _ => n - (intOf i).toNat)
  case atStart => exact ⟨0, 0, none, 0, Nat.zero_le _, rfl, rfl, rfl, World.ownsRow_nil _ _ _ _, li.grown_drewN _ _ _⟩
  case round =>
    obtain ⟨k, N, A', c', hk, rfl, rfl, hm, ho, hg⟩ := hrel
    have HM := Lib.hid hm
    have HO := Lib.hid ho
    have HG := Lib.hid hg
    have R := Lib.hid (H.out.new hg)
    have LT := R.out.lt
    clear hm ho hg
    by_cases hlt : k < n
    · have hk' : k < m.length := by rw [HN.out]; exact hlt
      obtain ⟨e0, e1⟩ := R.out.at_ hk'
      have HF := Lib.hid (rf_more hk')
      have HL := Lib.hid (show N ≤ 16 by rw [HM.out]; exact Nat.le_trans (rf_length _) (by rw [List.length_take, HN.out]; omega))
      clear hk'
      generalize m.getD k (0, 0) = x at e0 e1 HF
      obtain ⟨x1, x2⟩ := x
      dsimp only at e0 e1
      by_cases h1 : x1 = 2
      · have t1 : (x1 == 2) = true := by simpa using h1
        by_cases h2 : x2 ∈ rf (m.take k)
        · have t2 : decide (x2 ∈ rf (m.take k)) = true := decide_eq_true h2
          have FF := Lib.hid (show rf (m.take (k + 1)) = rf (m.take k) by rw [HF.out, rfA_no2 h2])
          clear h1 h2
          go_wp2_with (go_at_call 134; (with_reducible refine (Contains_any (xs := rf (m.take k)) (by have := HL.out; omega) (rd_own (by have := HO.out.alloc (.cells #[.int .i64 x1, .int .i64 x2] 36); rwa [← HM.out] at this)) _).mono ?_); rintro e w' ⟨rfl, rfl⟩)
          go_roundw
          case rel => exact ⟨k + 1, N, A', c', by omega, by go_num, rfl, by rw [FF.out]; exact HM.out, by rw [FF.out]; exact HO.out.alloc _, HG.out.trans (World.grownBy_alloc _ _ _)⟩
          case measure => simp [intOf]; omega
        · have t2 : decide (x2 ∈ rf (m.take k)) = false := decide_eq_false h2
          have FF := Lib.hid (show rf (m.take (k + 1)) = rf (m.take k) ++ [x2] by rw [HF.out, rfA_yes h1 h2])
          have HS := Lib.hid (HG.out.size)
          clear h1 h2
          go_wp2_with (first
            | (go_at_call 134; (with_reducible refine (Contains_any (xs := rf (m.take k)) (by have := HL.out; omega) (rd_own (by have := HO.out.alloc (.cells #[.int .i64 x1, .int .i64 x2] 36); rwa [← HM.out] at this)) _).mono ?_); rintro e w' ⟨rfl, rfl⟩)
            | (refine append_int rfl (.tmp 25) (.tmp 27) rfl w.heap.size (.slice A' N c') (rf (m.take k)) rfl ((HO.out.alloc _).alloc _) _ x2 rfl (by go_simp) (by have := HL.out; have := HM.out; omega) (by have := HS.out; simp; omega) ?_; intro A3 N3 c3 w2 hn3 own1 gr1; have HN3 := Lib.hid hn3; have OWN1 := Lib.hid own1; have GR1 := Lib.hid gr1; clear hn3 own1 gr1))
          go_roundw
          case rel => exact ⟨k + 1, N3, A3, c3, by omega, by go_num, rfl, by rw [FF.out]; exact HN3.out, by rw [FF.out]; exact OWN1.out, grown_own ((HG.out.trans (World.grownBy_alloc _ _ _)).trans (World.grownBy_alloc _ _ _)) ((HO.out.alloc _).alloc _) GR1.out (Nat.le_refl _)⟩
          case measure => simp [intOf]; omega
      · have t1 : (x1 == 2) = false := by simpa using h1
        have FF := Lib.hid (show rf (m.take (k + 1)) = rf (m.take k) by rw [HF.out, rfA_no1 h1])
        clear h1
        go_wp2
        go_roundw
        case rel => exact ⟨k + 1, N, A', c', by omega, by go_num, rfl, by rw [FF.out]; exact HM.out, by rw [FF.out]; exact HO.out.alloc _, HG.out.trans (World.grownBy_alloc _ _ _)⟩
        case measure => simp [intOf]; omega
    · obtain rfl : k = n := by omega
      go_wp2
      go_ret
      have hm := HM.out
      have ho := HO.out
      rw [List.take_of_length_le (by rw [HN.out]; omega)] at hm ho
      subst hm
      exact ⟨A', c', rfl, ho, HG.out⟩
theorem info_roots : (Tryz.prog.info? 62).map (·.size) = some 33 := by kernel_rfl
theorem rc_size (h : m.length ≤ 16) : (rc m).toArray.size = 33 := by rw [List.size_toArray]; exact rc_length h
theorem rc_one (m : List Va) : (rc m).toArray.all (·.oneCell') = true := by
  rw [Array.all_eq_true_iff_forall_mem]
  intro v hv
  simp only [List.mem_toArray, rc, List.mem_cons, List.mem_append] at hv
  rcases hv with rfl | hv | hv
  · rfl
  · exact vc_one m v hv
  · rw [List.eq_of_mem_replicate hv]; rfl
theorem Clear_any (h : Rt w g m) : Calls Tryz.prog 86 #[.pointer (some ⟨g, 0, none⟩)] w fun e w' => e = .returned (.tuple #[]) ∧ Rt w' g [] ∧ w.grownBy w' (some g) := by
  have H := Lib.hid h
  clear h
  go_enter Tryz.func86, Tryz.ntmps86
  go_wp2_with (refine wpList_store_row rfl 62 (.tmp 6) (.tmp 5) rfl g (rc []).toArray rfl (by kernel_rfl) 62 _ H.out.1 (by rw [rc_size (by simp)]; exact info_roots) (by rw [rc_size H.out.2, rc_size (by simp)]) (rc_one _) ?_)
  go_end0
  refine ⟨rfl, ⟨setRow_heap w g _ _ _ _ H.out.1, by simp⟩, ⟨rfl, rfl, rfl, by simp [World.setRow], fun k _ hk => setRow_other w g k _ (fun e => hk (by simp [e]))⟩⟩
end
end Go.Proofs.YtkgdcgmbapchcaaGreatDoor.ro
namespace Go.Proofs.YtkgdcgmbapchcaaGreatDoor.ro
open Go.ChangeShapes Go.WideShapes Go.ChangeAt Go.RowKit gen li va wd
set_option linter.unusedVariables false
set_option maxHeartbeats 4000000
set_option maxRecDepth 100000
section
variable {w w' : World} {g : Nat} {m : List Va}
theorem All_nil (w : World) : Calls Tryz.prog 96 #[.pointer none] w (VasAns [] w) := by
  have mk : ∀ w : World, (Instr.makeSlice 75 (.int .i64 0) (.int .i64 0)).run Tryz.prog w = .ok (.slice (some ⟨w.heap.size, 0, none⟩) 0 0) (w.alloc (.cells #[] 36)) := make_vas 0 (by omega)
  go_enter Tryz.func96, Tryz.ntmps96
  go_wp2_with (first
    | (go_at_call 151; (with_reducible refine (Len_nil _).mono ?_); rintro e w' ⟨rfl, rfl⟩)
    | (go_at_call 133; (with_reducible refine (held_nil _).mono ?_); rintro e w' ⟨rfl, rfl⟩)
    | (refine wpList_copy_none rfl (.tmp 7) (.tmp 9) rfl ⟨w.heap.size, 0, none⟩ 0 0 rfl rfl ?_))
  go_ret
  exact ⟨_, 0, rfl, Lv.whole (m := []) (heap_alloc_new _ _) (Nat.le_refl _) (Nat.zero_le _), World.grownBy_alloc _ _ _⟩
theorem All_any (h : Rt w g m) : Calls Tryz.prog 96 #[.pointer (some ⟨g, 0, none⟩)] w (VasAns m w) := by
  have l16 := h.2
  have mk := make_vas m.length (by omega)
  have HL := Lib.hid (Len_any h)
  have H := Lib.hid h
  have ZL := Lib.hid (show (List.replicate m.length ((0, 0) : Va)).length = m.length by simp)
  generalize hz : List.replicate m.length ((0, 0) : Va) = zs at mk ZL
  obtain ⟨n, hn⟩ : ∃ n, m.length = n := ⟨_, rfl⟩
  have HN := Lib.hid hn
  have HH := Lib.hid (fun W (hW : Rt W g m) => show Calls Tryz.prog 133 #[.pointer (some ⟨g, 0, none⟩)] W fun e w' => e = .returned (.slice (some ⟨g, 1, none⟩) n 16) ∧ Drew W w' by have := held_any hW; rwa [hn] at this)
  rw [hn] at HL l16 mk ZL
  clear h hn hz
  go_enter Tryz.func96, Tryz.ntmps96
  go_wp2_with (first
    | (go_at_call 151; (with_reducible refine HL.out.mono ?_); rintro e w' ⟨rfl, q, rfl⟩)
    | (go_at_call 133; (with_reducible refine (HH.out _ (H.out.new ((li.grown_drewN _ q none).trans (World.grownBy_alloc _ _ _)))).mono ?_); rintro e w' ⟨rfl, q2, rfl⟩)
    | (refine wpList_copy_vas rfl (.tmp 7) (.tmp 9) rfl w.heap.size n 16 ⟨g, 1, none⟩ m zs rfl rfl (by have := (H.out.new (((li.grown_drewN w q none).trans (World.grownBy_alloc (w.drewN q) (.cells (vc zs).toArray 36) _)).trans (li.grown_drewN _ q2 none))).rv; rwa [HN.out] at this) (heap_alloc_new (w.drewN q) _) ZL.out ?_; intro w2 hw2 hg2; have W2 := Lib.hid hw2; have G2 := Lib.hid hg2; clear hw2 hg2))
  go_ret
  have hn := HN.out
  subst hn
  exact ⟨_, m.length, rfl, Lv.whole W2.out (Nat.le_refl _) (by unfold maxLen; omega), grown_new (((li.grown_drewN w q none).trans (World.grownBy_alloc (w.drewN q) (.cells (vc zs).toArray 36) _)).trans (li.grown_drewN _ q2 none)) G2.out (Nat.le_refl _)⟩
end
end Go.Proofs.YtkgdcgmbapchcaaGreatDoor.ro
