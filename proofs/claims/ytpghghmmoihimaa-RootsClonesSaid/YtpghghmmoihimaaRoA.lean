/- Roots in memory: an object of a count and sixteen values; what layer 14's functions do with it. -/
import Derived.Test.YtpghghmmoihimaaVaA
import Derived.Test.YtpghghmmoihimaaWdA
import Derived.Deep.RegionLaw
import Derived.Laws.Cover3
namespace Go.Proofs.Ytpghghmmoihimaa.ro
open Go.ChangeShapes Go.WideShapes Go.ChangeAt Go.RowKit gen li va wd
set_option linter.unusedVariables false
set_option maxHeartbeats 4000000
set_option maxRecDepth 100000

/-- The cells of roots that hold these values. -/
def rc (m : List Va) : List Value := .int .i64 m.length :: (vc m ++ List.replicate (32 - 2 * m.length) (.int .i64 0))
theorem rc_length {m : List Va} (h : m.length ≤ 16) : (rc m).length = 33 := by simp [rc, vc_length]; omega
/-- Roots at g. -/
def Rt (w : World) (g : Nat) (m : List Va) : Prop := w.heap[g]? = some (.cells (rc m).toArray 32 (0, 0)) ∧ m.length ≤ 16
section
variable {w w' : World} {g : Nat} {m : List Va}
theorem Rt.lt (h : Rt w g m) : g < w.heap.size := (Array.getElem?_eq_some_iff.1 h.1).1
theorem Rt.kept {row : Option Nat} (h : Rt w g m) (hg : w.grownBy w' row) (h1 : some g ≠ row) : Rt w' g m := ⟨(hg.block g h.lt h1).trans h.1, h.2⟩
theorem Rt.new (h : Rt w g m) (hg : w.grownBy w' none) : Rt w' g m := h.kept hg (by simp)
theorem Rt.drewN (h : Rt w g m) (n : Nat) : Rt (w.drewN n) g m := h
theorem Rt.count (h : Rt w g m) : w.cell? ⟨g, 0, none⟩ = some (.int .i64 m.length) := by rw [cell_of_row w g 0 _ _ _ h.1]; rfl
theorem Rt.free (h : Rt w g m) (k : Nat) : w.frozen? ⟨g, k, none⟩ = false := frozen_of_row w g k _ _ h.1
theorem rc_at {m : List Va} {i : Nat} (hi : i < m.length) : (rc m)[1 + i * 2]? = some (.int .i64 (m.getD i (0, 0)).1) ∧ (rc m)[1 + i * 2 + 1]? = some (.int .i64 (m.getD i (0, 0)).2) := by
  obtain ⟨a1, a2⟩ := vc_at m i hi
  have e : ∀ j, (rc m)[1 + j]? = (vc m ++ List.replicate (32 - 2 * m.length) (.int .i64 0))[j]? := fun j => by rw [show 1 + j = j + 1 by omega]; rfl
  refine ⟨?_, ?_⟩
  · rw [e, List.getElem?_append_left (by rw [vc_length]; omega), show i * 2 = 2 * i by omega, a1]
  · rw [show 1 + i * 2 + 1 = 1 + (i * 2 + 1) by omega, e, List.getElem?_append_left (by rw [vc_length]; omega), show i * 2 + 1 = 2 * i + 1 by omega, a2]
theorem rc_end {m : List Va} {i : Nat} (hi : m.length ≤ i) (h16 : i < 16) : (rc m)[1 + i * 2]? = some (.int .i64 0) ∧ (rc m)[1 + i * 2 + 1]? = some (.int .i64 0) := by
  have e : ∀ j, (rc m)[1 + j]? = (vc m ++ List.replicate (32 - 2 * m.length) (.int .i64 0))[j]? := fun j => by rw [show 1 + j = j + 1 by omega]; rfl
  refine ⟨?_, ?_⟩
  · rw [e, List.getElem?_append_right (by rw [vc_length]; omega), vc_length, List.getElem?_replicate, if_pos (by omega)]
  · rw [show 1 + i * 2 + 1 = 1 + (i * 2 + 1) by omega, e, List.getElem?_append_right (by rw [vc_length]; omega), vc_length, List.getElem?_replicate, if_pos (by omega)]
theorem Rt.at_ (h : Rt w g m) {i : Nat} (hi : i < m.length) : w.cell? ⟨g, 1 + i * 2, none⟩ = some (.int .i64 (m.getD i (0, 0)).1) ∧ w.cell? ⟨g, 1 + i * 2 + 1, none⟩ = some (.int .i64 (m.getD i (0, 0)).2) := by
  obtain ⟨a1, a2⟩ := rc_at hi
  refine ⟨?_, ?_⟩
  · rw [cell_of_row w g _ _ _ _ h.1]; simpa using a1
  · rw [cell_of_row w g _ _ _ _ h.1]; simpa using a2
theorem Rt.end_ (h : Rt w g m) {i : Nat} (hi : m.length ≤ i) (h16 : i < 16) : w.cell? ⟨g, 1 + i * 2, none⟩ = some (.int .i64 0) ∧ w.cell? ⟨g, 1 + i * 2 + 1, none⟩ = some (.int .i64 0) := by
  obtain ⟨a1, a2⟩ := rc_end hi h16
  refine ⟨?_, ?_⟩
  · rw [cell_of_row w g _ _ _ _ h.1]; simpa using a1
  · rw [cell_of_row w g _ _ _ _ h.1]; simpa using a2
theorem rc_push {m : List Va} {p : Nat} (hp : m.length = p) (hm : p < 16) (k n : Int) : (((rc m).set (1 + p * 2) (.int .i64 k)).set (1 + p * 2 + 1) (.int .i64 n)).set 0 (.int .i64 ((p : Int) + 1)) = rc (m ++ [(k, n)]) := by
  subst hp
  have e : 32 - 2 * m.length = 32 - 2 * (m.length + 1) + 1 + 1 := by omega
  have l : 1 + m.length * 2 = (vc m).length + 1 := by rw [vc_length]; omega
  unfold rc
  rw [e, List.replicate_succ, List.replicate_succ, l, vc_add, List.length_append, List.length_singleton]
  simp
theorem rc_pop {m : List Va} {p : Nat} (hp : m.length = p) (hm : p < 16) (x : Va) : (((rc (m ++ [x])).set 0 (.int .i64 p)).set (1 + p * 2) (.int .i64 0)).set (1 + p * 2 + 1) (.int .i64 0) = rc m := by
  subst hp
  have e : 32 - 2 * m.length = 32 - 2 * (m.length + 1) + 1 + 1 := by omega
  have l : 1 + m.length * 2 = (vc m).length + 1 := by rw [vc_length]; omega
  unfold rc
  rw [e, List.replicate_succ, List.replicate_succ, l, vc_add, List.length_append, List.length_singleton]
  simp
theorem grown_set (w : World) (g o : Nat) (v : Value) : w.grownBy (w.setCell ⟨g, o, none⟩ v) (some g) := ⟨rfl, rfl, rfl, by simp, fun i _ hi => heap_setCell_other w ⟨g, o, none⟩ i _ (fun e => hi (by simp [e]))⟩
theorem Rt.push (h : Rt w g m) {p : Nat} (hp : m.length = p) (hm : p < 16) (k n : Int) : Rt (((w.setCell ⟨g, 1 + p * 2, none⟩ (.int .i64 k)).setCell ⟨g, 1 + p * 2 + 1, none⟩ (.int .i64 n)).drew.setCell ⟨g, 0, none⟩ (.int .i64 ((p : Int) + 1))) g (m ++ [(k, n)]) := by
  have h1 := heap_setCell_same w g (1 + p * 2) _ _ (.int .i64 k) h.1
  rw [List.setIfInBounds_toArray] at h1
  have h2 := heap_setCell_same _ g (1 + p * 2 + 1) _ _ (.int .i64 n) h1
  rw [List.setIfInBounds_toArray] at h2
  have h3 := heap_setCell_same (((w.setCell ⟨g, 1 + p * 2, none⟩ (.int .i64 k)).setCell ⟨g, 1 + p * 2 + 1, none⟩ (.int .i64 n)).drew) g 0 _ _ (.int .i64 ((p : Int) + 1)) h2
  rw [List.setIfInBounds_toArray, rc_push hp hm] at h3
  exact ⟨h3, by simp; omega⟩
theorem Rt.pop {x : Va} (h : Rt w g (m ++ [x])) {p : Nat} (hp : m.length = p) (hm : p < 16) : Rt (((w.setCell ⟨g, 0, none⟩ (.int .i64 p)).setCell ⟨g, 1 + p * 2, none⟩ (.int .i64 0)).setCell ⟨g, 1 + p * 2 + 1, none⟩ (.int .i64 0)) g m := by
  have h1 := heap_setCell_same w g 0 _ _ (.int .i64 p) h.1
  rw [List.setIfInBounds_toArray] at h1
  have h2 := heap_setCell_same _ g (1 + p * 2) _ _ (.int .i64 0) h1
  rw [List.setIfInBounds_toArray] at h2
  have h3 := heap_setCell_same _ g (1 + p * 2 + 1) _ _ (.int .i64 0) h2
  rw [List.setIfInBounds_toArray, rc_pop hp hm] at h3
  exact ⟨h3, by omega⟩
/-- The values, as a part of the object. -/
theorem Rt.rv (h : Rt w g m) : Rv w w.heap.size (some ⟨g, 1, none⟩) m.length 16 m :=
  ⟨rfl, h.2, by unfold maxLen; omega, fun i hi => ⟨g, 1, rfl, h.lt, h.at_ hi⟩⟩
theorem arr16 : Try.prog.arrayLen 30 = 16 := by kernel_rfl
theorem slice16 (g n : Nat) (hn : n ≤ 16) : ∀ w : World, (Instr.sliceAt 30 (.pointer (some ⟨g, 1, none⟩)) none (some (.int .i64 n)) none).run Try.prog w = .ok (.slice (some ⟨g, 1, none⟩) n 16) w := fun w => by
  rw [run_sliceAt_array_h w _ _ (by kernel_rfl) .i64 n (by omega) (by rw [arr16]; omega)]
  have e : ∀ w, (Go.sizeOf (Try.prog.elem 30)).run Try.prog w = .ok 2 w := fun w => by kernel_rfl
  rw [e, arr16]
  simp [slicedAt, Addr.add, Result.andThen]
/-- What is answered but for what was drawn. -/
theorem held_any (h : Rt w g m) : Calls Try.prog 21 #[.pointer (some ⟨g, 0, none⟩)] w fun e w' => e = .returned (.slice (some ⟨g, 1, none⟩) m.length 16) ∧ Drew w w' := by
  have c := h.count
  have l1 := h.2
  generalize m.length = n at c l1
  have SL := slice16 g n l1
  clear h
  go_enter Try.func21, Try.ntmps21
  go_wp2
  go_quiet (fail)
  go_wp2
  go_ret
  exact ⟨rfl, _, rfl⟩
theorem held_nil (w : World) : Calls Try.prog 21 #[.pointer none] w fun e w' => e = .returned (.slice none 0 0) ∧ w = w' := by
  go_enter Try.func21, Try.ntmps21
  go_wp2
  go_ret
  exact ⟨rfl, rfl⟩
theorem Len_any (h : Rt w g m) : Calls Try.prog 16 #[.pointer (some ⟨g, 0, none⟩)] w fun e w' => e = .returned (.int .i64 m.length) ∧ Drew w w' := by
  have HP := Lib.hid (held_any h)
  have l1 := h.2
  generalize m.length = n at HP l1
  clear h
  go_enter Try.func16, Try.ntmps16
  go_wp2_with (go_at_call 21; (with_reducible refine HP.out.mono ?_); rintro e w' ⟨rfl, q, rfl⟩)
  go_ret
  exact ⟨rfl, _, rfl⟩
theorem Len_nil (w : World) : Calls Try.prog 16 #[.pointer none] w fun e w' => e = .returned (.int .i64 0) ∧ w = w' := by
  go_enter Try.func16, Try.ntmps16
  go_wp2_with (go_at_call 21; (with_reducible refine (held_nil _).mono ?_); rintro e w' ⟨rfl, rfl⟩)
  go_ret
  exact ⟨rfl, rfl⟩
end
end Go.Proofs.Ytpghghmmoihimaa.ro
