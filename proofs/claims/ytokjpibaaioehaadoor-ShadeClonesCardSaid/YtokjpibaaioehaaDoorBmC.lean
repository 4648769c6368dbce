/- What Count, Next and Clear do to a set in memory. -/
import Derived.Test.YtokjpibaaioehaaDoorBmB
import Derived.Lib.SliceRun
import Derived.ChangeKeysEq
import Derived.Deep.MidRow
namespace Go.Proofs.YtokjpibaaioehaaDoor.bm
open Go.ChangeShapes Go.WideShapes Go.ChangeAt Go.RowKit
set_option linter.unusedVariables false

/-! ### An array within a block -/
theorem index_at (cs : Array Value) (k : Nat) (hk : k < 32) (v : Value) (hv : cs[k]? = some v) : ∀ w, (Instr.index 73 (.agg cs) (.int .i64 (k : Int))).run Tryd.prog w = .ok v w := by
  intro w
  have h1 : (sizeOf 72).run Tryd.prog w = .ok 1 w := by kernel_rfl
  simp [Instr.index, asIntOf, run_underlying Tryd.underlying73, h1, part, hv]
  intro h
  omega

/-! ### Written over -/
def over (L : List Value) (o : Nat) : List Value → List Value
  | [] => L
  | v :: vs => over (L.set o v) (o + 1) vs
theorem over_heap {g : Nat} {t : TypeId} : ∀ (vs : List Value) (o : Nat) (w : World) (L : List Value), w.heap[g]? = some (.cells L.toArray t (0, 0)) →
    (w.setCells g o vs).heap[g]? = some (.cells (over L o vs).toArray t (0, 0)) ∧ w.grownBy (w.setCells g o vs) (some g)
  | [], _, w, L, h => ⟨h, grown_refl _ _⟩
  | v :: vs, o, w, L, h => by
    have h1 := heap_setCell_same w g o _ _ v h
    rw [show (L.toArray.setIfInBounds o v) = (L.set o v).toArray by simp] at h1
    obtain ⟨i1, i2⟩ := over_heap vs (o + 1) _ _ h1
    have g1 : w.grownBy (w.setCell ⟨g, o, none⟩ v) (some g) := ⟨rfl, rfl, rfl, by simp, fun i _ hi => heap_setCell_other w ⟨g, o, none⟩ i _ (fun e => hi (by simp [e]))⟩
    exact ⟨i1, g1.trans i2⟩
theorem over_end (z : Value) : ∀ (B A : List Value), over (A ++ B) A.length (List.replicate B.length z) = A ++ List.replicate B.length z
  | [], A => by simp [over]
  | v :: B, A => by
    have ih := over_end z B (A ++ [z])
    rw [List.length_cons, List.replicate_succ, over]
    rw [show (A ++ v :: B).set A.length z = A ++ [z] ++ B by simp]
    rw [show A.length + 1 = (A ++ [z]).length by simp, ih]
    simp

section
variable {w : World} {g n : Nat} {b : Bool} {ws : List Nat}
theorem vals_length (ws : List Nat) : (vals ws).length = ws.length := by simp [vals]
theorem SetAt.cells (h : SetAt w g b n ws) : ∀ j v, (vals ws)[j]? = some v → w.cell? ⟨g, 2 + j, none⟩ = some v := by
  intro j v hv
  rw [cell_of_row w g (2 + j) _ _ _ h.1, Nat.add_comm]
  simpa using hv
theorem SetAt.at_ (h : SetAt w g b n ws) {k : Nat} (hk : k < 32) : (vals ws).toArray[k]? = some (.int .u64 (ws.getD k 0 : Nat)) := by
  have := h.2.1
  simp [vals, show k < ws.length by omega]
theorem Count_nil (w : World) : Calls Tryd.prog 39 #[.pointer none] w fun e w' => e = .returned (.int .i64 0) ∧ w' = w := by
  go_enter Tryd.func39, Tryd.ntmps39
  go_wp2
  go_ret
  exact ⟨rfl, rfl⟩
theorem info32 : (Tryd.prog.info? 73).map (·.size) = some 32 := by kernel_rfl
set_option maxRecDepth 100000 in
theorem Count_yes (h : SetAt w g b n ws) : Calls Tryd.prog 39 #[.pointer (some ⟨g, 0, none⟩)] w fun e w' => e = .returned (.int .i64 (nums ws).length) ∧ w' = w := by
  have HC := Lib.hid h.cells
  have HL := Lib.hid (show (vals ws).length = 32 by rw [vals_length]; exact h.2.1)
  have HA := Lib.hid (fun (k : Nat) (hk : k < 32) => index_at _ k hk _ (h.at_ hk))
  have HN := Lib.hid (count_all ws)
  have HW := Lib.hid h.lt_word
  generalize vals ws = vs at HC HL HA
  clear h
  go_enter Tryd.func39, Tryd.ntmps39
  go_wp2_with (refine wpList_load_mid rfl 73 (.tmp 10) rfl g 2 rfl vs _ HC.out Tryd.underlying73 rfl (by rw [HL.out]; exact info32) ?_)
  go_loopw [3, 12] (fun s i wr => ∃ k : Nat, k ≤ 32 ∧ s = .int .i64 (count ws k) ∧ i = .int .i64 k ∧ wr = w) (fun _ i _ => 32 - (intOf i).toNat)
  case atStart => exact ⟨0, by omega, rfl, rfl, rfl⟩
  case round =>
    obtain ⟨k, hk, rfl, rfl, hw⟩ := hrel
    subst hw
    have hc := count_le ws k
    by_cases hlt : k < 32
    · have hI := HA.out k hlt
      have hs := Lib.hid (count_succ ws k)
      have hp := pop_le 64 (ws.getD k 0)
      have lw := Lib.hid (ones_any (ws.getD k 0) (HW.out k) wr)
      obtain ⟨y, hy⟩ : ∃ y, y = pop 64 (ws.getD k 0) := ⟨_, rfl⟩
      rw [← hy] at hs hp lw
      clear hy
      generalize ws.getD k 0 = x at hI lw
      have sm : IntKind.i64.wrap ((count ws k : Int) + (y : Int)) = ((count ws k + y : Nat) : Int) := IntWalk.i64_in _ (by omega)
      go_wp2_with (go_at_call 50; (with_reducible refine lw.out.mono ?_); rintro e w' ⟨rfl, rfl⟩)
      go_roundw
      case rel => exact ⟨k + 1, by omega, (by rw [hs.out]; rfl), by go_num, trivial⟩
      case measure => simp [intOf]; omega
    · obtain rfl : k = 32 := by omega
      go_wp2
      go_ret
      exact ⟨by rw [← HN.out]; rfl, rfl⟩
theorem zero64 : ∀ w, (zeroValue 72).run Tryd.prog w = .ok (.int .u64 0) w := fun w => by kernel_rfl
theorem zero_vals : vals zeros = List.replicate 32 (.int .u64 0) := by simp [vals, zeros]
end
end Go.Proofs.YtokjpibaaioehaaDoor.bm
