/- New, Clone and All of a set. -/
import Derived.Test.YtokjpibaaioehaaDoorBmE
namespace Go.Proofs.YtokjpibaaioehaaDoor.bm
open Go.ChangeShapes Go.WideShapes Go.ChangeAt Go.RowKit gen
set_option linter.unusedVariables false

/-- The nearest number that may be. -/
def near (n a b : Int) : Int := if n < a then a else if b < n then b else n
theorem ret_int {a b : Int} (h : a = b) : Ending.returned (.int .i64 a) = .returned (.int .i64 b) := by rw [h]
theorem Clamp_any (n a b : Int) (w : World) : Calls Tryd.prog 45 #[.int .i64 n, .int .i64 a, .int .i64 b] w fun e w' => e = .returned (.int .i64 (near n a b)) ∧ w = w' := by
  by_cases h : n < a
  · go_enter Tryd.func45, Tryd.ntmps45
    go_wp2
    go_ret
    exact ⟨by simp [near, h], rfl⟩
  by_cases h2 : b < n
  all_goals
    go_enter Tryd.func45, Tryd.ntmps45
    go_wp2
    go_ret
    exact ⟨ret_int (by unfold near; repeat' split
                       all_goals omega), rfl⟩
theorem near_nat (n : Int) (b : Nat) : ∃ k : Nat, near n 0 b = k ∧ k ≤ b := by
  refine ⟨(near n 0 b).toNat, ?_, ?_⟩ <;> (unfold near; repeat' split) <;> omega
/-- What New answers: a new set in a new block. -/
def NewAns (b : Bool) (n : Nat) (ws : List Nat) (w : World) (e : Ending) (w' : World) : Prop := ∃ g, e = .returned (.pointer (some ⟨g, 0, none⟩)) ∧ SetAt w' g b n ws ∧ w.heap.size ≤ g ∧ w.grownBy w' none
theorem zeros_cells (b : Bool) (n : Int) : (Value.bool b :: .int .i64 n :: vals zeros).toArray = #[.bool b, .int .i64 n, .int .u64 0, .int .u64 0, .int .u64 0, .int .u64 0, .int .u64 0, .int .u64 0, .int .u64 0, .int .u64 0, .int .u64 0, .int .u64 0, .int .u64 0, .int .u64 0, .int .u64 0, .int .u64 0, .int .u64 0, .int .u64 0, .int .u64 0, .int .u64 0, .int .u64 0, .int .u64 0, .int .u64 0, .int .u64 0, .int .u64 0, .int .u64 0, .int .u64 0, .int .u64 0, .int .u64 0, .int .u64 0, .int .u64 0, .int .u64 0, .int .u64 0, .int .u64 0] := rfl
theorem New_any (n : Int) (k : Nat) (hk : near n 0 2048 = k) (w : World) :
    Calls Tryd.prog 25 #[.int .i64 n] w (NewAns true k zeros w) := by
  have h2 : k ≤ 2048 := by unfold near at hk; repeat' split at hk
                           all_goals omega
  have HK := Lib.hid hk
  clear hk
  go_enter Tryd.func25, Tryd.ntmps25
  go_wp2_with (go_at_call 45; (with_reducible refine (Clamp_any _ _ _ _).mono ?_); rintro e w' ⟨rfl, rfl⟩; rw [HK.out])
  go_ret
  refine ⟨w.heap.size, rfl, ⟨?_, Fine.zeros h2⟩, Nat.le_refl _, World.grownBy_alloc _ _ _⟩
  rw [zeros_cells, heap_alloc_new]
section
variable {w : World} {g n : Nat} {b : Bool} {ws : List Nat}
theorem info_set : (Tryd.prog.info? 75).map (·.size) = some 34 := by kernel_rfl
theorem Clone_nil (w : World) : Calls Tryd.prog 32 #[.pointer none] w fun e w' => e = .returned (.pointer none) ∧ w' = w := by
  go_enter Tryd.func32, Tryd.ntmps32
  go_wp2
  go_ret
  exact ⟨rfl, rfl⟩
theorem Clone_odd (h : SetAt w g false n ws) : Calls Tryd.prog 32 #[.pointer (some ⟨g, 0, none⟩)] w fun e w' => e = .returned (.pointer none) ∧ w' = w := by
  have c := h.made
  clear h
  go_enter Tryd.func32, Tryd.ntmps32
  go_wp2
  go_ret
  exact ⟨rfl, rfl⟩
theorem Clone_yes (h : SetAt w g true n ws) : Calls Tryd.prog 32 #[.pointer (some ⟨g, 0, none⟩)] w (NewAns true n ws w) := by
  have c := h.made
  have H := Lib.hid h
  obtain ⟨cs, hcs⟩ : ∃ cs, cs = (Value.bool true :: .int .i64 n :: vals ws).toArray := ⟨_, rfl⟩
  have HC := Lib.hid (show w.heap[g]? = some (.cells cs 75 (0, 0)) by rw [hcs]; exact h.1)
  have HS := Lib.hid (show cs.size = 34 by rw [hcs]; have := h.2.1; simp [vals, this])
  have H1 := Lib.hid (show cs.all (·.oneCell') = true by
    rw [hcs, Array.all_eq_true_iff_forall_mem]
    intro v hv
    simp only [List.mem_toArray, List.mem_cons, vals, List.mem_map] at hv
    rcases hv with rfl | rfl | ⟨x, _, rfl⟩ <;> rfl)
  have HE := Lib.hid hcs
  clear h hcs
  go_enter Tryd.func32, Tryd.ntmps32
  go_wp2_with (first
    | (refine wpList_load_row rfl 75 (.tmp 14) rfl g rfl 75 cs (0, 0) _ HC.out Tryd.underlying75 rfl (by rw [HS.out]; exact info_set) ?_)
    | (refine wpList_store_row rfl 75 (.tmp 3) (.tmp 15) rfl w.heap.size cs rfl rfl _ _ (heap_alloc_new _ _) (by rw [HS.out]; exact info_set) (by rw [HS.out]; rfl) H1.out ?_))
  go_ret
  refine ⟨w.heap.size, rfl, ⟨?_, H.out.2⟩, Nat.le_refl _, ?_⟩
  · rw [← HE.out]
    exact setRow_heap _ _ _ _ _ _ (heap_alloc_new _ _)
  · exact ⟨rfl, rfl, rfl, by simp [World.setRow], fun k hk _ => (setRow_other _ _ k _ (by omega)).trans (heap_alloc_old w _ hk)⟩
theorem nums_nonneg (h : SetAt w g b n ws) : ∀ z ∈ nums ws, 0 ≤ z := fun z hz => (mem_nums_lt h.2 hz).1
theorem next_first (h : SetAt w g b n ws) : nextOf (nums ws) 0 = (nums ws).getD 0 (-1) := nextOf_first (nums_nonneg h)
theorem All_nil (w : World) : Calls Tryd.prog 44 #[.pointer none] w fun e w' => e = .returned (.slice none 0 0) ∧ w' = w := by
  go_enter Tryd.func44, Tryd.ntmps44
  go_wp2_with (go_at_call 54; (with_reducible refine (Next_nil _ _).mono ?_); rintro e w' ⟨rfl, hw⟩; subst hw)
  go_loopw [3, 4] (fun v i wr => v = .slice none 0 0 ∧ i = .int .i64 (-1) ∧ wr = w') (fun _ _ _ => 0)
  case atStart => exact ⟨rfl, rfl, rfl⟩
  case round =>
    obtain ⟨rfl, rfl, hw⟩ := hrel
    subst hw
    go_wp2
    go_ret
    exact ⟨rfl, rfl⟩
theorem All_yes (h : SetAt w g b n ws) (hT : Tab w) (hg0 : g ≠ 0) : Calls Tryd.prog 44 #[.pointer (some ⟨g, 0, none⟩)] w (ListAns (nums ws) w) := by
  obtain ⟨i0, hi, hz0, hz1, hz2⟩ := info_parts info_int
  have E : Hid (i0.zero = some (.int .i64 0) ∧ i0.size = 1 ∧ i0.bytes = 8 ∧ Tryd.prog.info? 3 = some i0) := ⟨hz0, hz1, hz2, hi⟩
  have H := Lib.hid h
  have HT := Lib.hid hT
  have P := Lib.hid (Next_any h hT 0)
  rw [next_first h] at P
  obtain ⟨xs, hxs⟩ : ∃ xs, xs = nums ws := ⟨_, rfl⟩
  have HU := Lib.hid (nums_up ws)
  have HN := Lib.hid (nums_nonneg h)
  have HL := Lib.hid (nums_length ws)
  have HA := Lib.hid (show ∀ (W : World) (k : Nat), SetAt W g b n ws → Tab W → k < xs.length → Calls Tryd.prog 54 #[.pointer (some ⟨g, 0, none⟩), .int .i64 (xs.getD k 0 + 1)] W fun e w' => e = .returned (.int .i64 (xs.getD (k + 1) (-1))) ∧ Drew W w' by
    intro W k hS hTW hk
    rw [hxs] at hk ⊢
    rw [← nextOf_at k (nums_up ws) hk]
    exact Next_any hS hTW _)
  rw [← hxs] at P HU HN HL ⊢
  have HB := Lib.hid (show ∀ k, k < xs.length → xs.getD k 0 < 2048 by
    intro k hk
    rw [hxs] at hk ⊢
    have := mem_nums_lt h.2 (getD_mem hk 0)
    have := h.2.2.2.2
    omega)
  clear hi hz0 hz1 hz2 h hT hxs
  have hl := HL.out
  go_enter Tryd.func44, Tryd.ntmps44
  go_wp2_with (go_at_call 54; (with_reducible refine P.out.mono ?_); rintro e w' ⟨rfl, d, rfl⟩)
  go_loopw [3, 4] (fun v i wr => ∃ (k : Nat) (A' : Option Addr) (c' : Nat), k ≤ xs.length ∧ i = .int .i64 (xs.getD k (-1)) ∧ v = .slice A' k c' ∧ wr.ownsRow w.heap.size 3 1 (.slice A' k c') k (ints (xs.take k)) ∧ w.grownBy wr none) (fun v _ _ => xs.length - (match v with | .slice _ k _ => k | _ => 0))
  case atStart => exact ⟨0, none, 0, Nat.zero_le _, rfl, rfl, World.ownsRow_nil _ _ _ _, grown_drewN _ _ _⟩
  case round =>
    obtain ⟨k, A', c', hk, rfl, rfl, ho, hg⟩ := hrel
    have HO := Lib.hid ho
    have HG := Lib.hid hg
    clear ho hg
    by_cases hlt : k < xs.length
    · have e0 : xs.getD k (-1) = xs.getD k 0 := by simp [List.getD_eq_getElem?_getD, hlt]
      have hm := HN.out _ (getD_mem hlt 0)
      have hb := HB.out k hlt
      have HM := Lib.hid (take_more hlt 0)
      have HC := Lib.hid (fun W h1 h2 => HA.out W k h1 h2 hlt)
      rw [e0]
      generalize xs.getD k 0 = x at hm hb HM HC
      obtain ⟨y, hy⟩ : ∃ y, xs.getD (k + 1) (-1) = y := ⟨_, rfl⟩
      rw [hy] at HC
      have HY := Lib.hid hy
      clear hy
      have e1 : (x == -1) = false := by simp; omega
      have e2 : (x != -1) = true := by simp; omega
      have e3 : IntKind.i64.wrap (x + 1) = x + 1 := IntWalk.i64_in _ (by omega)
      clear e0
      go_wp2_with (first
        | (refine wpList_append_rd rfl (.tmp 13) (.tmp 15) 49 rfl w.heap.size 3 i0 (.int .i64 0) 8 Tryd.underlying49 E.out.2.2.2 E.out.1 E.out.2.1 E.out.2.2.1 rfl _ k (xs.take k) rfl (HO.out.alloc _) (some ⟨wr.heap.size, 0, none⟩) 1 1 _ [x] rfl (Rd.one _ _ _) (by unfold maxLen; omega) (by omega) (by have := HG.out.size; simp; omega) ?_; intro A3 c3 w2 own1 rd1 gr1; have OWN1 := Lib.hid own1; have G1 := Lib.hid (grown_one HG.out HO.out (Nat.le_refl _) gr1); clear own1 gr1 rd1)
        | (go_at_call 54; (with_reducible refine (HC.out _ (H.out.kept G1.out (by simp)) (HT.out.kept G1.out (by simp))).mono ?_); rintro e w' ⟨rfl, d2, rfl⟩))
      go_roundw
      case rel => exact ⟨k + 1, A3, c3, by omega, by rw [HY.out], rfl, by rw [HM.out]; exact OWN1.out, grown_more G1.out (grown_drewN _ _ _)⟩
      case measure => simp; omega
    · obtain rfl : k = xs.length := by omega
      have e0 : xs.getD xs.length (-1) = -1 := by simp
      rw [e0]
      go_wp2
      go_ret
      have ho := HO.out
      rw [List.take_of_length_le (Nat.le_refl _)] at ho
      exact ⟨A', c', rfl, ho, HG.out⟩
end
end Go.Proofs.YtokjpibaaioehaaDoor.bm
