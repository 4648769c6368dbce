/- What layer 15's New, Attach, Detach, Raise, Confirm and Clone do; Clamp, and the statement's own Near. -/
import Derived.Test.YtahiagaocnmjpaaEpA
import Derived.Laws.CopyOwn
namespace Go.Proofs.Ytahiagaocnmjpaa.ep
open Go.ChangeShapes Go.WideShapes Go.ChangeAt Go.RowKit gen li
set_option linter.unusedVariables false
set_option maxHeartbeats 4000000
set_option maxRecDepth 100000

theorem grown_set (w : World) (g o : Nat) (v : Value) : w.grownBy (w.setCell ⟨g, o, none⟩ v) (some g) := ⟨rfl, rfl, rfl, by simp, fun i _ hi => heap_setCell_other w ⟨g, o, none⟩ i _ (fun e => hi (by simp [e]))⟩
theorem ec_put {b : Bool} {e : Nat} {m : List Int} {k : Nat} (hk : k < m.length) (h8 : m.length ≤ 8) (x : Int) :
    ((ec b e m).set (3 + k * 2) (.bool (lv x))).set (3 + k * 2 + 1) (.int .i64 (cf x)) = ec b e (m.set k x) := by
  have h := tc_set (pad m) k x (by rw [pad_length h8]; omega)
  rw [pad_set hk] at h
  rw [show 3 + k * 2 = 2 * k + 1 + 1 + 1 by omega]
  simp only [ec, List.set_cons_succ, List.length_set]
  rw [h]
theorem ec_put1 {b : Bool} {e : Nat} {m : List Int} {k : Nat} (hk : k < m.length) (h8 : m.length ≤ 8) (x : Int) (hx : lv (m.getD k (-1)) = lv x) :
    (ec b e m).set (3 + k * 2 + 1) (.int .i64 (cf x)) = ec b e (m.set k x) := by
  have h := tc_set1 (pad m) k x (by rw [pad_length h8]; omega) (by rw [pad_at]; exact hx)
  rw [pad_set hk] at h
  rw [show 3 + k * 2 + 1 = (2 * k + 1) + 1 + 1 + 1 by omega]
  simp only [ec, List.set_cons_succ, List.length_set]
  rw [h]
theorem mem_put {m : List Int} {k : Nat} {x y : Int} (h : y ∈ m.set k x) : y ∈ m ∨ y = x := by
  rcases List.mem_or_eq_of_mem_set h with h | h
  · exact .inl h
  · exact .inr h
/-- The nearest number that may be. -/
def near (n a b : Int) : Int := if n < a then a else if b < n then b else n
theorem ret_int {a b : Int} (h : a = b) : Ending.returned (.int .i64 a) = .returned (.int .i64 b) := by rw [h]
theorem near_nat (n : Int) (b : Nat) : ∃ k : Nat, near n 0 b = k ∧ k ≤ b := by
  refine ⟨(near n 0 b).toNat, ?_, ?_⟩ <;> (unfold near; repeat' split) <;> omega
section
variable {w w' : World} {g : Nat} {b : Bool} {e : Nat} {m : List Int}
theorem Rg.put (h : Rg w g b e m) {k : Nat} (hk : k < m.length) {x : Int} (h1 : -1 ≤ x) (h2 : x ≤ (e : Int)) :
    Rg ((w.setCell ⟨g, 3 + k * 2, none⟩ (.bool (lv x))).setCell ⟨g, 3 + k * 2 + 1, none⟩ (.int .i64 (cf x))) g b e (m.set k x) := by
  have g1 := heap_setCell_same w g (3 + k * 2) _ _ (.bool (lv x)) h.1
  rw [List.setIfInBounds_toArray] at g1
  have g2 := heap_setCell_same _ g (3 + k * 2 + 1) _ _ (.int .i64 (cf x)) g1
  rw [List.setIfInBounds_toArray, ec_put hk h.2.1] at g2
  refine ⟨g2, by simpa using h.2.1, fun y hy => ?_⟩
  rcases mem_put hy with hy | rfl
  · exact h.2.2 y hy
  · exact ⟨h1, h2⟩
theorem Rg.put1 (h : Rg w g b e m) {k : Nat} (hk : k < m.length) {x : Int} (h1 : -1 ≤ x) (h2 : x ≤ (e : Int)) (hx : lv (m.getD k (-1)) = lv x) :
    Rg (w.setCell ⟨g, 3 + k * 2 + 1, none⟩ (.int .i64 (cf x))) g b e (m.set k x) := by
  have g1 := heap_setCell_same w g (3 + k * 2 + 1) _ _ (.int .i64 (cf x)) h.1
  rw [List.setIfInBounds_toArray, ec_put1 hk h.2.1 x hx] at g1
  refine ⟨g1, by simpa using h.2.1, fun y hy => ?_⟩
  rcases mem_put hy with hy | rfl
  · exact h.2.2 y hy
  · exact ⟨h1, h2⟩
theorem Rg.raise (h : Rg w g b e m) : Rg (w.setCell ⟨g, 2, none⟩ (.int .i64 ((e : Int) + 1))) g b (e + 1) m := by
  have g1 := heap_setCell_same w g 2 _ _ (.int .i64 ((e : Int) + 1)) h.1
  rw [List.setIfInBounds_toArray] at g1
  refine ⟨g1, h.2.1, fun y hy => ?_⟩
  have := h.2.2 y hy
  omega
theorem Attach_nil (t : Int) (w : World) : Calls Try.prog 11 #[.pointer none, .int .i64 t] w fun r w' => r = .returned (.bool false) ∧ w = w' := by
  go_enter Try.func11, Try.ntmps11
  go_wp2_with (go_at_call 29; (with_reducible refine (has_nil _ _).mono ?_); rintro r w' ⟨rfl, rfl⟩)
  go_ret
  exact ⟨rfl, rfl⟩
/-- Refused: there is no such thread, or it is live. -/
theorem Attach_no (h : Rg w g b e m) (t : Int) (hn : hs m t = false ∨ 0 ≤ of m t) : Calls Try.prog 11 #[.pointer (some ⟨g, 0, none⟩), .int .i64 t] w fun r w' => r = .returned (.bool false) ∧ w = w' := by
  have HA := has_any h t
  have hl := h.2.1
  by_cases h1 : 0 ≤ t ∧ t < (m.length : Int)
  · have h2 : 0 ≤ of m t := by
      rcases hn with hn | hn
      · rw [show hs m t = true from decide_eq_true h1] at hn; cases hn
      · exact hn
    rw [show hs m t = true from decide_eq_true h1] at HA
    obtain ⟨k, rfl⟩ : ∃ k : Nat, t = k := ⟨t.toNat, by omega⟩
    obtain ⟨c0, c1⟩ := h.at_ (i := k) (by omega)
    rw [← of_nat, show lv (of m k) = true from decide_eq_true h2] at c0
    have k8 : k < 8 := by omega
    have k0 : (0 : Int) ≤ (k : Int) := by omega
    have HB := Lib.hid HA
    clear HA h h1 hl c1 hn h2
    go_enter Try.func11, Try.ntmps11
    go_wp2_with (go_at_call 29; (with_reducible refine HB.out.mono ?_); rintro r w' ⟨rfl, rfl⟩)
    go_ret
    exact ⟨rfl, rfl⟩
  · rw [show hs m t = false from decide_eq_false h1] at HA
    have HB := Lib.hid HA
    clear HA h h1 hl hn
    go_enter Try.func11, Try.ntmps11
    go_wp2_with (go_at_call 29; (with_reducible refine HB.out.mono ?_); rintro r w' ⟨rfl, rfl⟩)
    go_ret
    exact ⟨rfl, rfl⟩
theorem Attach_yes (h : Rg w g b e m) (k : Nat) (hk : k < m.length) (ho : of m k = -1) :
    Calls Try.prog 11 #[.pointer (some ⟨g, 0, none⟩), .int .i64 (k : Int)] w fun r w' => r = .returned (.bool true) ∧ Rg w' g b e (m.set k e) ∧ w.grownBy w' (some g) := by
  have HA := has_any h k
  have hl := h.2.1
  rw [show hs m k = true from decide_eq_true (by omega)] at HA
  obtain ⟨c0, c1⟩ := h.at_ (i := k) (by omega)
  rw [← of_nat, ho, lv_neg] at c0
  have c2 := h.epoch
  have k8 : k < 8 := by omega
  have k0 : (0 : Int) ≤ (k : Int) := by omega
  have fz := h.free
  have hlt := h.lt
  have HB := Lib.hid HA
  have H := Lib.hid h
  have HK := Lib.hid hk
  clear HA h hk hl ho
  go_enter Try.func11, Try.ntmps11
  go_wp2_with (go_at_call 29; (with_reducible refine HB.out.mono ?_); rintro r w' ⟨rfl, rfl⟩)
  go_region
  go_wp2
  go_ret
  have R := H.out.put HK.out (x := (e : Int)) (by omega) (by omega)
  rw [lv_nat, cf_nat] at R
  exact ⟨rfl, R, ((grown_set _ _ _ _).trans (grown_set _ _ _ _)).trans (grown_drewN _ 1 _)⟩
theorem Detach_nil (t : Int) (w : World) : Calls Try.prog 12 #[.pointer none, .int .i64 t] w fun r w' => r = .returned (.bool false) ∧ w = w' := by
  go_enter Try.func12, Try.ntmps12
  go_wp2_with (go_at_call 24; (with_reducible refine (Live_nil _ _).mono ?_); rintro r w' ⟨rfl, rfl⟩)
  go_ret
  exact ⟨rfl, rfl⟩
theorem Detach_no (h : Rg w g b e m) (t : Int) (hn : of m t < 0) : Calls Try.prog 12 #[.pointer (some ⟨g, 0, none⟩), .int .i64 t] w fun r w' => r = .returned (.bool false) ∧ w = w' := by
  have HA := Live_any h t
  rw [show lv (of m t) = false from decide_eq_false (by omega)] at HA
  have HB := Lib.hid HA
  clear HA h hn
  go_enter Try.func12, Try.ntmps12
  go_wp2_with (go_at_call 24; (with_reducible refine HB.out.mono ?_); rintro r w' ⟨rfl, rfl⟩)
  go_ret
  exact ⟨rfl, rfl⟩
theorem Detach_yes (h : Rg w g b e m) (k : Nat) (ho : 0 ≤ of m k) :
    Calls Try.prog 12 #[.pointer (some ⟨g, 0, none⟩), .int .i64 (k : Int)] w fun r w' => r = .returned (.bool true) ∧ Rg w' g b e (m.set k (-1)) ∧ w.grownBy w' (some g) := by
  have HA := Live_any h k
  have hl := h.2.1
  obtain ⟨_, hk⟩ := of_in ho
  rw [show lv (of m k) = true from decide_eq_true ho] at HA
  obtain ⟨c0, c1⟩ := h.at_ (i := k) (by omega)
  have k8 : k < 8 := by omega
  have k0 : (0 : Int) ≤ (k : Int) := by omega
  have fz := h.free
  have hlt := h.lt
  have HB := Lib.hid HA
  have H := Lib.hid h
  have HK := Lib.hid (show k < m.length by omega)
  clear HA h hk hl ho
  go_enter Try.func12, Try.ntmps12
  go_wp2_with (go_at_call 24; (with_reducible refine HB.out.mono ?_); rintro r w' ⟨rfl, rfl⟩)
  go_ret
  have R := H.out.put HK.out (x := -1) (by omega) (by omega)
  rw [lv_neg, cf_neg] at R
  exact ⟨rfl, R, (grown_set _ _ _ _).trans (grown_set _ _ _ _)⟩
theorem Raise_nil (w : World) : Calls Try.prog 13 #[.pointer none] w fun r w' => r = .returned (.int .i64 0) ∧ w = w' := by
  go_enter Try.func13, Try.ntmps13
  go_wp2
  go_ret
  exact ⟨rfl, rfl⟩
theorem Raise_odd (h : Rg w g false e m) : Calls Try.prog 13 #[.pointer (some ⟨g, 0, none⟩)] w fun r w' => r = .returned (.int .i64 0) ∧ w = w' := by
  have c := h.made_
  clear h
  go_enter Try.func13, Try.ntmps13
  go_wp2
  go_ret
  exact ⟨rfl, rfl⟩
theorem Raise_yes (h : Rg w g true e m) (he : e ≤ 1000000) : Calls Try.prog 13 #[.pointer (some ⟨g, 0, none⟩)] w fun r w' => r = .returned (.int .i64 ((e : Int) + 1)) ∧ Rg w' g true (e + 1) m ∧ w.grownBy w' (some g) := by
  have c := h.made_
  have c2 := h.epoch
  have fz := h.free
  have hlt := h.lt
  have H := Lib.hid h
  have k0 : (0 : Int) ≤ (e : Int) := by omega
  have k1 : (e : Int) ≤ 1000000 := by omega
  clear h he
  go_enter Try.func13, Try.ntmps13
  go_wp2
  go_ret
  exact ⟨rfl, H.out.raise, grown_set _ _ _ _⟩
theorem Confirm_nil (t : Int) (w : World) : Calls Try.prog 14 #[.pointer none, .int .i64 t] w fun r w' => r = .returned (.bool false) ∧ Drew w w' := by
  have LN := Lib.hid (fun w => (Live_nil t w).mono (fun r w' h => (⟨h.1, h.2.symm⟩ : r = .returned (.bool false) ∧ w' = w)))
  go_enter Try.func14, Try.ntmps14
  go_wp2
  go_quiet (first | (go_at_call 24; refine Calls.quiet_of_same (LN.out _)))
  go_wp2
  go_ret
  exact ⟨rfl, _, rfl⟩
/-- Refused: it is not live, or not behind. -/
theorem Confirm_no (h : Rg w g b e m) (t : Int) (hn : of m t < 0 ∨ of m t = (e : Int)) : Calls Try.prog 14 #[.pointer (some ⟨g, 0, none⟩), .int .i64 t] w fun r w' => r = .returned (.bool false) ∧ Drew w w' := by
  have HA := fun n => (Live_any (h.drewN n) t).mono (fun r w' h => (⟨h.1, h.2.symm⟩ : r = .returned (.bool (lv (of m t))) ∧ w' = w.drewN n))
  by_cases h1 : of m t < 0
  · rw [show lv (of m t) = false from decide_eq_false (by omega)] at HA
    have HB := Lib.hid HA
    clear HA h hn
    go_enter Try.func14, Try.ntmps14
    go_wp2
    go_quiet (first | (go_at_call 24; refine Calls.quiet_of_same (HB.out _)))
    go_wp2
    go_ret
    exact ⟨rfl, _, rfl⟩
  · have h2 : 0 ≤ of m t := by omega
    have h3 : of m t = (e : Int) := by omega
    obtain ⟨p0, p1⟩ := of_in h2
    have hl := h.2.1
    rw [show lv (of m t) = true from decide_eq_true h2] at HA
    obtain ⟨k, rfl⟩ : ∃ k : Nat, t = k := ⟨t.toNat, by omega⟩
    obtain ⟨c0, c1⟩ := h.at_ (i := k) (by omega)
    rw [← of_nat, h3, cf_nat] at c1
    have c2 := h.epoch
    have k8 : k < 8 := by omega
    have k0 : (0 : Int) ≤ (k : Int) := by omega
    have k1 : (k : Int) < 8 := by omega
    have HB := Lib.hid HA
    clear HA h h1 hl c0 hn h2 h3 p0 p1
    go_enter Try.func14, Try.ntmps14
    go_wp2
    go_quiet (first | (go_at_call 24; refine Calls.quiet_of_same (HB.out _)))
    go_wp2
    go_ret
    exact ⟨rfl, _, rfl⟩
theorem Confirm_yes (h : Rg w g b e m) (k : Nat) (ho : 0 ≤ of m k) (hb : of m k < (e : Int)) :
    Calls Try.prog 14 #[.pointer (some ⟨g, 0, none⟩), .int .i64 (k : Int)] w fun r w' => r = .returned (.bool true) ∧ Rg w' g b e (m.set k e) ∧ w.grownBy w' (some g) := by
  have HA := fun n => (Live_any (h.drewN n) k).mono (fun r w' h => (⟨h.1, h.2.symm⟩ : r = .returned (.bool (lv (of m k))) ∧ w' = w.drewN n))
  obtain ⟨_, p1⟩ := of_in ho
  have hl := h.2.1
  rw [show lv (of m k) = true from decide_eq_true ho] at HA
  obtain ⟨c0, c1⟩ := h.at_ (i := k) (by omega)
  have hv := Lib.hid (show lv (m.getD k (-1)) = lv (e : Int) by rw [← of_nat, lv_nat]; exact decide_eq_true ho)
  rw [← of_nat, show cf (of m k) = of m k from if_pos ho] at c1
  have c2 := h.epoch
  have k8 : k < 8 := by omega
  have k0 : (0 : Int) ≤ (k : Int) := by omega
  have k1 : (k : Int) < 8 := by omega
  have fz := h.free
  have hlt := h.lt
  have HB := Lib.hid HA
  have H := Lib.hid h
  have HK := Lib.hid (show k < m.length by omega)
  have t1 : decide (of m k ≥ (e : Int)) = false := decide_eq_false (by omega)
  have t2 : decide ((e : Int) ≤ of m k) = false := decide_eq_false (by omega)
  generalize of m k = y at c1 t1 t2
  clear HA h hl ho hb c0 p1
  go_enter Try.func14, Try.ntmps14
  go_wp2
  go_quiet (first | (go_at_call 24; refine Calls.quiet_of_same (HB.out _)))
  go_wp2
  go_region
  go_wp2
  go_ret
  have R := fun n => (H.out.drewN n).put1 HK.out (x := (e : Int)) (by omega) (by omega) hv.out
  rw [cf_nat] at R
  exact ⟨rfl, R _, (grown_drewN _ _ _).trans (grown_set _ _ _ _)⟩
theorem Clamp_any (n a b : Int) (w : World) : Calls Try.prog 27 #[.int .i64 n, .int .i64 a, .int .i64 b] w fun e w' => e = .returned (.int .i64 (near n a b)) ∧ w = w' := by
  by_cases h : n < a
  · go_enter Try.func27, Try.ntmps27
    go_wp2
    go_ret
    exact ⟨by simp [near, h], rfl⟩
  by_cases h2 : b < n
  all_goals
    go_enter Try.func27, Try.ntmps27
    go_wp2
    go_ret
    exact ⟨ret_int (by unfold near; repeat' split
                       all_goals omega), rfl⟩
theorem Near_any (n a b : Int) (w : World) : Calls Try.prog 28 #[.int .i64 n, .int .i64 a, .int .i64 b] w fun e w' => e = .returned (.int .i64 (near n a b)) ∧ w = w' := by
  by_cases h : n < a
  · go_enter Try.func28, Try.ntmps28
    go_wp2
    go_ret
    exact ⟨by simp [near, h], rfl⟩
  by_cases h2 : b < n
  all_goals
    go_enter Try.func28, Try.ntmps28
    go_wp2
    go_ret
    exact ⟨ret_int (by unfold near; repeat' split
                       all_goals omega), rfl⟩
/-- A registry that was made. -/
def NewAns (e : Nat) (m : List Int) (w : World) (r : Ending) (w' : World) : Prop := ∃ g, r = .returned (.pointer (some ⟨g, 0, none⟩)) ∧ Rg w' g true e m ∧ w.heap.size ≤ g ∧ w.grownBy w' none
theorem rep_pad {k : Nat} (h : k ≤ 8) : pad (List.replicate k (-1)) = List.replicate 8 (-1) := by
  unfold pad
  rw [List.length_replicate, List.replicate_append_replicate]
  congr 1
  omega
theorem ec_rep (b : Bool) {k : Nat} (h : k ≤ 8) : ec b 0 (List.replicate k (-1)) = [.bool b, .int .i64 k, .int .i64 0, .bool false, .int .i64 0, .bool false, .int .i64 0, .bool false, .int .i64 0, .bool false, .int .i64 0, .bool false, .int .i64 0, .bool false, .int .i64 0, .bool false, .int .i64 0, .bool false, .int .i64 0] := by
  unfold ec
  rw [rep_pad h, List.length_replicate]
  rfl
theorem Rg.fresh (w : World) (b : Bool) {k : Nat} (h : k ≤ 8) : Rg (w.alloc (.cells #[.bool b, .int .i64 k, .int .i64 0, .bool false, .int .i64 0, .bool false, .int .i64 0, .bool false, .int .i64 0, .bool false, .int .i64 0, .bool false, .int .i64 0, .bool false, .int .i64 0, .bool false, .int .i64 0, .bool false, .int .i64 0] 47)) w.heap.size b 0 (List.replicate k (-1)) := by
  refine ⟨?_, by simpa using h, fun x hx => by rw [List.eq_of_mem_replicate hx]; omega⟩
  rw [ec_rep b h]
  exact heap_alloc_new _ _
theorem New_any (n : Int) (k : Nat) (hk : near n 0 8 = k) (h8 : k ≤ 8) (w : World) : Calls Try.prog 8 #[.int .i64 n] w (NewAns 0 (List.replicate k (-1)) w) := by
  have HK := Lib.hid hk
  have H8 := Lib.hid h8
  clear hk h8
  go_enter Try.func8, Try.ntmps8
  go_wp2_with (go_at_call 27; (with_reducible refine (Clamp_any _ _ _ _).mono ?_); rintro e w' ⟨rfl, rfl⟩; rw [HK.out])
  go_ret
  exact ⟨_, rfl, Rg.fresh w true H8.out, Nat.le_refl _, World.grownBy_alloc _ _ _⟩
theorem Clone_nil (w : World) : Calls Try.prog 22 #[.pointer none] w fun e w' => e = .returned (.pointer none) ∧ w = w' := by
  go_enter Try.func22, Try.ntmps22
  go_wp2
  go_ret
  exact ⟨rfl, rfl⟩
theorem Clone_odd (h : Rg w g false e m) : Calls Try.prog 22 #[.pointer (some ⟨g, 0, none⟩)] w fun e w' => e = .returned (.pointer none) ∧ w = w' := by
  have c := h.made_
  clear h
  go_enter Try.func22, Try.ntmps22
  go_wp2
  go_ret
  exact ⟨rfl, rfl⟩
theorem info_reg : (Try.prog.info? 47).map (·.size) = some 19 := by kernel_rfl
theorem tc_one : ∀ (m : List Int), ∀ v ∈ tc m, v.oneCell' = true
  | [], v, h => by simp [tc] at h
  | x :: m, v, h => by
    simp only [tc, List.mem_cons] at h
    rcases h with rfl | rfl | h
    · rfl
    · rfl
    · exact tc_one m v h
theorem ec_one (b : Bool) (e : Nat) (m : List Int) : (ec b e m).toArray.all (·.oneCell') = true := by
  rw [Array.all_eq_true_iff_forall_mem]
  intro v hv
  simp only [List.mem_toArray, ec, List.mem_cons] at hv
  rcases hv with rfl | rfl | rfl | hv
  · rfl
  · rfl
  · rfl
  · exact tc_one _ v hv
theorem ec_size (h : m.length ≤ 8) : (ec b e m).toArray.size = 19 := by rw [List.size_toArray]; exact ec_length h
theorem Clone_yes (h : Rg w g true e m) : Calls Try.prog 22 #[.pointer (some ⟨g, 0, none⟩)] w (NewAns e m w) := by
  have c := h.made_
  have H := Lib.hid h
  have S := Lib.hid (ec_size (b := true) (e := e) h.2.1)
  have O := Lib.hid (ec_one true e m)
  have H1 := Lib.hid h.1
  clear h
  generalize (ec true e m).toArray = cs at S O H1
  go_enter Try.func22, Try.ntmps22
  go_wp2_with (first
    | (refine wpList_load_row rfl 47 (.tmp 14) rfl g rfl 47 cs (0, 0) _ H1.out Try.underlying47 rfl (by rw [S.out]; exact info_reg) ?_)
    | (refine wpList_store_row rfl 47 (.tmp 3) (.tmp 15) rfl w.heap.size cs rfl rfl _ _ (heap_alloc_new _ _) (by rw [S.out]; exact info_reg) (by rw [S.out]; rfl) O.out ?_))
  go_ret
  refine ⟨w.heap.size, rfl, ⟨?_, H.out.2⟩, Nat.le_refl _, ?_⟩
  · have := H.out.1.symm.trans H1.out
    injection this with this
    injection this with this
    rw [this]
    exact setRow_heap _ _ _ _ _ _ (heap_alloc_new _ _)
  · exact ⟨rfl, rfl, rfl, by simp [World.setRow], fun k hk _ => (setRow_other _ _ k _ (by omega)).trans (heap_alloc_old w _ hk)⟩
end
end Go.Proofs.Ytahiagaocnmjpaa.ep
