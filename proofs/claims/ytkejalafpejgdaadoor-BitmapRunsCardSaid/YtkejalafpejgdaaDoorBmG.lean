/- What a step of the law's own script on a set does. -/
import Derived.Test.YtkejalafpejgdaaDoorBmF
namespace Go.Proofs.YtkejalafpejgdaaDoor.bm
open Go.ChangeShapes Go.WideShapes Go.ChangeAt Go.RowKit gen
set_option linter.unusedVariables false
section
variable {w : World} {g n : Nat} {b : Bool} {ws : List Nat}
theorem mem_bit (h : SetAt w g b n ws) {z : Int} (h0 : 0 ≤ z) : z ∈ nums ws ↔ bit ws z.toNat = true := by
  rw [mem_nums h.2]
  exact ⟨fun h => h.2, fun h => ⟨h0, h⟩⟩
theorem Has_any (h : SetAt w g b n ws) (z : Int) : Calls Tryd.prog 17 #[.pointer (some ⟨g, 0, none⟩), .int .i64 z] w fun e w' => e = .returned (.bool (decide (z ∈ nums ws))) ∧ Drew w w' := by
  by_cases hi : 0 ≤ z ∧ z < n
  · obtain ⟨i, rfl⟩ : ∃ i : Nat, z = i := ⟨z.toNat, by omega⟩
    have hm := mem_bit h hi.1
    simp only [Int.toNat_natCast] at hm
    cases hb : bit ws i with
    | true => rw [decide_eq_true (hm.2 hb)]; exact Has_yes h i (by omega) hb
    | false => rw [decide_eq_false (fun hc => by rw [hm.1 hc] at hb; cases hb)]; exact Has_no h i (by omega) hb
  · rw [decide_eq_false (fun hc => hi (mem_nums_lt h.2 hc))]
    exact (Has_out _ z w (place_no h z hi)).mono fun _ _ ⟨h1, h2⟩ => ⟨h1, .same h2⟩
theorem Add_no (h : SetAt w g b n ws) (z : Int) (hz : ¬ (z ∉ nums ws ∧ 0 ≤ z ∧ z < n)) : Calls Tryd.prog 15 #[.pointer (some ⟨g, 0, none⟩), .int .i64 z] w fun e w' => e = .returned (.bool false) ∧ Drew w w' := by
  by_cases hi : 0 ≤ z ∧ z < n
  · obtain ⟨i, rfl⟩ : ∃ i : Nat, z = i := ⟨z.toNat, by omega⟩
    have hm := mem_bit h hi.1
    simp only [Int.toNat_natCast] at hm
    exact Add_in h i (by omega) (hm.1 (Decidable.byContradiction fun hc => hz ⟨hc, hi⟩))
  · exact (Add_out _ z w (place_no h z hi)).mono fun _ _ ⟨h1, h2⟩ => ⟨h1, .same h2⟩
/-- What a set that has changed answers. -/
def SetAns (r : Bool) (xs : List Int) (g : Nat) (b : Bool) (n : Nat) (w : World) (e : Ending) (w' : World) : Prop :=
  ∃ ws, e = .returned (.bool r) ∧ SetAt w' g b n ws ∧ nums ws = xs ∧ w.grownBy w' (some g)
theorem Add_ok (h : SetAt w g b n ws) (z : Int) (h1 : z ∉ nums ws) (h2 : 0 ≤ z) (h3 : z < n) : Calls Tryd.prog 15 #[.pointer (some ⟨g, 0, none⟩), .int .i64 z] w (SetAns true (rising (nums ws ++ [z])) g b n w) := by
  obtain ⟨i, rfl⟩ : ∃ i : Nat, z = i := ⟨z.toNat, by omega⟩
  have hm := mem_bit h h2
  simp only [Int.toNat_natCast] at hm
  refine (Add_yes h i (by omega) (by cases e : bit ws i with | false => rfl | true => exact absurd (hm.2 e) h1)).mono fun e w' ⟨he, hs, hg⟩ => ?_
  exact ⟨_, he, hs, (nums_put h.2 (by omega)).symm, hg⟩
theorem Remove_any (h : SetAt w g b n ws) (z : Int) : Calls Tryd.prog 16 #[.pointer (some ⟨g, 0, none⟩), .int .i64 z] w (SetAns (decide (z ∈ nums ws)) ((nums ws).filter fun y => decide (y ≠ z)) g b n w) := by
  have no : ∀ (e : Ending) (w' : World), z ∉ nums ws → (e = .returned (.bool false) ∧ Drew w w') → SetAns (decide (z ∈ nums ws)) ((nums ws).filter fun y => decide (y ≠ z)) g b n w e w' := by
    rintro e w' hz ⟨rfl, k, rfl⟩
    exact ⟨ws, by rw [decide_eq_false hz], h.drewN k, (filter_all hz).symm, grown_drewN _ _ _⟩
  by_cases hi : 0 ≤ z ∧ z < n
  · obtain ⟨i, rfl⟩ : ∃ i : Nat, z = i := ⟨z.toNat, by omega⟩
    have hm := mem_bit h hi.1
    simp only [Int.toNat_natCast] at hm
    cases hb : bit ws i with
    | true => exact (Remove_yes h i (by omega) hb).mono fun e w' ⟨he, hs, hg⟩ => ⟨_, by rw [he, decide_eq_true (hm.2 hb)], hs, (nums_cut h.2 (by omega)).symm, hg⟩
    | false => exact (Remove_no h i (by omega) hb).mono fun e w' he => no e w' (fun hc => by rw [hm.1 hc] at hb; cases hb) he
  · exact (Remove_out _ z w (place_no h z hi)).mono fun e w' ⟨h1, h2⟩ => no e w' (fun hc => hi (mem_nums_lt h.2 hc)) ⟨h1, .same h2⟩
end
theorem Rd.below' {w w' : World} {B n c : Nat} {A : Option Addr} {xs : List Int} (h : Rd w B A n c xs) (hb : Below B w w') (hs : B ≤ w'.heap.size) : Rd w' w'.heap.size A n c xs := by
  have h2 := h.below hb
  exact ⟨h2.1, h2.2.1, fun ad e i hi => ⟨Nat.lt_of_lt_of_le (h2.2.2 ad e i hi).1 hs, (h2.2.2 ad e i hi).2⟩⟩
theorem SetAt.heap {w w' : World} {g n : Nat} {b : Bool} {ws : List Nat} (h : SetAt w g b n ws) (hw : w'.heap = w.heap) : SetAt w' g b n ws := ⟨by rw [hw]; exact h.1, h.2⟩
theorem cell_heap {w w' : World} (hw : w'.heap = w.heap) (a : Addr) : w'.cell? a = w.cell? a := World.cell?_of_block (by rw [hw])
theorem Tab.heap {w w' : World} (h : Tab w) (hw : w'.heap = w.heap) : Tab w' := ⟨by rw [hw]; exact h.1, fun j hj => by rw [cell_heap hw]; exact h.2 j hj⟩
theorem Rd.heap {w w' : World} {B n c : Nat} {A : Option Addr} {xs : List Int} (h : Rd w B A n c xs) (hw : w'.heap = w.heap) : Rd w' B A n c xs := ⟨h.1, h.2.1, fun ad e i hi => ⟨(h.2.2 ad e i hi).1, by rw [cell_heap hw]; exact (h.2.2 ad e i hi).2⟩⟩
/-- The two cells of a call that lies at the head of block B. -/
def Pair (w : World) (B : Nat) (k z : Int) : Prop := w.cell? ⟨B, 0, none⟩ = some (.int .i64 k) ∧ w.cell? ⟨B, 1, none⟩ = some (.int .i64 z)
theorem Pair.new (w : World) (t : TypeId) (k z : Int) : Pair (w.alloc (.cells #[.int .i64 k, .int .i64 z] t)) w.heap.size k z := by
  unfold Pair
  refine ⟨?_, ?_⟩ <;> simp [go_sem]
theorem Pair.kept {w w' : World} {B : Nat} {k z : Int} {row : Option Nat} (h : Pair w B k z) (hg : w.grownBy w' row) (hr : some B ≠ row) : Pair w' B k z := ⟨hg.cell h.1 hr, hg.cell h.2 hr⟩
theorem pair_own {wr w2 : World} {B n : Nat} {v : Value} {xs : List Value} {t : TypeId} {o : Obj} {k z : Int} (h : Pair wr B k z) (ho : wr.ownsRow (B + 1) t 1 v n xs) (hg : (wr.alloc o).grownBy w2 v.ownBlock) : Pair w2 B k z :=
  (h.kept (World.grownBy_alloc wr o none) (by simp)).kept hg (fun e => by have := own_base ho B e.symm; omega)
/-- Where the list behind a step lies: in a new block, or where the one ahead lay. -/
def From (w : World) (v v' : Value) : Prop := ∀ q, v'.ownBlock = some q → w.heap.size ≤ q ∨ v.ownBlock = some q
theorem From.same (w : World) (v : Value) : From w v v := fun _ h => .inr h
theorem From.nil (w : World) (v : Value) : From w v (.slice none 0 0) := fun _ h => by cases h
theorem From.own {w w' : World} {v v' : Value} {base n : Nat} {t : TypeId} {xs : List Value} (h : w'.ownsRow base t 1 v' n xs) (hb : w.heap.size ≤ base) : From w v v' := fun q hq => .inl (Nat.le_trans hb (own_base h q hq))
theorem From.then {w w' : World} {v v' v'' : Value} (h : From w v v') (h' : From w' v' v'') (hs : w.heap.size ≤ w'.heap.size) : From w v v'' := fun q hq => by
  rcases h' q hq with h1 | h1
  · exact .inl (by omega)
  · exact h q h1
/-- What a step answers: a set and a list that agree. -/
def StepAns (g n : Nat) (v0 : Value) (w : World) (e : Ending) (w' : World) : Prop :=
  ∃ A c ws m, e = .returned (.tuple #[.slice A m c, .bool true]) ∧ (nums ws).length = m ∧ SetAt w' g true n ws ∧ Lst w' g (.slice A m c) (nums ws) ∧ w.grownBy w' (some g) ∧ From w v0 (.slice A m c)
theorem no_ways {z : Int} {n : Nat} {xs : List Int} {bz : Bool} (hz : ¬ (z ∉ xs ∧ 0 ≤ z ∧ z < n)) (hbz : decide (z ∈ xs) = bz) : bz = true ∨ bz = false ∧ (decide (z < 0) = true ∧ z < 0 ∨ ¬ z < 0 ∧ decide (z < (n : Int)) = false) := by
  cases bz
  · right
    have h1 := of_decide_eq_false hbz
    have h2 : ¬ (0 ≤ z ∧ z < n) := fun h' => hz ⟨h1, h'⟩
    refine ⟨rfl, ?_⟩
    by_cases h0 : z < 0
    · exact .inl ⟨decide_eq_true h0, h0⟩
    · exact .inr ⟨h0, decide_eq_false (by omega)⟩
  · exact .inl rfl
section
variable {w : World} {g n m c : Nat} {A : Option Addr} {ws : List Nat}
set_option maxHeartbeats 4000000
set_option maxRecDepth 100000
theorem step_add_no (h : SetAt w g true n ws) (hm : (nums ws).length = m) (hl : Lst w g (.slice A m c) (nums ws)) (hT : Tab w) (z : Int) (hz : ¬ (z ∉ nums ws ∧ 0 ≤ z ∧ z < n)) :
    Calls Tryd.prog 21 #[.pointer (some ⟨g, 0, none⟩), .int .i64 n, .slice A m c, .agg #[.int .i64 1, .int .i64 z]] w (StepAns g n (.slice A m c) w) := by
  have hs : m ≤ 2048 := by have := nums_length ws; omega
  have HM := Lib.hid hm
  have H := Lib.hid h
  have HL := Lib.hid hl
  have HT := Lib.hid hT
  have G0 := Lib.hid (World.grownBy_alloc w (.cells #[.int .i64 1, .int .i64 z] 47) none)
  have R := Lib.hid ((hl.rd' hm).below (grown_below G0.out))
  have N := Lib.hid (Pair.new w 47 1 z)
  have H0 := Lib.hid (h.kept G0.out (by simp))
  have T0 := Lib.hid (hT.kept G0.out (by simp))
  have I := Lib.hid (In_any (by omega) R.out z)
  obtain ⟨bz, hbz⟩ : ∃ bz, decide (z ∈ nums ws) = bz := ⟨_, rfl⟩
  rw [hbz] at I
  have HB := Lib.hid hbz
  have AD := Lib.hid (Add_no H0.out z hz)
  rcases no_ways hz hbz with rfl | ⟨rfl, ⟨h1, h2⟩ | ⟨h1, h2⟩⟩
  all_goals
    clear h hm hl hT hz hbz
    go_enter Tryd.func21, Tryd.ntmps21
    go_wp2_with (first
      | (go_at_call 26; (with_reducible refine I.out.mono ?_); rintro e w' ⟨rfl, hw⟩; subst hw)
      | (go_at_call 15; (with_reducible refine AD.out.mono ?_); rintro e w' ⟨rfl, d, rfl⟩))
    go_ret2
    exact ⟨A, c, ws, m, rfl, HM.out, H0.out.drewN d, (HL.out.made G0.out).drewN d, grown_then G0.out (grown_drewN _ _ _), From.same _ _⟩
theorem step_add_ok (h : SetAt w g true n ws) (hm : (nums ws).length = m) (hl : Lst w g (.slice A m c) (nums ws)) (hT : Tab w) (z : Int) (h1 : z ∉ nums ws) (h2 : 0 ≤ z) (h3 : z < n) :
    Calls Tryd.prog 21 #[.pointer (some ⟨g, 0, none⟩), .int .i64 n, .slice A m c, .agg #[.int .i64 1, .int .i64 z]] w (StepAns g n (.slice A m c) w) := by
  have hs : m ≤ 2048 := by have := nums_length ws; omega
  have HM := Lib.hid hm
  have H := Lib.hid h
  have HL := Lib.hid hl
  have HT := Lib.hid hT
  have G0 := Lib.hid (World.grownBy_alloc w (.cells #[.int .i64 1, .int .i64 z] 47) none)
  have R := Lib.hid ((hl.rd' hm).below (grown_below G0.out))
  have N := Lib.hid (Pair.new w 47 1 z)
  have H0 := Lib.hid (h.kept G0.out (by simp))
  have T0 := Lib.hid (hT.kept G0.out (by simp))
  have I := Lib.hid (In_any (by omega) R.out z)
  obtain ⟨bz, hbz⟩ : ∃ bz, decide (z ∈ nums ws) = bz := ⟨_, rfl⟩
  rw [hbz] at I
  have HB := Lib.hid hbz
  obtain ⟨i0, hi, hz0, hz1, hz2⟩ := info_parts info_int
  have E : Hid (i0.zero = some (.int .i64 0) ∧ i0.size = 1 ∧ i0.bytes = 8 ∧ Tryd.prog.info? 3 = some i0) := ⟨hz0, hz1, hz2, hi⟩
  clear hi hz0 hz1 hz2
  obtain rfl : bz = false := by rw [← hbz]; exact decide_eq_false h1
  have h4 : ¬ z < 0 := by omega
  have h5 : decide (z < (n : Int)) = true := decide_eq_true h3
  have HZ := Lib.hid h1
  have H2 := Lib.hid h2
  have H3 := Lib.hid h3
  clear h hm hl hT hbz h1
  go_enter Tryd.func21, Tryd.ntmps21
  go_wp2_with (first
    | (go_at_call 26; (with_reducible refine I.out.mono ?_); rintro e w' ⟨rfl, hw⟩; subst hw)
    | (refine wpList_append_rd rfl (.tmp 41) (.tmp 42) 24 rfl (w.heap.size + 1) 3 i0 (.int .i64 0) 8 Tryd.underlying24 E.out.2.2.2 E.out.1 E.out.2.1 E.out.2.2.1 rfl _ 0 [] rfl (World.ownsRow_nil _ _ _ _) A m c w.heap.size (nums ws) rfl R.out (by unfold maxLen; omega) (by omega) (by simp) ?_; intro A3 c3 w2 own1 rd1 gr1; simp only [Nat.zero_add, List.nil_append] at own1; have OWN1 := Lib.hid own1; have gr2 := show (w.alloc _).grownBy w2 none from gr1; have G1 := Lib.hid (G0.out.trans gr2); have F1 := Lib.hid (N.out.kept gr2 (by simp)); have S1 := Lib.hid (show w.heap.size + 1 ≤ w2.heap.size from by have := gr2.size; simpa using this); obtain ⟨k0, k1⟩ := F1.out; clear own1 rd1 gr1 gr2)
    | (refine wpList_append_rd rfl (.tmp 44) (.tmp 47) 24 rfl (w.heap.size + 1) 3 i0 (.int .i64 0) 8 Tryd.underlying24 E.out.2.2.2 E.out.1 E.out.2.1 E.out.2.2.1 rfl _ m (nums ws) rfl (OWN1.out.alloc _) (some ⟨w2.heap.size, 0, none⟩) 1 1 _ [z] rfl (Rd.one _ _ _) (by unfold maxLen; omega) (by omega) (by have := S1.out; simp; omega) ?_; intro A4 c4 w3 own2 rd2 gr2; have OWN2 := Lib.hid own2; have G2 := Lib.hid (grown_one G1.out OWN1.out (by omega) gr2); have F2 := Lib.hid (pair_own F1.out OWN1.out gr2); obtain ⟨j0, j1⟩ := F2.out; have R2 := Lib.hid rd2; clear own2 rd2 gr2))
  have R3 : Hid (Rd w3.drew w3.drew.heap.size A4 (m + 1) c4 (nums ws ++ [z])) := Lib.hid R2.out
  have F3 : Hid (Pair w3.drew w.heap.size 1 z) := Lib.hid F2.out
  have G3 : Hid (w.grownBy w3.drew none) := Lib.hid ⟨G2.out.os, G2.out.tape, G2.out.output, G2.out.size, G2.out.block⟩
  have BG := Lib.hid (show g < w3.drew.heap.size from by have := H.out.lt; have := G3.out.size; omega)
  go_region_held3 (fun W => W.cell? ⟨w.heap.size, 1, none⟩ = some (.int .i64 z)) (first | go_keep | exact F3.out.2 | exact F4.out.2 | exact F5.out.2) (first
    | (go_at_call 20; (with_reducible refine (Rising_any (w := w3.drew) (B := 0) (by omega) R3.out).mono ?_); rintro e w4 ⟨A5, c5, rfl, ho5, hg5⟩; have O4 := Lib.hid ho5; have G4 := Lib.hid (G3.out.trans hg5); have S4 := Lib.hid hg5.size; have F4 := Lib.hid (F3.out.kept hg5 (by simp)); have H4 := Lib.hid (H.out.kept G4.out (by simp)); clear ho5 hg5)
    | (go_at_call 15; (with_reducible refine (Add_ok H4.out z HZ.out H2.out H3.out).mono ?_); rintro e w5 ⟨ws5, rfl, hs5, hn5, hg5⟩; have H5 := Lib.hid hs5; have N5 := Lib.hid hn5; have G5 := Lib.hid hg5; have F5 := Lib.hid (F4.out.kept hg5 (by have := H.out.lt; simp; omega)); clear hs5 hn5 hg5))
  go_wp2
  go_ret2
  exact ⟨A5, c5, ws5, _, rfl, by rw [N5.out], H5.out, by rw [N5.out]; exact (own_lst O4.out rfl BG.out).grown G5.out, grown_then G4.out G5.out, From.own O4.out G3.out.size⟩
theorem step_remove (h : SetAt w g true n ws) (hm : (nums ws).length = m) (hl : Lst w g (.slice A m c) (nums ws)) (hT : Tab w) (z : Int) :
    Calls Tryd.prog 21 #[.pointer (some ⟨g, 0, none⟩), .int .i64 n, .slice A m c, .agg #[.int .i64 2, .int .i64 z]] w (StepAns g n (.slice A m c) w) := by
  have hs : m ≤ 2048 := by have := nums_length ws; omega
  have HM := Lib.hid hm
  have H := Lib.hid h
  have HL := Lib.hid hl
  have HT := Lib.hid hT
  have G0 := Lib.hid (World.grownBy_alloc w (.cells #[.int .i64 2, .int .i64 z] 47) none)
  have R := Lib.hid ((hl.rd' hm).below (grown_below G0.out))
  have N := Lib.hid (Pair.new w 47 2 z)
  have H0 := Lib.hid (h.kept G0.out (by simp))
  have T0 := Lib.hid (hT.kept G0.out (by simp))
  have I := Lib.hid (In_any (by omega) R.out z)
  obtain ⟨bz, hbz⟩ : ∃ bz, decide (z ∈ nums ws) = bz := ⟨_, rfl⟩
  rw [hbz] at I
  have HB := Lib.hid hbz
  have WO := Lib.hid (without_any (w := (w.alloc (.cells #[.int .i64 2, .int .i64 z] 47)).drew) (B := 0) (by omega) (show Rd (w.alloc (.cells #[.int .i64 2, .int .i64 z] 47)).drew (w.alloc (.cells #[.int .i64 2, .int .i64 z] 47)).drew.heap.size A m c (nums ws) from (Rd.below' (w' := (w.alloc (.cells #[.int .i64 2, .int .i64 z] 47))) (hl.rd' hm) (grown_below G0.out) G0.out.size : Rd (w.alloc (.cells #[.int .i64 2, .int .i64 z] 47)) (w.alloc (.cells #[.int .i64 2, .int .i64 z] 47)).heap.size A m c (nums ws))) z)
  obtain ⟨ys, hys⟩ : ∃ ys, ((nums ws).filter fun y => decide (y ≠ z)) = ys := ⟨_, rfl⟩
  rw [hys] at WO
  have HY := Lib.hid hys
  have G3 : Hid (w.grownBy (w.alloc (.cells #[.int .i64 2, .int .i64 z] 47)).drew none) := Lib.hid ⟨G0.out.os, G0.out.tape, G0.out.output, G0.out.size, G0.out.block⟩
  have F3 : Hid (Pair (w.alloc (.cells #[.int .i64 2, .int .i64 z] 47)).drew w.heap.size 2 z) := Lib.hid N.out
  have BG := Lib.hid (show g < (w.alloc (.cells #[.int .i64 2, .int .i64 z] 47)).drew.heap.size from by have := H.out.lt; have := G3.out.size; omega)
  cases bz
  all_goals
    clear h hm hl hT hbz hys
    go_enter Tryd.func21, Tryd.ntmps21
    go_wp2_with (go_at_call 26; (with_reducible refine I.out.mono ?_); rintro e w' ⟨rfl, hw⟩; subst hw)
    go_region_held3 (fun W => W.cell? ⟨w.heap.size, 1, none⟩ = some (.int .i64 z)) (first | go_keep | exact F3.out.2 | exact F4.out.2 | exact F5.out.2) (first
      | (go_at_call 27; (with_reducible refine WO.out.mono ?_); rintro e w4 ⟨A5, c5, rfl, ho5, hg5⟩; have O4 := Lib.hid ho5; have G4 := Lib.hid (G3.out.trans hg5); have F4 := Lib.hid (F3.out.kept hg5 (by simp)); have H4 := Lib.hid (Remove_any (H.out.kept G4.out (by simp)) z); rw [HB.out, HY.out] at H4; clear ho5 hg5)
      | (go_at_call 16; (with_reducible refine H4.out.mono ?_); rintro e w5 ⟨ws5, rfl, hs5, hn5, hg5⟩; have H5 := Lib.hid hs5; have N5 := Lib.hid hn5; have G5 := Lib.hid hg5; have F5 := Lib.hid (F4.out.kept hg5 (by have := H.out.lt; simp; omega)); clear hs5 hn5 hg5))
    go_wp2
    go_ret2
    exact ⟨A5, c5, ws5, _, rfl, by rw [N5.out], H5.out, by rw [N5.out]; exact (own_lst O4.out rfl BG.out).grown G5.out, grown_then G4.out G5.out, From.own O4.out G3.out.size⟩
theorem step_clear (h : SetAt w g true n ws) (hm : (nums ws).length = m) (hl : Lst w g (.slice A m c) (nums ws)) (hT : Tab w) (z : Int) :
    Calls Tryd.prog 21 #[.pointer (some ⟨g, 0, none⟩), .int .i64 n, .slice A m c, .agg #[.int .i64 3, .int .i64 z]] w (StepAns g n (.slice A m c) w) := by
  have hs : m ≤ 2048 := by have := nums_length ws; omega
  have HM := Lib.hid hm
  have H := Lib.hid h
  have HL := Lib.hid hl
  have HT := Lib.hid hT
  have G0 := Lib.hid (World.grownBy_alloc w (.cells #[.int .i64 3, .int .i64 z] 47) none)
  have R := Lib.hid ((hl.rd' hm).below (grown_below G0.out))
  have N := Lib.hid (Pair.new w 47 3 z)
  have H0 := Lib.hid (h.kept G0.out (by simp))
  have T0 := Lib.hid (hT.kept G0.out (by simp))
  have I := Lib.hid (In_any (by omega) R.out z)
  obtain ⟨bz, hbz⟩ : ∃ bz, decide (z ∈ nums ws) = bz := ⟨_, rfl⟩
  rw [hbz] at I
  have HB := Lib.hid hbz
  have CL := Lib.hid (Clear_yes H0.out)
  clear h hm hl hT hbz
  go_enter Tryd.func21, Tryd.ntmps21
  go_wp2_with (first
    | (go_at_call 26; (with_reducible refine I.out.mono ?_); rintro e w' ⟨rfl, hw⟩; subst hw)
    | (go_at_call 12; (with_reducible refine CL.out.mono ?_); rintro e w5 ⟨rfl, hs5, hg5⟩; have H5 := Lib.hid hs5; have G5 := Lib.hid hg5; clear hs5 hg5))
  go_ret2
  exact ⟨none, 0, zeros, 0, rfl, by rw [nums_zeros]; rfl, H5.out, by rw [nums_zeros]; exact Lst.nil _ _, grown_then G0.out G5.out, From.nil _ _⟩
theorem step_next (h : SetAt w g true n ws) (hm : (nums ws).length = m) (hl : Lst w g (.slice A m c) (nums ws)) (hT : Tab w) (z : Int) :
    Calls Tryd.prog 21 #[.pointer (some ⟨g, 0, none⟩), .int .i64 n, .slice A m c, .agg #[.int .i64 4, .int .i64 z]] w (StepAns g n (.slice A m c) w) := by
  have hs : m ≤ 2048 := by have := nums_length ws; omega
  have HM := Lib.hid hm
  have H := Lib.hid h
  have HL := Lib.hid hl
  have HT := Lib.hid hT
  have G0 := Lib.hid (World.grownBy_alloc w (.cells #[.int .i64 4, .int .i64 z] 47) none)
  have R := Lib.hid ((hl.rd' hm).below (grown_below G0.out))
  have N := Lib.hid (Pair.new w 47 4 z)
  have H0 := Lib.hid (h.kept G0.out (by simp))
  have T0 := Lib.hid (hT.kept G0.out (by simp))
  have I := Lib.hid (In_any (by omega) R.out z)
  obtain ⟨bz, hbz⟩ : ∃ bz, decide (z ∈ nums ws) = bz := ⟨_, rfl⟩
  rw [hbz] at I
  have HB := Lib.hid hbz
  obtain ⟨y, hy⟩ : ∃ y, nextOf (nums ws) z = y := ⟨_, rfl⟩
  have NX := Lib.hid (fun (W : World) (hW : W.heap = (w.alloc (.cells #[.int .i64 4, .int .i64 z] 47)).heap) => Next_any (SetAt.heap H0.out hW) (Tab.heap T0.out hW) z)
  have NP := Lib.hid (fun (W : World) (hW : W.heap = (w.alloc (.cells #[.int .i64 4, .int .i64 z] 47)).heap) => next_any (w := W) (by omega) (Rd.heap R.out hW) z)
  rw [hy] at NX NP
  have NX1 := Lib.hid (NX.out (w.alloc (.cells #[.int .i64 4, .int .i64 z] 47)).drew rfl)
  have NP1 := Lib.hid (fun d => NP.out ((w.alloc (.cells #[.int .i64 4, .int .i64 z] 47)).drewN d) rfl)
  have F3 := Lib.hid (show ∀ d, Pair ((w.alloc (.cells #[.int .i64 4, .int .i64 z] 47)).drewN d) w.heap.size 4 z from fun d => N.out)
  clear h hm hl hT hbz hy
  go_enter Tryd.func21, Tryd.ntmps21
  go_wp2_with (go_at_call 26; (with_reducible refine I.out.mono ?_); rintro e w' ⟨rfl, hw⟩; subst hw)
  go_region_held3 (fun W => W.cell? ⟨w.heap.size, 1, none⟩ = some (.int .i64 z)) (first | go_keep | exact N.out.2) (first
    | (go_at_call 19; (with_reducible refine NX1.out.mono ?_); rintro e w4 ⟨rfl, d, rfl⟩)
    | (go_at_call 28; (with_reducible refine (NP1.out _).mono ?_); rintro e w4 ⟨rfl, rfl⟩))
  go_wp2
  go_ret2
  exact ⟨A, c, ws, m, rfl, HM.out, H0.out.drewN (1 + d), (HL.out.made G0.out).drewN (1 + d), grown_then G0.out (grown_drewN _ _ _), From.same _ _⟩
theorem step_has (h : SetAt w g true n ws) (hm : (nums ws).length = m) (hl : Lst w g (.slice A m c) (nums ws)) (hT : Tab w)  (k : Int) (k1 : (k == 1) = false) (k2 : (k == 2) = false) (k3 : (k == 3) = false) (k4 : (k == 4) = false) (z : Int) :
    Calls Tryd.prog 21 #[.pointer (some ⟨g, 0, none⟩), .int .i64 n, .slice A m c, .agg #[.int .i64 k, .int .i64 z]] w (StepAns g n (.slice A m c) w) := by
  have hs : m ≤ 2048 := by have := nums_length ws; omega
  have HM := Lib.hid hm
  have H := Lib.hid h
  have HL := Lib.hid hl
  have HT := Lib.hid hT
  have G0 := Lib.hid (World.grownBy_alloc w (.cells #[.int .i64 k, .int .i64 z] 47) none)
  have R := Lib.hid ((hl.rd' hm).below (grown_below G0.out))
  have N := Lib.hid (Pair.new w 47 k z)
  have H0 := Lib.hid (h.kept G0.out (by simp))
  have T0 := Lib.hid (hT.kept G0.out (by simp))
  have I := Lib.hid (In_any (by omega) R.out z)
  obtain ⟨bz, hbz⟩ : ∃ bz, decide (z ∈ nums ws) = bz := ⟨_, rfl⟩
  rw [hbz] at I
  have HB := Lib.hid hbz
  have HS := Lib.hid (Has_any H0.out z)
  rw [hbz] at HS
  cases bz
  all_goals
    clear h hm hl hT hbz
    go_enter Tryd.func21, Tryd.ntmps21
    go_wp2_with (first
      | (go_at_call 26; (with_reducible refine I.out.mono ?_); rintro e w' ⟨rfl, hw⟩; subst hw)
      | (go_at_call 17; (with_reducible refine HS.out.mono ?_); rintro e w' ⟨rfl, d, rfl⟩))
    go_ret2
    exact ⟨A, c, ws, m, rfl, HM.out, H0.out.drewN d, (HL.out.made G0.out).drewN d, grown_then G0.out (grown_drewN _ _ _), From.same _ _⟩
theorem step_any (k z : Int) (h : SetAt w g true n ws) (hm : (nums ws).length = m) (hl : Lst w g (.slice A m c) (nums ws)) (hT : Tab w) :
    Calls Tryd.prog 21 #[.pointer (some ⟨g, 0, none⟩), .int .i64 n, .slice A m c, .agg #[.int .i64 k, .int .i64 z]] w (StepAns g n (.slice A m c) w) := by
  by_cases k1 : k = 1
  · subst k1
    by_cases hz : z ∉ nums ws ∧ 0 ≤ z ∧ z < n
    · exact step_add_ok h hm hl hT z hz.1 hz.2.1 hz.2.2
    · exact step_add_no h hm hl hT z hz
  by_cases k2 : k = 2
  · subst k2
    exact step_remove h hm hl hT z
  by_cases k3 : k = 3
  · subst k3
    exact step_clear h hm hl hT z
  by_cases k4 : k = 4
  · subst k4
    exact step_next h hm hl hT z
  exact step_has h hm hl hT k (by simpa using k1) (by simpa using k2) (by simpa using k3) (by simpa using k4) z
end
end Go.Proofs.YtkejalafpejgdaaDoor.bm
