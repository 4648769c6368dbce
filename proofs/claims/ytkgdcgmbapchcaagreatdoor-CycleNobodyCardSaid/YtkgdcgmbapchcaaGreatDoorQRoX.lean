/- Texts that this claim stands on. -/
import Derived.Deep.RegionLaw
import Derived.Laws.Cover3
import Derived.RegionTactic
import Derived.Laws.CopyOwn
import Derived.Test.YtkgdcgmbapchcaaGreatDoorQBoX
import Derived.Test.YtkgdcgmbapchcaaGreatDoorQMmQ
namespace Go.Proofs.YtkgdcgmbapchcaaGreatDoor.ro
open Go.ChangeShapes Go.WideShapes Go.ChangeAt Go.RowKit gen li va wd
set_option linter.unusedVariables false
set_option maxHeartbeats 4000000
set_option maxRecDepth 100000
def rc (m : List Va) : List Value := .int .i64 m.length :: (vc m ++ List.replicate (32 - 2 * m.length) (.int .i64 0))
theorem rc_length {m : List Va} (h : m.length ≤ 16) : (rc m).length = 33 := by simp [rc, vc_length]; omega
section
variable {w w' : World} {g : Nat} {m : List Va}
theorem rc_at {m : List Va} {i : Nat} (hi : i < m.length) : (rc m)[1 + i * 2]? = some (.int .i64 (m.getD i (0, 0)).1) ∧ (rc m)[1 + i * 2 + 1]? = some (.int .i64 (m.getD i (0, 0)).2) := by
  obtain ⟨a1, a2⟩ := vc_at m i hi
  have e : ∀ j, (rc m)[1 + j]? = (vc m ++ List.replicate (32 - 2 * m.length) (.int .i64 0))[j]? := fun j => by rw [show 1 + j = j + 1 by omega]; rfl
  refine ⟨?_, ?_⟩
  · rw [e, List.getElem?_append_left (by rw [vc_length]; omega), show i * 2 = 2 * i by omega, a1]
  · rw [show 1 + i * 2 + 1 = 1 + (i * 2 + 1) by omega, e, List.getElem?_append_left (by rw [vc_length]; omega), show i * 2 + 1 = 2 * i + 1 by omega, a2]
theorem rc_end {m : List Va} {i : Nat} (hi : m.length ≤ i) (h16 : i < 16) : (rc m)[1 + i * 2]? = some (.int .i64 0) ∧ (rc m)[1 + i * 2 + 1]? = some (.int .i64 0) := by
  have e : ∀ j, (rc m)[1 + j]? = (vc m ++ List.replicate (32 - 2 * m.length) (.int .i64 0))[j]? := fun j => by rw [show 1 + j = j + 1 by omega]; rfl
  refine ⟨?_, ?_⟩
  · rw [e, List.getElem?_append_right (by rw [vc_length]; omega), vc_length, List.getElem?_replicate, if_pos (by omega)]
  · rw [show 1 + i * 2 + 1 = 1 + (i * 2 + 1) by omega, e, List.getElem?_append_right (by rw [vc_length]; omega), vc_length, List.getElem?_replicate, if_pos (by omega)]
theorem rc_push {m : List Va} {p : Nat} (hp : m.length = p) (hm : p < 16) (k n : Int) : (((rc m).set (1 + p * 2) (.int .i64 k)).set (1 + p * 2 + 1) (.int .i64 n)).set 0 (.int .i64 ((p : Int) + 1)) = rc (m ++ [(k, n)]) := by
  subst hp
  have e : 32 - 2 * m.length = 32 - 2 * (m.length + 1) + 1 + 1 := by omega
  have l : 1 + m.length * 2 = (vc m).length + 1 := by rw [vc_length]; omega
  unfold rc
  rw [e, List.replicate_succ, List.replicate_succ, l, vc_add, List.length_append, List.length_singleton]
  simp
theorem rc_pop {m : List Va} {p : Nat} (hp : m.length = p) (hm : p < 16) (x : Va) : (((rc (m ++ [x])).set 0 (.int .i64 p)).set (1 + p * 2) (.int .i64 0)).set (1 + p * 2 + 1) (.int .i64 0) = rc m := by
  subst hp
  have e : 32 - 2 * m.length = 32 - 2 * (m.length + 1) + 1 + 1 := by omega
  have l : 1 + m.length * 2 = (vc m).length + 1 := by rw [vc_length]; omega
  unfold rc
  rw [e, List.replicate_succ, List.replicate_succ, l, vc_add, List.length_append, List.length_singleton]
  simp
theorem grown_set (w : World) (g o : Nat) (v : Value) : w.grownBy (w.setCell ⟨g, o, none⟩ v) (some g) := ⟨rfl, rfl, rfl, by simp, fun i _ hi => heap_setCell_other w ⟨g, o, none⟩ i _ (fun e => hi (by simp [e]))⟩
theorem arr16 : Tryz.prog.arrayLen 60 = 16 := by kernel_rfl
theorem held_nil (w : World) : Calls Tryz.prog 133 #[.pointer none] w fun e w' => e = .returned (.slice none 0 0) ∧ w = w' := by
  go_enter Tryz.func133, Tryz.ntmps133
  go_wp2
  go_ret
  exact ⟨rfl, rfl⟩
theorem Len_nil (w : World) : Calls Tryz.prog 151 #[.pointer none] w fun e w' => e = .returned (.int .i64 0) ∧ w = w' := by
  go_enter Tryz.func151, Tryz.ntmps151
  go_wp2_with (go_at_call 133; (with_reducible refine (held_nil _).mono ?_); rintro e w' ⟨rfl, rfl⟩)
  go_ret
  exact ⟨rfl, rfl⟩
end
end Go.Proofs.YtkgdcgmbapchcaaGreatDoor.ro
namespace Go.Proofs.YtkgdcgmbapchcaaGreatDoor.ro
open Go.ChangeShapes Go.WideShapes Go.ChangeAt Go.RowKit gen li va wd
set_option linter.unusedVariables false
set_option maxHeartbeats 4000000
set_option maxRecDepth 100000
abbrev vb (x : Va) (b : Bool) : Ending := .returned (.tuple #[.agg #[.int .i64 x.1, .int .i64 x.2], .bool b])
def gt (m : List Va) (i : Int) : Va := if 0 ≤ i ∧ i < m.length then m.getD i.toNat (0, 0) else (0, 0)
def has (m : List Va) (i : Int) : Bool := decide (0 ≤ i ∧ i < m.length)
section
variable {w w' : World} {g : Nat} {m : List Va}
theorem Get_nil (i : Int) (w : World) : Calls Tryz.prog 150 #[.pointer none, .int .i64 i] w fun e w' => e = vb (0, 0) false ∧ w.grownBy w' none := by
  have G0 := Lib.hid (World.grownBy_alloc w (.cells #[.int .i64 0, .int .i64 0] 36) none)
  by_cases h1 : i < 0
  · go_enter Tryz.func150, Tryz.ntmps150
    go_wp2
    exact bodyPost_ret (v := .tuple #[.agg #[.int .i64 0, .int .i64 0], .bool false]) (by simp [results, Tryz.results150, go_sem]) rfl ⟨rfl, G0.out⟩
  · have h2 : 0 ≤ i := by omega
    go_enter Tryz.func150, Tryz.ntmps150
    go_wp2_with (go_at_call 151; (with_reducible refine (Len_nil _).mono ?_); rintro e w' ⟨rfl, rfl⟩)
    exact bodyPost_ret (v := .tuple #[.agg #[.int .i64 0, .int .i64 0], .bool false]) (by simp [results, Tryz.results150, go_sem]) rfl ⟨rfl, G0.out⟩
theorem grown_of {a b : World} (h : Below a.heap.size a b) : a.grownBy b none := ⟨h.os, h.tape, h.output, h.size, fun k hk _ => h.block k hk⟩
theorem grown_aside {a b c : World} {r : Nat} {row : Option Nat} (h : a.grownBy b row) (k : b.grownBy c (some r)) (hr : a.heap.size ≤ r) : a.grownBy c row :=
  ⟨k.os.trans h.os, k.tape.trans h.tape, k.output.trans h.output, Nat.le_trans h.size k.size, fun i hi hne => (k.block i (Nat.lt_of_lt_of_le hi h.size) (by simp; omega)).trans (h.block i hi hne)⟩
theorem Push_nil (k n : Int) (w : World) :
    Calls Tryz.prog 90 #[.pointer none, .agg #[.int .i64 k, .int .i64 n]] w fun e w' => e = .returned (.bool false) ∧ w.grownBy w' none := by
  have G0 := Lib.hid (World.grownBy_alloc w (.cells #[.int .i64 k, .int .i64 n] 36) none)
  go_enter Tryz.func90, Tryz.ntmps90
  go_wp2
  go_ret
  exact ⟨rfl, G0.out⟩
theorem Pop_nil (w : World) : Calls Tryz.prog 79 #[.pointer none] w fun e w' => e = vb (0, 0) false ∧ w.grownBy w' none := by
  have G0 := Lib.hid (World.grownBy_alloc w (.cells #[.int .i64 0, .int .i64 0] 36) none)
  have C0 := Lib.hid (Two.new w 36 0 0 rfl)
  go_enter Tryz.func79, Tryz.ntmps79
  go_wp2_with (first
    | (go_at_call 151; (with_reducible refine (Len_nil _).mono ?_); rintro e w' ⟨rfl, rfl⟩)
    | (go_at_call 150; (with_reducible refine (Get_nil _ _).mono ?_); rintro e w1 ⟨rfl, hg⟩; obtain ⟨d0, d1, d2, d3⟩ := Two.below (li.grown_below hg) C0.out; have G1 := Lib.hid (G0.out.trans hg); have hz : w.heap.size < w1.heap.size := (World.block_lt_of_cell? w1 _ d0); clear hg))
  exact bodyPost_ret (v := .tuple #[.agg #[.int .i64 0, .int .i64 0], .bool false]) (by simp [results, Tryz.results79, go_sem, *]) rfl ⟨rfl, (grown_new G1.out ((grown_set _ _ _ _).trans (grown_set _ _ _ _)) (Nat.le_refl _)).trans (World.grownBy_alloc _ _ _)⟩
end
end Go.Proofs.YtkgdcgmbapchcaaGreatDoor.ro
namespace Go.Proofs.YtkgdcgmbapchcaaGreatDoor.ro
open Go.ChangeShapes Go.WideShapes Go.ChangeAt Go.RowKit gen li va wd
set_option linter.unusedVariables false
set_option maxHeartbeats 4000000
set_option maxRecDepth 100000
theorem append_int {w : World} {ops : Array Oper} {rest : List Oper} {o : Oper} {a : Act} {Q : Exit → Act → World → Prop} (hgd : o.guard = none) (s x : Operand) (ho : o.op = .call { callee := .builtin .append, args := #[s, x], argTypes := #[41, 41] })
    (base : Nat) (v : Value) (xs : List Int) (hs : a.eval s = v) (hown : w.ownsRow base 3 1 v xs.length (ints xs)) (b : Nat) (z : Int) (hx : a.eval x = .slice (some ⟨b, 0, none⟩) 1 1)
    (hz : w.cell? ⟨b, 0, none⟩ = some (.int .i64 z)) (hm : xs.length ≤ 1048576) (hbase : base ≤ w.heap.size)
    (h : ∀ A' N' c' w', N' = (xs ++ [z]).length → w'.ownsRow base 3 1 (.slice A' N' c') (xs ++ [z]).length (ints (xs ++ [z])) → w.grownBy w' v.ownBlock → wpList Tryz.prog ops Q rest (a.put o.dst (.slice A' N' c')) w') : wpList Tryz.prog ops Q (o :: rest) a w := by
  obtain ⟨i0, hi, hz0, hz1, hz2⟩ := info_parts info_int
  refine wpList_append_rd hgd s x 41 ho base 3 i0 (.int .i64 0) 8 Tryz.underlying41 hi hz0 hz1 hz2 rfl v xs.length xs hs hown (some ⟨b, 0, none⟩) 1 1 w.heap.size [z] hx
    ⟨rfl, fun e => (by cases e), fun ad e i hi => ?_⟩ (by unfold maxLen; omega) (by omega) hbase (fun A' c' w' h1 h2 h3 => ?_)
  · injection e with e
    subst e
    obtain rfl : i = 0 := by omega
    exact ⟨World.block_lt_of_cell? _ _ hz, hz⟩
  · exact h A' (xs.length + 1) c' w' (by simp) (by rw [List.length_append]; exact h1) h3
theorem Index_any {w : World} {A : Option Addr} {n c B : Nat} {xs : List Int} (hs : n ≤ 4194304) (h : Rd w B A n c xs) (z : Int) :
    Calls Tryz.prog 202 #[.slice A n c, .int .i64 z] w fun e w' => ∃ r : Int, e = .returned (.int .i64 r) ∧ decide (0 ≤ r) = decide (z ∈ xs) ∧ w' = w := by
  have H := Lib.hid h
  clear h
  go_enter Tryz.func202, Tryz.ntmps202
  go_wp2
  go_loopw [8] (fun i wr => ∃ k : Nat, k ≤ n ∧ i = .int .i64 k ∧ z ∉ xs.take k ∧ wr = w) (fun i _ => n - (intOf i).toNat)
  case atStart => exact ⟨0, Nat.zero_le _, rfl, by simp, rfl⟩
  case round =>
    obtain ⟨k, hk, rfl, hz, hw⟩ := hrel
    subst hw
    have HZ := Lib.hid hz
    clear hz
    by_cases hlt : k < n
    · obtain ⟨b1, o1, rfl, g1⟩ := H.out.at_ hlt
      have HM := Lib.hid (li.getD_mem (xs := xs) (k := k) (by rw [H.out.1]; exact hlt) 0)
      have HT := Lib.hid (li.take_more (xs := xs) (k := k) (by rw [H.out.1]; exact hlt) 0)
      generalize xs.getD k 0 = x at g1 HM HT
      by_cases he : z = x
      · subst he
        go_wp2
        go_ret
        exact ⟨k, rfl, by rw [decide_eq_true HM.out]; simp, rfl⟩
      · have he1 : (z == x) = false := by simpa using he
        have HE := Lib.hid he
        clear he
        go_wp2
        go_roundw
        case rel => exact ⟨k + 1, by omega, by go_num, by rw [HT.out, List.mem_append]; exact fun h => h.elim HZ.out (fun h => HE.out (by simpa using h : z = x)), trivial⟩
        case measure => simp [intOf]; omega
    · obtain rfl : k = n := by omega
      go_wp2
      go_ret
      have hz := HZ.out
      rw [List.take_of_length_le (by rw [H.out.1]; omega)] at hz
      exact ⟨-1, rfl, by rw [decide_eq_false hz]; rfl, rfl⟩
theorem Contains_any {w : World} {A : Option Addr} {n c B : Nat} {xs : List Int} (hs : n ≤ 4194304) (h : Rd w B A n c xs) (z : Int) :
    Calls Tryz.prog 134 #[.slice A n c, .int .i64 z] w fun e w' => e = .returned (.bool (decide (z ∈ xs))) ∧ w' = w := by
  have H := Lib.hid (Index_any hs h z)
  clear h
  generalize decide (z ∈ xs) = b at *
  go_enter Tryz.func134, Tryz.ntmps134
  go_wp2_with (go_at_call 202; (with_reducible refine H.out.mono ?_); rintro e w' ⟨r, rfl, hr, rfl⟩; subst hr)
  all_goals
    go_ret
    exact ⟨by simp [*], rfl⟩
def rfA (a : List Int) (x : Va) : List Int := if x.1 = 2 ∧ x.2 ∉ a then a ++ [x.2] else a
def rf (m : List Va) : List Int := m.foldl rfA []
theorem rf_more {m : List Va} {k : Nat} (h : k < m.length) : rf (m.take (k + 1)) = rfA (rf (m.take k)) (m.getD k (0, 0)) := by
  rw [va.take_more h]
  unfold rf
  rw [List.foldl_append]
  rfl
theorem rf_fold_length : ∀ (m : List Va) (a : List Int), (m.foldl rfA a).length ≤ a.length + m.length
  | [], a => by simp
  | x :: m, a => by
    have h1 := rf_fold_length m (rfA a x)
    have h2 : (rfA a x).length ≤ a.length + 1 := by unfold rfA; split <;> simp
    rw [List.foldl_cons, List.length_cons]
    omega
theorem rf_length (m : List Va) : (rf m).length ≤ m.length := by
  have := rf_fold_length m []
  simpa [rf] using this
theorem rfA_no1 {a : List Int} {x : Va} (h : x.1 ≠ 2) : rfA a x = a := by unfold rfA; rw [if_neg (fun e => h e.1)]
theorem rfA_no2 {a : List Int} {x : Va} (h : x.2 ∈ a) : rfA a x = a := by unfold rfA; rw [if_neg (fun e => e.2 h)]
theorem rfA_yes {a : List Int} {x : Va} (h : x.1 = 2) (h2 : x.2 ∉ a) : rfA a x = a ++ [x.2] := by unfold rfA; rw [if_pos ⟨h, h2⟩]
section
variable {w w' : World} {g : Nat} {m : List Va}
theorem info_roots : (Tryz.prog.info? 62).map (·.size) = some 33 := by kernel_rfl
theorem rc_size (h : m.length ≤ 16) : (rc m).toArray.size = 33 := by rw [List.size_toArray]; exact rc_length h
theorem rc_one (m : List Va) : (rc m).toArray.all (·.oneCell') = true := by
  rw [Array.all_eq_true_iff_forall_mem]
  intro v hv
  simp only [List.mem_toArray, rc, List.mem_cons, List.mem_append] at hv
  rcases hv with rfl | hv | hv
  · rfl
  · exact vc_one m v hv
  · rw [List.eq_of_mem_replicate hv]; rfl
end
end Go.Proofs.YtkgdcgmbapchcaaGreatDoor.ro
namespace Go.Proofs.YtkgdcgmbapchcaaGreatDoor.ro
open Go.ChangeShapes Go.WideShapes Go.ChangeAt Go.RowKit gen li va wd
set_option linter.unusedVariables false
set_option maxHeartbeats 4000000
set_option maxRecDepth 100000
section
variable {w w' : World} {g : Nat} {m : List Va}
theorem All_nil (w : World) : Calls Tryz.prog 96 #[.pointer none] w (VasAns [] w) := by
  have mk : ∀ w : World, (Instr.makeSlice 75 (.int .i64 0) (.int .i64 0)).run Tryz.prog w = .ok (.slice (some ⟨w.heap.size, 0, none⟩) 0 0) (w.alloc (.cells #[] 36)) := make_vas 0 (by omega)
  go_enter Tryz.func96, Tryz.ntmps96
  go_wp2_with (first
    | (go_at_call 151; (with_reducible refine (Len_nil _).mono ?_); rintro e w' ⟨rfl, rfl⟩)
    | (go_at_call 133; (with_reducible refine (held_nil _).mono ?_); rintro e w' ⟨rfl, rfl⟩)
    | (refine wpList_copy_none rfl (.tmp 7) (.tmp 9) rfl ⟨w.heap.size, 0, none⟩ 0 0 rfl rfl ?_))
  go_ret
  exact ⟨_, 0, rfl, Lv.whole (m := []) (heap_alloc_new _ _) (Nat.le_refl _) (Nat.zero_le _), World.grownBy_alloc _ _ _⟩
end
end Go.Proofs.YtkgdcgmbapchcaaGreatDoor.ro
