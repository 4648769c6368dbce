/- What layer 15's All, Behind, Agreed and Least tell; the closures by which live threads are chosen. -/
import Derived.Test.YtahiagaocnmjpaaEpB
namespace Go.Proofs.Ytahiagaocnmjpaa.ep
open Go.ChangeShapes Go.WideShapes Go.ChangeAt Go.RowKit gen li
set_option linter.unusedVariables false
set_option maxHeartbeats 4000000
set_option maxRecDepth 100000

/-- A number appended to a list of one's own. -/
theorem append_int {w : World} {ops : Array Oper} {rest : List Oper} {o : Oper} {a : Act} {Q : Exit → Act → World → Prop} (hgd : o.guard = none) (s x : Operand) (ho : o.op = .call { callee := .builtin .append, args := #[s, x], argTypes := #[24, 24] })
    (base : Nat) (v : Value) (xs : List Int) (hs : a.eval s = v) (hown : w.ownsRow base 3 1 v xs.length (ints xs)) (b : Nat) (z : Int) (hx : a.eval x = .slice (some ⟨b, 0, none⟩) 1 1)
    (hz : w.cell? ⟨b, 0, none⟩ = some (.int .i64 z)) (hm : xs.length ≤ 1048576) (hbase : base ≤ w.heap.size)
    (h : ∀ A' N' c' w', N' = (xs ++ [z]).length → w'.ownsRow base 3 1 (.slice A' N' c') (xs ++ [z]).length (ints (xs ++ [z])) → w.grownBy w' v.ownBlock → wpList Try.prog ops Q rest (a.put o.dst (.slice A' N' c')) w') : wpList Try.prog ops Q (o :: rest) a w := by
  obtain ⟨i0, hi, hz0, hz1, hz2⟩ := info_parts info_int
  refine wpList_append_rd hgd s x 24 ho base 3 i0 (.int .i64 0) 8 Try.underlying24 hi hz0 hz1 hz2 rfl v xs.length xs hs hown (some ⟨b, 0, none⟩) 1 1 w.heap.size [z] hx
    ⟨rfl, fun e => (by cases e), fun ad e i hi => ?_⟩ (by unfold maxLen; omega) (by omega) hbase (fun A' c' w' h1 h2 h3 => ?_)
  · injection e with e
    subst e
    obtain rfl : i = 0 := by omega
    exact ⟨World.block_lt_of_cell? _ _ hz, hz⟩
  · exact h A' (xs.length + 1) c' w' (by simp) (by rw [List.length_append]; exact h1) h3
/-- Of the first k threads the live ones of which what they confirmed is wanted, rising. -/
def chs (p : Int → Bool) (m : List Int) (k : Nat) : List Int := ((List.range k).filter fun t : Nat => lv (m.getD t (-1)) && p (m.getD t (-1))).map fun t : Nat => (t : Int)
theorem chs_yes {p : Int → Bool} {m : List Int} {k : Nat} (h1 : lv (m.getD k (-1)) = true) (h2 : p (m.getD k (-1)) = true) : chs p m (k + 1) = chs p m k ++ [(k : Int)] := by
  unfold chs
  rw [List.range_succ, List.filter_append, List.map_append]
  congr 1
  rw [List.filter_cons_of_pos (by rw [h1, h2]; rfl)]
  rfl
theorem chs_no {p : Int → Bool} {m : List Int} {k : Nat} (h : (lv (m.getD k (-1)) && p (m.getD k (-1))) = false) : chs p m (k + 1) = chs p m k := by
  unfold chs
  rw [List.range_succ, List.filter_append, List.filter_cons_of_neg (by rw [h]; exact Bool.false_ne_true)]
  simp
theorem chs_length (p : Int → Bool) (m : List Int) (k : Nat) : (chs p m k).length ≤ k := by
  unfold chs
  rw [List.length_map]
  exact Nat.le_trans (List.length_filter_le _ _) (by simp)
theorem chs_more (p : Int → Bool) (m : List Int) (d : Nat) : chs p m (m.length + d) = chs p m m.length := by
  induction d with
  | zero => rfl
  | succ d ih =>
    rw [← Nat.add_assoc, chs_no, ih]
    rw [List.getD_eq_getElem?_getD, List.getElem?_eq_none (by omega)]
    rfl
theorem chs_eight {p : Int → Bool} {m : List Int} (h : m.length ≤ 8) : chs p m 8 = chs p m m.length := by
  have := chs_more p m (8 - m.length)
  rwa [show m.length + (8 - m.length) = 8 by omega] at this
theorem mem_chs {p : Int → Bool} {m : List Int} {k : Nat} {x : Int} (h : x ∈ chs p m k) : ∃ t : Nat, t < k ∧ x = t ∧ lv (m.getD t (-1)) = true ∧ p (m.getD t (-1)) = true := by
  unfold chs at h
  obtain ⟨t, ht, rfl⟩ := List.mem_map.1 h
  obtain ⟨h1, h2⟩ := List.mem_filter.1 ht
  rw [Bool.and_eq_true] at h2
  exact ⟨t, List.mem_range.1 h1, rfl, h2.1, h2.2⟩
theorem chs_mem {p : Int → Bool} {m : List Int} {k t : Nat} (ht : t < k) (h1 : lv (m.getD t (-1)) = true) (h2 : p (m.getD t (-1)) = true) : (t : Int) ∈ chs p m k := by
  unfold chs
  exact List.mem_map.2 ⟨t, List.mem_filter.2 ⟨List.mem_range.2 ht, by rw [h1, h2]; rfl⟩, rfl⟩
/-- Live ones; those that are behind. -/
def al (m : List Int) : List Int := chs (fun _ => true) m m.length
def bh (e : Nat) (m : List Int) : List Int := chs (fun x => decide (x < (e : Int))) m m.length
theorem al_length (m : List Int) : (al m).length ≤ m.length := chs_length _ _ _
theorem bh_length (e : Nat) (m : List Int) : (bh e m).length ≤ m.length := chs_length _ _ _
/-- The least that one of the first k confirmed. -/
def ls (e : Nat) (m : List Int) : Nat → Int
  | 0 => e
  | k + 1 => if lv (m.getD k (-1)) then min (ls e m k) (m.getD k (-1)) else ls e m k
theorem min_if (a b : Int) : min a b = if b < a then b else a := by rw [Int.min_def]; split <;> split <;> omega
def lf (e : Nat) (m : List Int) (xs : List Int) : Int := xs.foldl (fun a t => min a (of m t)) (e : Int)
theorem lf_chs (e : Nat) (m : List Int) (k : Nat) : lf e m (chs (fun _ => true) m k) = ls e m k := by
  induction k with
  | zero => rfl
  | succ k ih =>
    unfold ls
    cases hl : lv (m.getD k (-1)) with
    | true =>
      rw [chs_yes hl rfl, ← ih]
      unfold lf
      rw [List.foldl_append, if_pos rfl]
      simp only [List.foldl_cons, List.foldl_nil, of_nat]
    | false =>
      rw [chs_no (by rw [hl]; rfl), ih]
      rfl
theorem lf_more (e : Nat) (m : List Int) {xs : List Int} {k : Nat} (h : k < xs.length) : lf e m (xs.take (k + 1)) = min (lf e m (xs.take k)) (of m (xs.getD k 0)) := by
  rw [take_more h 0]
  unfold lf
  rw [List.foldl_append]
  rfl
section
variable {w w' : World} {g : Nat} {b : Bool} {e : Nat} {m : List Int}
theorem all1_any (x : Int) (w : World) : Calls Try.prog 31 #[.int .i64 x] w fun r w' => r = .returned (.bool true) ∧ w = w' := by
  go_enter Try.func31, Try.ntmps31
  go_wp2
  go_ret
  exact ⟨rfl, rfl⟩
theorem behind1_any (x : Int) (B : Nat) (y : Int) (w : World) (hB : w.cell? ⟨B, 0, none⟩ = some (.int .i64 y)) : Calls Try.prog 32 #[.int .i64 x, .pointer (some ⟨B, 0, none⟩)] w fun r w' => r = .returned (.bool (decide (x < y))) ∧ w = w' := by
  go_enter Try.func32, Try.ntmps32
  go_wp2
  go_ret
  exact ⟨rfl, rfl⟩
theorem chosen_all (h : Rg w g b e m) : Calls Try.prog 30 #[.pointer (some ⟨g, 0, none⟩), .func (.func 31) #[] #[]] w (ListAns (chs (fun _ => true) m m.length) w) := by
  have H := Lib.hid h
  have H8 := Lib.hid h.2.1
  clear h
  go_enter Try.func30, Try.ntmps30
  go_wp2
  go_loopw [5, 7] (fun v i wr => ∃ (k N : Nat) (A' : Option Addr) (c' : Nat), k ≤ 8 ∧ i = .int .i64 k ∧ v = .slice A' N c' ∧ N = (chs (fun _ => true) m k).length ∧ wr.ownsRow w.heap.size 3 1 (.slice A' N c') (chs (fun _ => true) m k).length (ints (chs (fun _ => true) m k)) ∧ w.grownBy wr none) (fun _ i _ => 8 - (intOf i).toNat)
  case atStart => exact ⟨0, 0, none, 0, by omega, rfl, rfl, rfl, World.ownsRow_nil _ _ _ _, World.grownBy.refl _ _⟩
  case round =>
    obtain ⟨k, N, A', c', hk, rfl, rfl, hm, ho, hg⟩ := hrel
    have HM := Lib.hid hm
    have HO := Lib.hid ho
    have HG := Lib.hid hg
    have R := Lib.hid (H.out.new hg)
    clear hm ho hg
    by_cases hlt : k < 8
    · have HL := Lib.hid (show N ≤ 8 by rw [HM.out]; exact Nat.le_trans (chs_length _ _ _) (by omega))
      have LV := Lib.hid (Live_any R.out k)
      have OF := Lib.hid (Of_any R.out k)
      have HS := Lib.hid (HG.out.size)
      rw [of_nat] at LV OF
      cases hv : lv (m.getD k (-1)) with
      | false =>
        rw [hv] at LV
        have FF := Lib.hid (show chs (fun _ => true) m (k + 1) = chs (fun _ => true) m k from chs_no (by rw [hv]; rfl))
        clear hv OF
        go_wp2_with (go_at_call 24; (with_reducible refine LV.out.mono ?_); rintro r w' ⟨rfl, rfl⟩)
        go_roundw
        case rel => exact ⟨k + 1, N, A', c', by omega, by go_num, rfl, by rw [FF.out]; exact HM.out, by rw [FF.out]; exact HO.out, HG.out⟩
        case measure => simp [intOf]; omega
      | true =>
        rw [hv] at LV
        have HV := Lib.hid hv
        generalize hx : m.getD k (-1) = x at OF
        have HX := Lib.hid hx
        clear hv hx
        have FF := Lib.hid (show chs (fun _ => true) m (k + 1) = chs (fun _ => true) m k ++ [(k : Int)] from chs_yes HV.out rfl)
        go_wp2_with (first
          | (go_at_call 24; (with_reducible refine LV.out.mono ?_); rintro r w' ⟨rfl, rfl⟩)
          | (go_at_call 16; (with_reducible refine OF.out.mono ?_); rintro r w' ⟨rfl, rfl⟩)
          | (go_at_call 31; (with_reducible refine (all1_any _ _).mono ?_); rintro r w' ⟨rfl, rfl⟩)
          | (refine append_int rfl (.tmp 20) (.tmp 22) rfl w.heap.size (.slice A' N c') (chs (fun _ => true) m k) rfl (HO.out.alloc _) _ (k : Int) rfl (by go_simp) (by have := HL.out; have := HM.out; omega) (by have := HS.out; simp; omega) ?_; intro A3 N3 c3 w2 hn3 own1 gr1; have HN3 := Lib.hid hn3; have OWN1 := Lib.hid own1; have GR1 := Lib.hid gr1; clear hn3 own1 gr1))
        go_roundw
        case rel => exact ⟨k + 1, N3, A3, c3, by omega, by go_num, rfl, by rw [FF.out]; exact HN3.out, by rw [FF.out]; exact OWN1.out, grown_own (HG.out.trans (World.grownBy_alloc _ _ _)) (HO.out.alloc _) GR1.out (Nat.le_refl _)⟩
        case measure => simp [intOf]; omega
    · obtain rfl : k = 8 := by omega
      go_wp2
      go_ret
      have hm := HM.out
      have ho := HO.out
      rw [chs_eight H8.out] at hm ho
      subst hm
      exact ⟨A', c', rfl, ho, HG.out⟩
theorem chosen_behind (h : Rg w g b e m) {B : Nat} (hB : w.cell? ⟨B, 0, none⟩ = some (.int .i64 e)) : Calls Try.prog 30 #[.pointer (some ⟨g, 0, none⟩), .func (.func 32) #[] #[.pointer (some ⟨B, 0, none⟩)]] w (ListAns (chs (fun x => decide (x < (e : Int))) m m.length) w) := by
  have H := Lib.hid h
  have H8 := Lib.hid h.2.1
  have CB0 := Lib.hid hB
  clear hB
  clear h
  go_enter Try.func30, Try.ntmps30
  go_wp2
  go_loopw [5, 7] (fun v i wr => ∃ (k N : Nat) (A' : Option Addr) (c' : Nat), k ≤ 8 ∧ i = .int .i64 k ∧ v = .slice A' N c' ∧ N = (chs (fun x => decide (x < (e : Int))) m k).length ∧ wr.ownsRow w.heap.size 3 1 (.slice A' N c') (chs (fun x => decide (x < (e : Int))) m k).length (ints (chs (fun x => decide (x < (e : Int))) m k)) ∧ w.grownBy wr none) (fun _ i _ => 8 - (intOf i).toNat)
  case atStart => exact ⟨0, 0, none, 0, by omega, rfl, rfl, rfl, World.ownsRow_nil _ _ _ _, World.grownBy.refl _ _⟩
  case round =>
    obtain ⟨k, N, A', c', hk, rfl, rfl, hm, ho, hg⟩ := hrel
    have HM := Lib.hid hm
    have HO := Lib.hid ho
    have HG := Lib.hid hg
    have R := Lib.hid (H.out.new hg)
    have CB := Lib.hid (hg.cell CB0.out (by simp))
    clear hm ho hg
    by_cases hlt : k < 8
    · have HL := Lib.hid (show N ≤ 8 by rw [HM.out]; exact Nat.le_trans (chs_length _ _ _) (by omega))
      have LV := Lib.hid (Live_any R.out k)
      have OF := Lib.hid (Of_any R.out k)
      have HS := Lib.hid (HG.out.size)
      rw [of_nat] at LV OF
      cases hv : lv (m.getD k (-1)) with
      | false =>
        rw [hv] at LV
        have FF := Lib.hid (show chs (fun x => decide (x < (e : Int))) m (k + 1) = chs (fun x => decide (x < (e : Int))) m k from chs_no (by rw [hv]; rfl))
        clear hv OF
        go_wp2_with (go_at_call 24; (with_reducible refine LV.out.mono ?_); rintro r w' ⟨rfl, rfl⟩)
        go_roundw
        case rel => exact ⟨k + 1, N, A', c', by omega, by go_num, rfl, by rw [FF.out]; exact HM.out, by rw [FF.out]; exact HO.out, HG.out⟩
        case measure => simp [intOf]; omega
      | true =>
        rw [hv] at LV
        have HV := Lib.hid hv
        generalize hx : m.getD k (-1) = x at OF
        have HX := Lib.hid hx
        clear hv hx
        have BC := Lib.hid (behind1_any x B e _ CB.out)
        cases hd : decide (x < (e : Int)) with
        | true =>
          rw [hd] at BC
          have FF := Lib.hid (show chs (fun x => decide (x < (e : Int))) m (k + 1) = chs (fun x => decide (x < (e : Int))) m k ++ [(k : Int)] from chs_yes HV.out (by rw [HX.out]; exact hd))
          clear hd
          go_wp2_with (first
            | (go_at_call 24; (with_reducible refine LV.out.mono ?_); rintro r w' ⟨rfl, rfl⟩)
            | (go_at_call 16; (with_reducible refine OF.out.mono ?_); rintro r w' ⟨rfl, rfl⟩)
            | (go_at_call 32; (with_reducible refine BC.out.mono ?_); rintro r w' ⟨rfl, rfl⟩)
            | (refine append_int rfl (.tmp 20) (.tmp 22) rfl w.heap.size (.slice A' N c') (chs (fun x => decide (x < (e : Int))) m k) rfl (HO.out.alloc _) _ (k : Int) rfl (by go_simp) (by have := HL.out; have := HM.out; omega) (by have := HS.out; simp; omega) ?_; intro A3 N3 c3 w2 hn3 own1 gr1; have HN3 := Lib.hid hn3; have OWN1 := Lib.hid own1; have GR1 := Lib.hid gr1; clear hn3 own1 gr1))
          go_roundw
          case rel => exact ⟨k + 1, N3, A3, c3, by omega, by go_num, rfl, by rw [FF.out]; exact HN3.out, by rw [FF.out]; exact OWN1.out, grown_own (HG.out.trans (World.grownBy_alloc _ _ _)) (HO.out.alloc _) GR1.out (Nat.le_refl _)⟩
          case measure => simp [intOf]; omega
        | false =>
          rw [hd] at BC
          have FF := Lib.hid (show chs (fun x => decide (x < (e : Int))) m (k + 1) = chs (fun x => decide (x < (e : Int))) m k from chs_no (by rw [HX.out, hd, Bool.and_false]))
          clear hd
          go_wp2_with (first
            | (go_at_call 24; (with_reducible refine LV.out.mono ?_); rintro r w' ⟨rfl, rfl⟩)
            | (go_at_call 16; (with_reducible refine OF.out.mono ?_); rintro r w' ⟨rfl, rfl⟩)
            | (go_at_call 32; (with_reducible refine BC.out.mono ?_); rintro r w' ⟨rfl, rfl⟩))
          go_roundw
          case rel => exact ⟨k + 1, N, A', c', by omega, by go_num, rfl, by rw [FF.out]; exact HM.out, by rw [FF.out]; exact HO.out, HG.out⟩
          case measure => simp [intOf]; omega
    · obtain rfl : k = 8 := by omega
      go_wp2
      go_ret
      have hm := HM.out
      have ho := HO.out
      rw [chs_eight H8.out] at hm ho
      subst hm
      exact ⟨A', c', rfl, ho, HG.out⟩
theorem chosen_nil (fv : Value) (w : World) : Calls Try.prog 30 #[.pointer none, fv] w fun r w' => r = .returned (.slice none 0 0) ∧ w = w' := by
  go_enter Try.func30, Try.ntmps30
  go_wp2
  go_loopw [5, 7] (fun v i wr => ∃ k : Nat, k ≤ 8 ∧ i = .int .i64 k ∧ v = .slice none 0 0 ∧ wr = w) (fun _ i _ => 8 - (intOf i).toNat)
  case atStart => exact ⟨0, by omega, rfl, rfl, rfl⟩
  case round =>
    obtain ⟨k, hk, rfl, rfl, rfl⟩ := hrel
    by_cases hlt : k < 8
    · go_wp2_with (go_at_call 24; (with_reducible refine (Live_nil _ _).mono ?_); rintro r w' ⟨rfl, rfl⟩)
      go_roundw
      case rel => exact ⟨k + 1, by omega, by go_num, rfl, trivial⟩
      case measure => simp [intOf]; omega
    · obtain rfl : k = 8 := by omega
      go_wp2
      go_ret
      exact ⟨rfl, rfl⟩
theorem All_nil (w : World) : Calls Try.prog 15 #[.pointer none] w fun r w' => r = .returned (.slice none 0 0) ∧ w = w' := by
  go_enter Try.func15, Try.ntmps15
  go_wp2_with (go_at_call 30; (with_reducible refine (chosen_nil _ _).mono ?_); rintro r w' ⟨rfl, rfl⟩)
  go_ret
  exact ⟨rfl, rfl⟩
theorem All_any (h : Rg w g b e m) : Calls Try.prog 15 #[.pointer (some ⟨g, 0, none⟩)] w (ListAns (al m) w) := by
  have HC := Lib.hid (chosen_all h)
  clear h
  go_enter Try.func15, Try.ntmps15
  go_wp2_with (go_at_call 30; (with_reducible refine HC.out.mono ?_); rintro r w2 ⟨A, c, rfl, ho, hg⟩; have HO := Lib.hid ho; have HG := Lib.hid hg; clear ho hg)
  go_ret
  exact ⟨A, c, rfl, HO.out, HG.out⟩
theorem Behind_nil (w : World) : Calls Try.prog 21 #[.pointer none] w fun r w' => r = .returned (.slice none 0 0) ∧ w.grownBy w' none := by
  have G0 := Lib.hid (World.grownBy_alloc w (.cells #[.int .i64 0] 3) none)
  go_enter Try.func21, Try.ntmps21
  go_wp2_with (first
    | (go_at_call 17; (with_reducible refine (Epoch_nil _).mono ?_); rintro r w' ⟨rfl, rfl⟩)
    | (go_at_call 30; (with_reducible refine (chosen_nil _ _).mono ?_); rintro r w' ⟨rfl, rfl⟩))
  go_ret
  exact ⟨rfl, G0.out⟩
theorem Behind_any (h : Rg w g b e m) : Calls Try.prog 21 #[.pointer (some ⟨g, 0, none⟩)] w (ListAns (bh e m) w) := by
  have H := Lib.hid h
  have EP := Lib.hid (Epoch_any h)
  have G0 := Lib.hid (World.grownBy_alloc w (.cells #[.int .i64 e] 3) none)
  have C0 := Lib.hid (show (w.alloc (.cells #[.int .i64 e] 3)).cell? ⟨w.heap.size, 0, none⟩ = some (.int .i64 e) by go_simp)
  clear h
  go_enter Try.func21, Try.ntmps21
  go_wp2_with (first
    | (go_at_call 17; (with_reducible refine EP.out.mono ?_); rintro r w' ⟨rfl, rfl⟩)
    | (go_at_call 30; (with_reducible refine (chosen_behind (H.out.new G0.out) C0.out).mono ?_); rintro r w2 ⟨A, c, rfl, ho, hg⟩; have HO := Lib.hid ho; have HG := Lib.hid (G0.out.trans hg); clear ho hg))
  go_ret
  exact ⟨A, c, rfl, own_mono HO.out G0.out.size, HG.out⟩
theorem Agreed_nil (w : World) : Calls Try.prog 19 #[.pointer none] w fun r w' => r = .returned (.bool true) ∧ w.grownBy w' none := by
  go_enter Try.func19, Try.ntmps19
  go_wp2_with (go_at_call 21; (with_reducible refine (Behind_nil _).mono ?_); rintro r w2 ⟨rfl, hg⟩; have HG := Lib.hid hg; clear hg)
  go_ret
  exact ⟨rfl, HG.out⟩
theorem Agreed_any (h : Rg w g b e m) : Calls Try.prog 19 #[.pointer (some ⟨g, 0, none⟩)] w fun r w' => r = .returned (.bool (((bh e m).length : Int) == 0)) ∧ w.grownBy w' none := by
  have HB := Lib.hid (Behind_any h)
  have hl : (bh e m).length ≤ 8 := Nat.le_trans (bh_length e m) h.2.1
  generalize bh e m = xs at HB hl
  clear h
  go_enter Try.func19, Try.ntmps19
  go_wp2_with (go_at_call 21; (with_reducible refine HB.out.mono ?_); rintro r w2 ⟨A, c, rfl, ho, hg⟩; have HG := Lib.hid hg; clear ho hg)
  go_ret
  exact ⟨rfl, HG.out⟩
theorem Least_nil (w : World) : Calls Try.prog 18 #[.pointer none] w fun r w' => r = .returned (.int .i64 0) ∧ w = w' := by
  go_enter Try.func18, Try.ntmps18
  go_wp2_with (first
    | (go_at_call 17; (with_reducible refine (Epoch_nil _).mono ?_); rintro r w' ⟨rfl, rfl⟩)
    | (go_at_call 15; (with_reducible refine (All_nil _).mono ?_); rintro r w' ⟨rfl, rfl⟩))
  go_loopw [3, 11] (fun v i wr => v = .int .i64 0 ∧ i = .int .i64 0 ∧ wr = w) (fun _ i _ => 0)
  case atStart => exact ⟨rfl, rfl, rfl⟩
  case round =>
    obtain ⟨rfl, rfl, rfl⟩ := hrel
    go_wp2
    go_ret
    exact ⟨rfl, rfl⟩
theorem Least_any (h : Rg w g b e m) : Calls Try.prog 18 #[.pointer (some ⟨g, 0, none⟩)] w fun r w' => r = .returned (.int .i64 (ls e m m.length)) ∧ w.grownBy w' none := by
  have H := Lib.hid h
  have EP := Lib.hid (Epoch_any h)
  have HA := Lib.hid (All_any h)
  have LF := Lib.hid (show lf e m (al m) = ls e m m.length from lf_chs e m m.length)
  have hl : (al m).length ≤ 8 := Nat.le_trans (al_length m) h.2.1
  generalize al m = xs at HA LF hl
  obtain ⟨n, hn⟩ : ∃ n, xs.length = n := ⟨_, rfl⟩
  have HN := Lib.hid hn
  rw [hn] at hl
  clear h hn
  go_enter Try.func18, Try.ntmps18
  go_wp2_with (first
    | (go_at_call 17; (with_reducible refine EP.out.mono ?_); rintro r w' ⟨rfl, rfl⟩)
    | (go_at_call 15; (with_reducible refine HA.out.mono ?_); rintro r w2 ⟨A, c, rfl, ho, hg⟩; rw [HN.out] at ho ⊢; have HR := Lib.hid (rd_own ho); have HG := Lib.hid hg; have R := Lib.hid (H.out.new hg); clear ho hg))
  go_loopw [3, 11] (fun v i wr => ∃ k : Nat, k ≤ n ∧ i = .int .i64 k ∧ v = .int .i64 (lf e m (xs.take k)) ∧ wr = w2) (fun _ i _ => n - (intOf i).toNat)
  case atStart => exact ⟨0, Nat.zero_le _, rfl, rfl, rfl⟩
  case round =>
    obtain ⟨k, hk, rfl, rfl, rfl⟩ := hrel
    by_cases hlt : k < n
    · obtain ⟨b1, o1, rfl, g1⟩ := HR.out.at_ hlt
      have HM := Lib.hid (lf_more e m (xs := xs) (k := k) (by rw [HN.out]; exact hlt))
      have OF := Lib.hid (fun t => Of_any R.out t)
      generalize lf e m (xs.take k) = y at HM
      generalize xs.getD k 0 = t at g1 HM
      have OF1 := Lib.hid (OF.out t)
      generalize of m t = z at OF1 HM
      go_wp2_with (go_at_call 16; (with_reducible refine OF1.out.mono ?_); rintro r w' ⟨rfl, rfl⟩)
      go_roundw
      case rel => exact ⟨k + 1, by omega, by go_num, by rw [HM.out, min_if], trivial⟩
      case measure => simp [intOf]; omega
    · obtain rfl : k = n := by omega
      have LE := Lib.hid (show lf e m (xs.take k) = ls e m m.length by rw [List.take_of_length_le (by rw [HN.out]; omega)]; exact LF.out)
      generalize lf e m (xs.take k) = y at LE
      go_wp2
      go_ret
      exact ⟨by rw [← LE.out]; rfl, HG.out⟩
end
end Go.Proofs.Ytahiagaocnmjpaa.ep
