/- Lists that are made: without, Rising; All of a set; New, Clone. -/
import Derived.Test.YtljahpjdkkennaaBmL
namespace Go.Proofs.Ytljahpjdkkennaa.bm
open Go.ChangeShapes Go.WideShapes Go.ChangeAt Go.RowKit gen
set_option linter.unusedVariables false

theorem filter_more {xs : List Int} {k : Nat} (hk : k < xs.length) (p : Int → Bool) : (xs.take (k + 1)).filter p = (xs.take k).filter p ++ if p (xs.getD k 0) then [xs.getD k 0] else [] := by
  rw [take_more hk 0, List.filter_append, List.filter_cons, List.filter_nil]
theorem grown_one {w wr w2 : World} {base n : Nat} {v : Value} {xs : List Value} {t : TypeId} {o : Obj} (hg : w.grownBy wr none) (ho : wr.ownsRow base t 1 v n xs) (hb : w.heap.size ≤ base) (h : (wr.alloc o).grownBy w2 v.ownBlock) : w.grownBy w2 none :=
  grown_own (hg.trans (World.grownBy_alloc wr o none)) (ho.alloc _) h hb
theorem rising_more {xs : List Int} {k : Nat} (hk : k < xs.length) : rising (xs.take (k + 1)) = ins (rising (xs.take k)) (xs.getD k 0) := by
  rw [take_more hk 0]
  unfold rising
  rw [List.foldl_append]
  rfl
theorem fold_length : ∀ (l out : List Int), (l.foldl ins out).length ≤ out.length + l.length
  | [], _ => by simp
  | x :: l, out => by
    have h1 := fold_length l (ins out x)
    have h2 := ins_length out x
    rw [List.foldl_cons, List.length_cons]
    omega
theorem rising_length (l : List Int) : (rising l).length ≤ l.length := by
  have := fold_length l []
  simpa [rising] using this
/-- The numbers ahead of the place at which one is put in. -/
theorem take_stop : ∀ {out : List Int} {x : Int} {a : Nat}, a ≤ out.length → (∀ y ∈ out.take a, y < x) → (a < out.length → ¬ out.getD a 0 < x) →
    out.takeWhile (fun y => decide (y < x)) = out.take a ∧ out.dropWhile (fun y => decide (y < x)) = out.drop a
  | [], x, a, ha, _, _ => by simp
  | y :: out, x, 0, ha, h1, h2 => by
    have : ¬ y < x := h2 (by simp)
    rw [List.takeWhile_cons_of_neg (by simpa using this), List.dropWhile_cons_of_neg (by simpa using this)]
    exact ⟨rfl, rfl⟩
  | y :: out, x, a + 1, ha, h1, h2 => by
    have hy : y < x := h1 y (by simp)
    rw [List.takeWhile_cons_of_pos (by simpa using hy), List.dropWhile_cons_of_pos (by simpa using hy)]
    obtain ⟨e1, e2⟩ := take_stop (out := out) (x := x) (a := a) (by simpa using ha) (fun z hz => h1 z (by rw [List.take_succ_cons]; exact List.mem_cons_of_mem _ hz)) (fun h => by have := h2 (by simpa using h); simpa using this)
    rw [e1, e2]
    exact ⟨rfl, rfl⟩
theorem ins_at {out : List Int} {x : Int} {a : Nat} (hx : x ∉ out) (ha : a ≤ out.length) (h1 : ∀ y ∈ out.take a, y < x) (h2 : a < out.length → ¬ out.getD a 0 < x) : ins out x = out.take a ++ x :: out.drop a := by
  obtain ⟨e1, e2⟩ := take_stop ha h1 h2
  unfold ins
  rw [if_neg hx, e1, e2]
theorem own_or {w : World} {base n c : Nat} {A : Option Addr} {t : TypeId} {xs : List Value} (h : w.ownsRow base t 1 (.slice A n c) n xs) : (A = none ∧ n = 0 ∧ c = 0) ∨ ∃ g, A = some ⟨g, 0, none⟩ ∧ n ≤ c ∧ c ≤ maxLen := by
  rcases h.2 with ⟨e, _⟩ | ⟨g, cap, cur, e, _, _, h1, h2, _⟩
  · injection e with e1 e2 e3
    exact .inl ⟨e1, e2, e3⟩
  · injection e with e1 e2 e3
    exact .inr ⟨g, e1, by omega, by omega⟩
theorem own_mono {w : World} {base base' n : Nat} {t : TypeId} {v : Value} {xs : List Value} (h : w.ownsRow base t 1 v n xs) (hb : base' ≤ base) : w.ownsRow base' t 1 v n xs := by
  refine ⟨h.1, ?_⟩
  rcases h.2 with h2 | ⟨g, cap, cur, h1, h2, h3⟩
  · exact .inl h2
  · exact .inr ⟨g, cap, cur, h1, Nat.le_trans hb h2, h3⟩
theorem Rd.take {w : World} {B n c a c' : Nat} {A : Option Addr} {xs : List Int} (h : Rd w B A n c xs) (ha : a ≤ n) (hc : A = none → c' = 0) : Rd w B A a c' (xs.take a) := by
  refine ⟨by rw [List.length_take, h.1]; omega, fun e => ⟨by have := (h.2.1 e).1; omega, hc e⟩, fun ad e i hi => ?_⟩
  have := h.2.2 ad e i (by omega)
  refine ⟨this.1, ?_⟩
  rw [this.2]
  simp [List.getD_eq_getElem?_getD, hi]
theorem Rd.drop {w : World} {B n c a m c' g : Nat} {A : Option Addr} {xs : List Int} (h : Rd w B (some ⟨g, 0, none⟩) n c xs) (ha : a + m = n) (hA : 0 < m → A = some ⟨g, a, none⟩) (hn : A = none → c' = 0) : Rd w B A m c' (xs.drop a) := by
  refine ⟨by rw [List.length_drop, h.1]; omega, fun e => ⟨?_, hn e⟩, fun ad e i hi => ?_⟩
  · rcases Nat.eq_zero_or_pos m with h0 | h0
    · exact h0
    · rw [hA h0] at e; cases e
  · have h0 := hA (by omega)
    rw [h0] at e
    injection e with e
    subst e
    have := h.2.2 _ rfl (a + i) (by omega)
    rw [Addr.add_lit, Nat.zero_add] at this
    rw [Addr.add_lit]
    refine ⟨this.1, ?_⟩
    rw [this.2]
    simp [List.getD_eq_getElem?_getD]
theorem Rd.none_of {w : World} {B n c a m c' : Nat} {A A' : Option Addr} {xs : List Int} (h : Rd w B A' n c xs) (ha : a + m = a) (hn : A = none → c' = 0) (hx : a = n := by rfl) : Rd w B A m c' (xs.drop a) := by
  obtain rfl : m = 0 := by omega
  subst hx
  refine ⟨by rw [List.length_drop, h.1]; omega, fun e => ⟨rfl, hn e⟩, fun ad e i hi => by omega⟩
set_option maxHeartbeats 4000000 in
theorem Rising_any {w : World} {A : Option Addr} {n c B : Nat} {xs : List Int} (hs : n ≤ 4096) (h : Rd w w.heap.size A n c xs) :
    Calls Try.prog 14 #[.slice A n c] w (ListAns (rising xs) w) := by
  have H := Lib.hid h
  obtain ⟨i0, hi, hz0, hz1, hz2⟩ := info_parts info_int
  have E : Hid (i0.zero = some (.int .i64 0) ∧ i0.size = 1 ∧ i0.bytes = 8 ∧ Try.prog.info? 3 = some i0) := ⟨hz0, hz1, hz2, hi⟩
  clear hi hz0 hz1 hz2 h
  go_enter Try.func14, Try.ntmps14
  go_wp2
  go_loopw [3, 4] (fun v i wr => ∃ (k m : Nat) (A' : Option Addr) (c' : Nat), k ≤ n ∧ i = .int .i64 k ∧ v = .slice A' m c' ∧ m = (rising (xs.take k)).length ∧ wr.ownsRow w.heap.size 3 1 (.slice A' m c') m (ints (rising (xs.take k))) ∧ w.grownBy wr none) (fun _ i _ => n - (intOf i).toNat)
  case atStart => exact ⟨0, 0, none, 0, Nat.zero_le _, rfl, rfl, by simp [rising], World.ownsRow_nil _ _ _ _, grown_refl _ _⟩
  case round =>
    obtain ⟨k, m, A', c', hk, rfl, rfl, hm, ho, hg⟩ := hrel
    have HM := Lib.hid hm
    have HO := Lib.hid ho
    have HG := Lib.hid hg
    have R := Lib.hid (H.out.below (grown_below hg))
    clear hm ho hg
    by_cases hlt : k < n
    · obtain ⟨b1, o1, rfl, g1⟩ := R.out.at_ hlt
      have HF := Lib.hid (rising_more (xs := xs) (k := k) (by rw [H.out.1]; exact hlt))
      have hl : m ≤ 4096 := by rw [HM.out]; exact Nat.le_trans (rising_length _) (by rw [List.length_take, H.out.1]; omega)
      generalize xs.getD k 0 = x at g1 HF
      generalize rising (xs.take k) = out at HM HO HF
      have RO := Lib.hid (rd_own HO.out)
      by_cases he : x ∈ out
      · have e1 := Lib.hid (decide_eq_true he)
        have e2 := Lib.hid (show ins out x = out by unfold ins; rw [if_pos he])
        clear he
        go_wp2_with (go_at_call 24; (with_reducible refine (In_any (by omega) RO.out _).mono ?_); rintro e w' ⟨rfl, hw⟩; subst hw; rw [e1.out])
        go_roundw
        case rel => exact ⟨k + 1, m, A', c', by omega, by go_num, rfl, by rw [HF.out, e2.out]; exact HM.out, by rw [HF.out, e2.out]; exact HO.out, HG.out⟩
        case measure => simp [intOf]; omega
      · have e1 := Lib.hid (decide_eq_false he)
        have HE := Lib.hid he
        clear he
        go_wp2_with (go_at_call 24; (with_reducible refine (In_any (by omega) RO.out _).mono ?_); rintro e w' ⟨rfl, hw⟩; subst hw; rw [e1.out])
        go_loopw [5] (fun p wr2 => ∃ a j : Nat, a ≤ m ∧ p = .int .i64 a ∧ (∀ y ∈ out.take a, y < x) ∧ wr2 = w'.drewN j) (fun p _ => m - (intOf p).toNat)
        case atStart => exact ⟨0, 0, Nat.zero_le _, rfl, by simp, rfl⟩
        case round =>
          obtain ⟨a, j, ha, rfl, hy, rfl⟩ := hrel
          have HY := Lib.hid hy
          clear hy
          have l1 : (0 : Int) ≤ (k : Int) := by omega
          have l2 : (k : Int) < n := by omega
          have l3 : (0 : Int) ≤ (a : Int) := by omega
          by_cases ham : a < m
          · obtain ⟨b2, o2, rfl, g2⟩ := RO.out.at_ ham
            have l4 : (a : Int) < m := by omega
            have HT := Lib.hid (take_more (xs := out) (k := a) (by rw [RO.out.1]; exact ham) 0)
            have HS := Lib.hid (ins_at (out := out) (x := x) (a := a) HE.out (by rw [RO.out.1]; exact ha) HY.out)
            generalize out.getD a 0 = y at g2 HT HS
            by_cases hyx : y < x
            · have HX := Lib.hid hyx
              go_wp2
              go_quiet (fail)
              go_wp2
              go_roundw
              case rel => exact ⟨a + 1, _, by omega, by go_num, by rw [HT.out]; intro z hz; rcases List.mem_append.1 hz with h | h; exact HY.out z h; rw [List.mem_singleton.1 h]; exact HX.out, rfl⟩
              case measure => simp [intOf]; omega
            · have HX := Lib.hid (HS.out (fun _ => hyx))
              go_wp2
              go_quiet (fail)
              rcases own_or HO.out with ⟨h1, _, _⟩ | ⟨g4, h1, hc1, hc2⟩
              · cases h1
              obtain ⟨rfl, rfl⟩ : b2 = g4 ∧ o2 = 0 := by simpa using h1
              clear h1
              have RT := Lib.hid (Rd.take (a := a) (c' := c') RO.out ha (fun e => by cases e))
              have RD := Lib.hid (fun A m2 c2 h1 h2 h3 => Rd.drop (A := A) (m := m2) (c' := c2) (a := a) RO.out h1 h2 h3)
              go_wp2_with (first
                | (refine wpList_append_rd rfl (.tmp 36) (.tmp 39) 32 rfl w'.heap.size 3 i0 (.int .i64 0) 8 Try.underlying32 E.out.2.2.2 E.out.1 E.out.2.1 E.out.2.2.1 rfl _ 0 [] rfl (World.ownsRow_nil _ _ _ _) _ a _ w'.heap.size (out.take a) rfl RT.out (by unfold maxLen; omega) (by omega) (Nat.le_refl _) ?_; intro A3 c3 w2 own1 rd1 gr1; simp only [Nat.zero_add, List.nil_append] at own1; have OWN1 := Lib.hid own1; have gr2 : w'.grownBy w2 none := ⟨gr1.os, gr1.tape, gr1.output, gr1.size, gr1.block⟩; have G1 := Lib.hid gr2; have g3 := gr2.cell g1 (by simp); clear own1 rd1 gr1 gr2)
                | (refine wpList_append_rd rfl (.tmp 41) (.tmp 46) 32 rfl w'.heap.size 3 i0 (.int .i64 0) 8 Try.underlying32 E.out.2.2.2 E.out.1 E.out.2.1 E.out.2.2.1 rfl _ a (out.take a) rfl (OWN1.out.alloc _) (some ⟨w2.heap.size, 0, none⟩) 1 1 _ [x] rfl (Rd.one _ _ _) (by unfold maxLen; omega) (by omega) (by have := G1.out.size; simp; omega) ?_; intro A4 c4 w3 own2 rd2 gr2; have OWN2 := Lib.hid own2; have G2 := Lib.hid (grown_one G1.out OWN1.out (Nat.le_refl _) gr2); clear own2 rd2 gr2)
                | (refine wpList_append_rd rfl (.tmp 48) (.tmp 51) 32 rfl w'.heap.size 3 i0 (.int .i64 0) 8 Try.underlying32 E.out.2.2.2 E.out.1 E.out.2.1 E.out.2.2.1 rfl _ (a + 1) (out.take a ++ [x]) rfl OWN2.out _ _ _ w'.heap.size (out.drop a) rfl ((RD.out _ _ _ (by omega) (fun _ => rfl) (fun e => by cases e)).below (grown_below G2.out)) (by unfold maxLen; omega) (by omega) (by have := G2.out.size; omega) ?_; intro A5 c5 w4 own3 rd3 gr3; have OWN3 := Lib.hid own3; have G3 := Lib.hid (grown_own G2.out OWN2.out gr3 (Nat.le_refl _)); clear own3 rd3 gr3))
              go_roundw
              case rel => exact ⟨k + 1, a + 1 + (m - a), A5, c5, by omega, by go_num, rfl, (by rw [HF.out, HX.out, List.length_append, List.length_cons, List.length_take, List.length_drop]; have := RO.out.1; omega), (by rw [HF.out, HX.out]; have := own_mono OWN3.out HG.out.size; simpa [ints] using this), HG.out.trans G3.out⟩
              case measure => simp [intOf]; omega
          · obtain rfl : a = m := by omega
            have HX := Lib.hid (ins_at (out := out) (x := x) (a := a) HE.out (by rw [RO.out.1]; exact ha) HY.out (fun h => by have := RO.out.1; omega))
            go_wp2
            go_quiet (fail)
            rcases own_or HO.out with ⟨rfl, rfl, rfl⟩ | ⟨g4, rfl, hc1, hc2⟩
            · have RT := Lib.hid (Rd.take (a := 0) (c' := 0) RO.out ha (fun e => rfl))
              have RD := Lib.hid (fun A m2 c2 h1 h2 => Rd.none_of (A := A) (m := m2) (c' := c2) (a := 0) RO.out h1 h2)
              go_wp2_with (first
                | (refine wpList_append_rd rfl (.tmp 36) (.tmp 39) 32 rfl w'.heap.size 3 i0 (.int .i64 0) 8 Try.underlying32 E.out.2.2.2 E.out.1 E.out.2.1 E.out.2.2.1 rfl _ 0 [] rfl (World.ownsRow_nil _ _ _ _) _ 0 _ w'.heap.size (out.take 0) rfl RT.out (by unfold maxLen; omega) (by omega) (Nat.le_refl _) ?_; intro A3 c3 w2 own1 rd1 gr1; simp only [Nat.zero_add, List.nil_append] at own1; have OWN1 := Lib.hid own1; have gr2 : w'.grownBy w2 none := ⟨gr1.os, gr1.tape, gr1.output, gr1.size, gr1.block⟩; have G1 := Lib.hid gr2; have g3 := gr2.cell g1 (by simp); clear own1 rd1 gr1 gr2)
                | (refine wpList_append_rd rfl (.tmp 41) (.tmp 46) 32 rfl w'.heap.size 3 i0 (.int .i64 0) 8 Try.underlying32 E.out.2.2.2 E.out.1 E.out.2.1 E.out.2.2.1 rfl _ 0 (out.take 0) rfl (OWN1.out.alloc _) (some ⟨w2.heap.size, 0, none⟩) 1 1 _ [x] rfl (Rd.one _ _ _) (by unfold maxLen; omega) (by omega) (by have := G1.out.size; simp; omega) ?_; intro A4 c4 w3 own2 rd2 gr2; have OWN2 := Lib.hid own2; have G2 := Lib.hid (grown_one G1.out OWN1.out (Nat.le_refl _) gr2); clear own2 rd2 gr2)
                | (refine wpList_append_rd rfl (.tmp 48) (.tmp 51) 32 rfl w'.heap.size 3 i0 (.int .i64 0) 8 Try.underlying32 E.out.2.2.2 E.out.1 E.out.2.1 E.out.2.2.1 rfl _ (0 + 1) (out.take 0 ++ [x]) rfl OWN2.out _ 0 _ w'.heap.size (out.drop 0) rfl ((RD.out _ 0 _ rfl (fun e => by first | rfl | omega | cases e)).below (grown_below G2.out)) (by unfold maxLen; omega) (by omega) (by have := G2.out.size; omega) ?_; intro A5 c5 w4 own3 rd3 gr3; have OWN3 := Lib.hid own3; have G3 := Lib.hid (grown_own G2.out OWN2.out gr3 (Nat.le_refl _)); clear own3 rd3 gr3))
              go_roundw
              case rel => exact ⟨k + 1, 0 + 1 + 0, A5, c5, by omega, by go_num, rfl, (by rw [HF.out, HX.out, List.length_append, List.length_cons, List.length_take, List.length_drop]; have := RO.out.1; omega), (by rw [HF.out, HX.out]; have := own_mono OWN3.out HG.out.size; simpa [ints] using this), HG.out.trans G3.out⟩
              case measure => simp [intOf]; omega
            · rcases Nat.eq_or_lt_of_le hc1 with rfl | hcc
              · have RT := Lib.hid (Rd.take (a := a) (c' := a) RO.out ha (fun e => by cases e))
                have RD := Lib.hid (fun A m2 c2 h1 h2 => Rd.none_of (A := A) (m := m2) (c' := c2) (a := a) RO.out h1 h2)
                go_wp2_with (first
                  | (refine wpList_append_rd rfl (.tmp 36) (.tmp 39) 32 rfl w'.heap.size 3 i0 (.int .i64 0) 8 Try.underlying32 E.out.2.2.2 E.out.1 E.out.2.1 E.out.2.2.1 rfl _ 0 [] rfl (World.ownsRow_nil _ _ _ _) _ a _ w'.heap.size (out.take a) rfl RT.out (by unfold maxLen; omega) (by omega) (Nat.le_refl _) ?_; intro A3 c3 w2 own1 rd1 gr1; simp only [Nat.zero_add, List.nil_append] at own1; have OWN1 := Lib.hid own1; have gr2 : w'.grownBy w2 none := ⟨gr1.os, gr1.tape, gr1.output, gr1.size, gr1.block⟩; have G1 := Lib.hid gr2; have g3 := gr2.cell g1 (by simp); clear own1 rd1 gr1 gr2)
                  | (refine wpList_append_rd rfl (.tmp 41) (.tmp 46) 32 rfl w'.heap.size 3 i0 (.int .i64 0) 8 Try.underlying32 E.out.2.2.2 E.out.1 E.out.2.1 E.out.2.2.1 rfl _ a (out.take a) rfl (OWN1.out.alloc _) (some ⟨w2.heap.size, 0, none⟩) 1 1 _ [x] rfl (Rd.one _ _ _) (by unfold maxLen; omega) (by omega) (by have := G1.out.size; simp; omega) ?_; intro A4 c4 w3 own2 rd2 gr2; have OWN2 := Lib.hid own2; have G2 := Lib.hid (grown_one G1.out OWN1.out (Nat.le_refl _) gr2); clear own2 rd2 gr2)
                  | (refine wpList_append_rd rfl (.tmp 48) (.tmp 51) 32 rfl w'.heap.size 3 i0 (.int .i64 0) 8 Try.underlying32 E.out.2.2.2 E.out.1 E.out.2.1 E.out.2.2.1 rfl _ (a + 1) (out.take a ++ [x]) rfl OWN2.out _ 0 _ w'.heap.size (out.drop a) rfl ((RD.out _ 0 _ rfl (fun e => by first | rfl | omega | cases e)).below (grown_below G2.out)) (by unfold maxLen; omega) (by omega) (by have := G2.out.size; omega) ?_; intro A5 c5 w4 own3 rd3 gr3; have OWN3 := Lib.hid own3; have G3 := Lib.hid (grown_own G2.out OWN2.out gr3 (Nat.le_refl _)); clear own3 rd3 gr3))
                go_roundw
                case rel => exact ⟨k + 1, a + 1 + 0, A5, c5, by omega, by go_num, rfl, (by rw [HF.out, HX.out, List.length_append, List.length_cons, List.length_take, List.length_drop]; have := RO.out.1; omega), (by rw [HF.out, HX.out]; have := own_mono OWN3.out HG.out.size; simpa [ints] using this), HG.out.trans G3.out⟩
                case measure => simp [intOf]; omega
              · have RT := Lib.hid (Rd.take (a := a) (c' := c') RO.out ha (fun e => by cases e))
                have RD := Lib.hid (fun A m2 c2 h1 h2 => Rd.none_of (A := A) (m := m2) (c' := c2) (a := a) RO.out h1 h2)
                go_wp2_with (first
                  | (refine wpList_append_rd rfl (.tmp 36) (.tmp 39) 32 rfl w'.heap.size 3 i0 (.int .i64 0) 8 Try.underlying32 E.out.2.2.2 E.out.1 E.out.2.1 E.out.2.2.1 rfl _ 0 [] rfl (World.ownsRow_nil _ _ _ _) _ a _ w'.heap.size (out.take a) rfl RT.out (by unfold maxLen; omega) (by omega) (Nat.le_refl _) ?_; intro A3 c3 w2 own1 rd1 gr1; simp only [Nat.zero_add, List.nil_append] at own1; have OWN1 := Lib.hid own1; have gr2 : w'.grownBy w2 none := ⟨gr1.os, gr1.tape, gr1.output, gr1.size, gr1.block⟩; have G1 := Lib.hid gr2; have g3 := gr2.cell g1 (by simp); clear own1 rd1 gr1 gr2)
                  | (refine wpList_append_rd rfl (.tmp 41) (.tmp 46) 32 rfl w'.heap.size 3 i0 (.int .i64 0) 8 Try.underlying32 E.out.2.2.2 E.out.1 E.out.2.1 E.out.2.2.1 rfl _ a (out.take a) rfl (OWN1.out.alloc _) (some ⟨w2.heap.size, 0, none⟩) 1 1 _ [x] rfl (Rd.one _ _ _) (by unfold maxLen; omega) (by omega) (by have := G1.out.size; simp; omega) ?_; intro A4 c4 w3 own2 rd2 gr2; have OWN2 := Lib.hid own2; have G2 := Lib.hid (grown_one G1.out OWN1.out (Nat.le_refl _) gr2); clear own2 rd2 gr2)
                  | (refine wpList_append_rd rfl (.tmp 48) (.tmp 51) 32 rfl w'.heap.size 3 i0 (.int .i64 0) 8 Try.underlying32 E.out.2.2.2 E.out.1 E.out.2.1 E.out.2.2.1 rfl _ (a + 1) (out.take a ++ [x]) rfl OWN2.out _ 0 _ w'.heap.size (out.drop a) rfl ((RD.out _ 0 _ rfl (fun e => by first | rfl | omega | cases e)).below (grown_below G2.out)) (by unfold maxLen; omega) (by omega) (by have := G2.out.size; omega) ?_; intro A5 c5 w4 own3 rd3 gr3; have OWN3 := Lib.hid own3; have G3 := Lib.hid (grown_own G2.out OWN2.out gr3 (Nat.le_refl _)); clear own3 rd3 gr3))
                go_roundw
                case rel => exact ⟨k + 1, a + 1 + 0, A5, c5, by omega, by go_num, rfl, (by rw [HF.out, HX.out, List.length_append, List.length_cons, List.length_take, List.length_drop]; have := RO.out.1; omega), (by rw [HF.out, HX.out]; have := own_mono OWN3.out HG.out.size; simpa [ints] using this), HG.out.trans G3.out⟩
                case measure => simp [intOf]; omega
    · obtain rfl : k = n := by omega
      go_wp2
      go_ret
      have hm := HM.out
      have ho := HO.out
      rw [List.take_of_length_le (by rw [H.out.1]; omega)] at hm ho
      subst hm
      exact ⟨A', c', rfl, ho, HG.out⟩
end Go.Proofs.Ytljahpjdkkennaa.bm
