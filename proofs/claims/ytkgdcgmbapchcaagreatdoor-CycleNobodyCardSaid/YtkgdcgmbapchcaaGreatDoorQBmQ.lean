/- Texts that this claim stands on. -/
import Derived.Laws.AppendOwnNone
import Derived.Deep.RegionHeld3
import Derived.Deep.RegionHeldLaw
import Derived.Deep.RegionLaw
import Derived.Deep.RegionWith
import Derived.Deep.DeepCutAuto
import Derived.Lib.LaidTab
import Derived.Test.YtkgdcgmbapchcaaGreatDoorQBmX
import Derived.Test.YtkgdcgmbapchcaaGreatDoorQGnQ
namespace Go.Proofs.YtkgdcgmbapchcaaGreatDoor.bm
open Go.ChangeShapes Go.WideShapes Go.ChangeAt Go.RowKit gen
set_option linter.unusedVariables false
def ints (xs : List Int) : List Value := xs.map (Value.int .i64)
theorem rd_own {w : World} {base n c : Nat} {A : Option Addr} {xs : List Int} (h : w.ownsRow base 3 1 (.slice A n c) n (ints xs)) : Rd w w.heap.size A n c xs := by
  obtain ⟨A', c', e, hr⟩ := Rd.of_own h
  injection e with h1 h2 h3
  subst h1 h3
  exact hr
theorem grown_below {a w : World} (h : a.grownBy w none) : Below a.heap.size a w := ⟨h.os, h.tape, h.output, h.size, fun k hk => h.block k hk (by simp)⟩
theorem grown_more {a b c : World} {row : Option Nat} (h : a.grownBy b row) (k : b.grownBy c none) : a.grownBy c row :=
  ⟨k.os.trans h.os, k.tape.trans h.tape, k.output.trans h.output, Nat.le_trans h.size k.size, fun i hi hne => (k.block i (Nat.lt_of_lt_of_le hi h.size) (by simp)).trans (h.block i hi hne)⟩
theorem grown_own {a b c : World} {base n : Nat} {v : Value} {xs : List Value} {t : TypeId} (h : a.grownBy b none) (ho : b.ownsRow base t 1 v n xs) (k : b.grownBy c v.ownBlock) (hr : a.heap.size ≤ base) : a.grownBy c none :=
  h.andThen k (fun j hj => .inl (Nat.le_trans hr (own_base ho j hj)))
def ListAns (xs : List Int) (w : World) (e : Ending) (w' : World) : Prop := ∃ A c, e = .returned (.slice A xs.length c) ∧ w'.ownsRow w.heap.size 3 1 (.slice A xs.length c) xs.length (ints xs) ∧ w.grownBy w' none
theorem info_int : (Tryz.prog.info? 3).map (fun i => (i.zero, i.size, i.bytes)) = some (some (.int .i64 0), 1, 8) := by kernel_rfl
theorem Rd.one (w : World) (x : Int) (t : TypeId) : Rd (w.alloc (.cells #[.int .i64 x] t)) (w.alloc (.cells #[.int .i64 x] t)).heap.size (some ⟨w.heap.size, 0, none⟩) 1 1 [x] := by
  refine ⟨rfl, fun e => (by cases e), fun ad e i hi => ?_⟩
  injection e with e
  subst e
  obtain rfl : i = 0 := by omega
  exact ⟨by simp, by simp [go_sem]⟩
theorem getD_mem {xs : List Int} {k : Nat} (h : k < xs.length) (d : Int) : xs.getD k d ∈ xs := by
  rw [List.getD_eq_getElem?_getD, List.getElem?_eq_getElem h]
  exact List.getElem_mem h
theorem take_more {xs : List Int} {k : Nat} (h : k < xs.length) (d : Int) : xs.take (k + 1) = xs.take k ++ [xs.getD k d] := by
  rw [List.take_succ_eq_append_getElem h, List.getD_eq_getElem?_getD, List.getElem?_eq_getElem h]
  rfl
theorem In_any {w : World} {A : Option Addr} {n c B : Nat} {xs : List Int} (hs : n ≤ 4194304) (h : Rd w B A n c xs) (z : Int) :
    Calls Tryz.prog 25 #[.slice A n c, .int .i64 z] w fun e w' => e = .returned (.bool (decide (z ∈ xs))) ∧ w' = w := by
  have H := Lib.hid h
  clear h
  go_enter Tryz.func25, Tryz.ntmps25
  go_wp2
  go_loopw [5] (fun i wr => ∃ k : Nat, k ≤ n ∧ i = .int .i64 k ∧ z ∉ xs.take k ∧ wr = w) (fun i _ => n - (intOf i).toNat)
  case atStart => exact ⟨0, Nat.zero_le _, rfl, by simp, rfl⟩
  case round =>
    obtain ⟨k, hk, rfl, hz, hw⟩ := hrel
    subst hw
    have HZ := Lib.hid hz
    clear hz
    by_cases hlt : k < n
    · obtain ⟨b1, o1, rfl, g1⟩ := H.out.at_ hlt
      have HM := Lib.hid (getD_mem (xs := xs) (k := k) (by rw [H.out.1]; exact hlt) 0)
      have HT := Lib.hid (take_more (xs := xs) (k := k) (by rw [H.out.1]; exact hlt) 0)
      generalize xs.getD k 0 = x at g1 HM HT
      by_cases he : x = z
      · subst he
        go_wp2
        go_ret
        exact ⟨by rw [decide_eq_true HM.out]; rfl, rfl⟩
      · have he1 : (x == z) = false := by simpa using he
        have HE := Lib.hid he
        clear he
        go_wp2
        go_roundw
        case rel => exact ⟨k + 1, by omega, by go_num, by rw [HT.out, List.mem_append]; exact fun h => h.elim HZ.out (fun h => HE.out (by simpa using h : z = x).symm), trivial⟩
        case measure => simp [intOf]; omega
    · obtain rfl : k = n := by omega
      go_wp2
      go_ret
      have hz := HZ.out
      rw [List.take_of_length_le (by rw [H.out.1]; omega)] at hz
      exact ⟨by rw [decide_eq_false hz]; rfl, rfl⟩
end Go.Proofs.YtkgdcgmbapchcaaGreatDoor.bm
namespace Go.Proofs.YtkgdcgmbapchcaaGreatDoor.bm
open Go.ChangeShapes Go.WideShapes Go.ChangeAt Go.RowKit gen
set_option linter.unusedVariables false
theorem grown_one {w wr w2 : World} {base n : Nat} {v : Value} {xs : List Value} {t : TypeId} {o : Obj} (hg : w.grownBy wr none) (ho : wr.ownsRow base t 1 v n xs) (hb : w.heap.size ≤ base) (h : (wr.alloc o).grownBy w2 v.ownBlock) : w.grownBy w2 none :=
  grown_own (hg.trans (World.grownBy_alloc wr o none)) (ho.alloc _) h hb
theorem rising_more {xs : List Int} {k : Nat} (hk : k < xs.length) : rising (xs.take (k + 1)) = ins (rising (xs.take k)) (xs.getD k 0) := by
  rw [take_more hk 0]
  unfold rising
  rw [List.foldl_append]
  rfl
theorem fold_length : ∀ (l out : List Int), (l.foldl ins out).length ≤ out.length + l.length
  | [], _ => by simp
  | x :: l, out => by
    have h1 := fold_length l (ins out x)
    have h2 := ins_length out x
    rw [List.foldl_cons, List.length_cons]
    omega
theorem rising_length (l : List Int) : (rising l).length ≤ l.length := by
  have := fold_length l []
  simpa [rising] using this
theorem take_stop : ∀ {out : List Int} {x : Int} {a : Nat}, a ≤ out.length → (∀ y ∈ out.take a, y < x) → (a < out.length → ¬ out.getD a 0 < x) →
    out.takeWhile (fun y => decide (y < x)) = out.take a ∧ out.dropWhile (fun y => decide (y < x)) = out.drop a
  | [], x, a, ha, _, _ => by simp
  | y :: out, x, 0, ha, h1, h2 => by
    have : ¬ y < x := h2 (by simp)
    rw [List.takeWhile_cons_of_neg (by simpa using this), List.dropWhile_cons_of_neg (by simpa using this)]
    exact ⟨rfl, rfl⟩
  | y :: out, x, a + 1, ha, h1, h2 => by
    have hy : y < x := h1 y (by simp)
    rw [List.takeWhile_cons_of_pos (by simpa using hy), List.dropWhile_cons_of_pos (by simpa using hy)]
    obtain ⟨e1, e2⟩ := take_stop (out := out) (x := x) (a := a) (by simpa using ha) (fun z hz => h1 z (by rw [List.take_succ_cons]; exact List.mem_cons_of_mem _ hz)) (fun h => by have := h2 (by simpa using h); simpa using this)
    rw [e1, e2]
    exact ⟨rfl, rfl⟩
theorem ins_at {out : List Int} {x : Int} {a : Nat} (hx : x ∉ out) (ha : a ≤ out.length) (h1 : ∀ y ∈ out.take a, y < x) (h2 : a < out.length → ¬ out.getD a 0 < x) : ins out x = out.take a ++ x :: out.drop a := by
  obtain ⟨e1, e2⟩ := take_stop ha h1 h2
  unfold ins
  rw [if_neg hx, e1, e2]
theorem own_or {w : World} {base n c : Nat} {A : Option Addr} {t : TypeId} {xs : List Value} (h : w.ownsRow base t 1 (.slice A n c) n xs) : (A = none ∧ n = 0 ∧ c = 0) ∨ ∃ g, A = some ⟨g, 0, none⟩ ∧ n ≤ c ∧ c ≤ maxLen := by
  rcases h.2 with ⟨e, _⟩ | ⟨g, cap, cur, e, _, _, h1, h2, _⟩
  · injection e with e1 e2 e3
    exact .inl ⟨e1, e2, e3⟩
  · injection e with e1 e2 e3
    exact .inr ⟨g, e1, by omega, by omega⟩
theorem own_mono {w : World} {base base' n : Nat} {t : TypeId} {v : Value} {xs : List Value} (h : w.ownsRow base t 1 v n xs) (hb : base' ≤ base) : w.ownsRow base' t 1 v n xs := by
  refine ⟨h.1, ?_⟩
  rcases h.2 with h2 | ⟨g, cap, cur, h1, h2, h3⟩
  · exact .inl h2
  · exact .inr ⟨g, cap, cur, h1, Nat.le_trans hb h2, h3⟩
theorem Rd.take {w : World} {B n c a c' : Nat} {A : Option Addr} {xs : List Int} (h : Rd w B A n c xs) (ha : a ≤ n) (hc : A = none → c' = 0) : Rd w B A a c' (xs.take a) := by
  refine ⟨by rw [List.length_take, h.1]; omega, fun e => ⟨by have := (h.2.1 e).1; omega, hc e⟩, fun ad e i hi => ?_⟩
  have := h.2.2 ad e i (by omega)
  refine ⟨this.1, ?_⟩
  rw [this.2]
  simp [List.getD_eq_getElem?_getD, hi]
theorem Rd.drop {w : World} {B n c a m c' g : Nat} {A : Option Addr} {xs : List Int} (h : Rd w B (some ⟨g, 0, none⟩) n c xs) (ha : a + m = n) (hA : 0 < m → A = some ⟨g, a, none⟩) (hn : A = none → c' = 0) : Rd w B A m c' (xs.drop a) := by
  refine ⟨by rw [List.length_drop, h.1]; omega, fun e => ⟨?_, hn e⟩, fun ad e i hi => ?_⟩
  · rcases Nat.eq_zero_or_pos m with h0 | h0
    · exact h0
    · rw [hA h0] at e; cases e
  · have h0 := hA (by omega)
    rw [h0] at e
    injection e with e
    subst e
    have := h.2.2 _ rfl (a + i) (by omega)
    rw [Addr.add_lit, Nat.zero_add] at this
    rw [Addr.add_lit]
    refine ⟨this.1, ?_⟩
    rw [this.2]
    simp [List.getD_eq_getElem?_getD]
theorem Rd.none_of {w : World} {B n c a m c' : Nat} {A A' : Option Addr} {xs : List Int} (h : Rd w B A' n c xs) (ha : a + m = a) (hn : A = none → c' = 0) (hx : a = n := by rfl) : Rd w B A m c' (xs.drop a) := by
  obtain rfl : m = 0 := by omega
  subst hx
  refine ⟨by rw [List.length_drop, h.1]; omega, fun e => ⟨rfl, hn e⟩, fun ad e i hi => by omega⟩
set_option maxHeartbeats 4000000 in
theorem Rising_any {w : World} {A : Option Addr} {n c B : Nat} {xs : List Int} (hs : n ≤ 4096) (h : Rd w w.heap.size A n c xs) :
    Calls Tryz.prog 63 #[.slice A n c] w (ListAns (rising xs) w) := by
  have H := Lib.hid h
  obtain ⟨i0, hi, hz0, hz1, hz2⟩ := info_parts info_int
  have E : Hid (i0.zero = some (.int .i64 0) ∧ i0.size = 1 ∧ i0.bytes = 8 ∧ Tryz.prog.info? 3 = some i0) := ⟨hz0, hz1, hz2, hi⟩
  clear hi hz0 hz1 hz2 h
  go_enter Tryz.func63, Tryz.ntmps63
  go_wp2
  go_loopw [3, 4] (fun v i wr => ∃ (k m : Nat) (A' : Option Addr) (c' : Nat), k ≤ n ∧ i = .int .i64 k ∧ v = .slice A' m c' ∧ m = (rising (xs.take k)).length ∧ wr.ownsRow w.heap.size 3 1 (.slice A' m c') m (ints (rising (xs.take k))) ∧ w.grownBy wr none) (fun _ i _ => n - (intOf i).toNat)
  case atStart => exact ⟨0, 0, none, 0, Nat.zero_le _, rfl, rfl, by simp [rising], World.ownsRow_nil _ _ _ _, grown_refl _ _⟩
  case round =>
    obtain ⟨k, m, A', c', hk, rfl, rfl, hm, ho, hg⟩ := hrel
    have HM := Lib.hid hm
    have HO := Lib.hid ho
    have HG := Lib.hid hg
    have R := Lib.hid (H.out.below (grown_below hg))
    clear hm ho hg
    by_cases hlt : k < n
    · obtain ⟨b1, o1, rfl, g1⟩ := R.out.at_ hlt
      have HF := Lib.hid (rising_more (xs := xs) (k := k) (by rw [H.out.1]; exact hlt))
      have hl : m ≤ 4096 := by rw [HM.out]; exact Nat.le_trans (rising_length _) (by rw [List.length_take, H.out.1]; omega)
      generalize xs.getD k 0 = x at g1 HF
      generalize rising (xs.take k) = out at HM HO HF
      have RO := Lib.hid (rd_own HO.out)
      by_cases he : x ∈ out
      · have e1 := Lib.hid (decide_eq_true he)
        have e2 := Lib.hid (show ins out x = out by unfold ins; rw [if_pos he])
        clear he
        go_wp2_with (go_at_call 25; (with_reducible refine (In_any (by omega) RO.out _).mono ?_); rintro e w' ⟨rfl, hw⟩; subst hw; rw [e1.out])
        go_roundw
        case rel => exact ⟨k + 1, m, A', c', by omega, by go_num, rfl, by rw [HF.out, e2.out]; exact HM.out, by rw [HF.out, e2.out]; exact HO.out, HG.out⟩
        case measure => simp [intOf]; omega
      · have e1 := Lib.hid (decide_eq_false he)
        have HE := Lib.hid he
        clear he
        go_wp2_with (go_at_call 25; (with_reducible refine (In_any (by omega) RO.out _).mono ?_); rintro e w' ⟨rfl, hw⟩; subst hw; rw [e1.out])
        go_loopw [5] (fun p wr2 => ∃ a j : Nat, a ≤ m ∧ p = .int .i64 a ∧ (∀ y ∈ out.take a, y < x) ∧ wr2 = w'.drewN j) (fun p _ => m - (intOf p).toNat)
        case atStart => exact ⟨0, 0, Nat.zero_le _, rfl, by simp, rfl⟩
        case round =>
          obtain ⟨a, j, ha, rfl, hy, rfl⟩ := hrel
          have HY := Lib.hid hy
          clear hy
          have l1 : (0 : Int) ≤ (k : Int) := by omega
          have l2 : (k : Int) < n := by omega
          have l3 : (0 : Int) ≤ (a : Int) := by omega
          by_cases ham : a < m
          · obtain ⟨b2, o2, rfl, g2⟩ := RO.out.at_ ham
            have l4 : (a : Int) < m := by omega
            have HT := Lib.hid (take_more (xs := out) (k := a) (by rw [RO.out.1]; exact ham) 0)
            have HS := Lib.hid (ins_at (out := out) (x := x) (a := a) HE.out (by rw [RO.out.1]; exact ha) HY.out)
            generalize out.getD a 0 = y at g2 HT HS
            by_cases hyx : y < x
            · have HX := Lib.hid hyx
              go_wp2
              go_quiet (fail)
              go_wp2
              go_roundw
              case rel => exact ⟨a + 1, _, by omega, by go_num, by rw [HT.out]; intro z hz; rcases List.mem_append.1 hz with h | h; exact HY.out z h; rw [List.mem_singleton.1 h]; exact HX.out, rfl⟩
              case measure => simp [intOf]; omega
            · have HX := Lib.hid (HS.out (fun _ => hyx))
              go_wp2
              go_quiet (fail)
              rcases own_or HO.out with ⟨h1, _, _⟩ | ⟨g4, h1, hc1, hc2⟩
              · cases h1
              obtain ⟨rfl, rfl⟩ : b2 = g4 ∧ o2 = 0 := by simpa using h1
              clear h1
              have RT := Lib.hid (Rd.take (a := a) (c' := c') RO.out ha (fun e => by cases e))
              have RD := Lib.hid (fun A m2 c2 h1 h2 h3 => Rd.drop (A := A) (m := m2) (c' := c2) (a := a) RO.out h1 h2 h3)
              go_wp2_with (first
                | (refine wpList_append_rd rfl (.tmp 36) (.tmp 39) 41 rfl w'.heap.size 3 i0 (.int .i64 0) 8 Tryz.underlying41 E.out.2.2.2 E.out.1 E.out.2.1 E.out.2.2.1 rfl _ 0 [] rfl (World.ownsRow_nil _ _ _ _) _ a _ w'.heap.size (out.take a) rfl RT.out (by unfold maxLen; omega) (by omega) (Nat.le_refl _) ?_; intro A3 c3 w2 own1 rd1 gr1; simp only [Nat.zero_add, List.nil_append] at own1; have OWN1 := Lib.hid own1; have gr2 : w'.grownBy w2 none := ⟨gr1.os, gr1.tape, gr1.output, gr1.size, gr1.block⟩; have G1 := Lib.hid gr2; have g3 := gr2.cell g1 (by simp); clear own1 rd1 gr1 gr2)
                | (refine wpList_append_rd rfl (.tmp 41) (.tmp 46) 41 rfl w'.heap.size 3 i0 (.int .i64 0) 8 Tryz.underlying41 E.out.2.2.2 E.out.1 E.out.2.1 E.out.2.2.1 rfl _ a (out.take a) rfl (OWN1.out.alloc _) (some ⟨w2.heap.size, 0, none⟩) 1 1 _ [x] rfl (Rd.one _ _ _) (by unfold maxLen; omega) (by omega) (by have := G1.out.size; simp; omega) ?_; intro A4 c4 w3 own2 rd2 gr2; have OWN2 := Lib.hid own2; have G2 := Lib.hid (grown_one G1.out OWN1.out (Nat.le_refl _) gr2); clear own2 rd2 gr2)
                | (refine wpList_append_rd rfl (.tmp 48) (.tmp 51) 41 rfl w'.heap.size 3 i0 (.int .i64 0) 8 Tryz.underlying41 E.out.2.2.2 E.out.1 E.out.2.1 E.out.2.2.1 rfl _ (a + 1) (out.take a ++ [x]) rfl OWN2.out _ _ _ w'.heap.size (out.drop a) rfl ((RD.out _ _ _ (by omega) (fun _ => rfl) (fun e => by cases e)).below (grown_below G2.out)) (by unfold maxLen; omega) (by omega) (by have := G2.out.size; omega) ?_; intro A5 c5 w4 own3 rd3 gr3; have OWN3 := Lib.hid own3; have G3 := Lib.hid (grown_own G2.out OWN2.out gr3 (Nat.le_refl _)); clear own3 rd3 gr3))
              go_roundw
              case rel => exact ⟨k + 1, a + 1 + (m - a), A5, c5, by omega, by go_num, rfl, (by rw [HF.out, HX.out, List.length_append, List.length_cons, List.length_take, List.length_drop]; have := RO.out.1; omega), (by rw [HF.out, HX.out]; have := own_mono OWN3.out HG.out.size; simpa [ints] using this), HG.out.trans G3.out⟩
              case measure => simp [intOf]; omega
          · obtain rfl : a = m := by omega
            have HX := Lib.hid (ins_at (out := out) (x := x) (a := a) HE.out (by rw [RO.out.1]; exact ha) HY.out (fun h => by have := RO.out.1; omega))
            go_wp2
            go_quiet (fail)
            rcases own_or HO.out with ⟨rfl, rfl, rfl⟩ | ⟨g4, rfl, hc1, hc2⟩
            · have RT := Lib.hid (Rd.take (a := 0) (c' := 0) RO.out ha (fun e => rfl))
              have RD := Lib.hid (fun A m2 c2 h1 h2 => Rd.none_of (A := A) (m := m2) (c' := c2) (a := 0) RO.out h1 h2)
              go_wp2_with (first
                | (refine wpList_append_rd rfl (.tmp 36) (.tmp 39) 41 rfl w'.heap.size 3 i0 (.int .i64 0) 8 Tryz.underlying41 E.out.2.2.2 E.out.1 E.out.2.1 E.out.2.2.1 rfl _ 0 [] rfl (World.ownsRow_nil _ _ _ _) _ 0 _ w'.heap.size (out.take 0) rfl RT.out (by unfold maxLen; omega) (by omega) (Nat.le_refl _) ?_; intro A3 c3 w2 own1 rd1 gr1; simp only [Nat.zero_add, List.nil_append] at own1; have OWN1 := Lib.hid own1; have gr2 : w'.grownBy w2 none := ⟨gr1.os, gr1.tape, gr1.output, gr1.size, gr1.block⟩; have G1 := Lib.hid gr2; have g3 := gr2.cell g1 (by simp); clear own1 rd1 gr1 gr2)
                | (refine wpList_append_rd rfl (.tmp 41) (.tmp 46) 41 rfl w'.heap.size 3 i0 (.int .i64 0) 8 Tryz.underlying41 E.out.2.2.2 E.out.1 E.out.2.1 E.out.2.2.1 rfl _ 0 (out.take 0) rfl (OWN1.out.alloc _) (some ⟨w2.heap.size, 0, none⟩) 1 1 _ [x] rfl (Rd.one _ _ _) (by unfold maxLen; omega) (by omega) (by have := G1.out.size; simp; omega) ?_; intro A4 c4 w3 own2 rd2 gr2; have OWN2 := Lib.hid own2; have G2 := Lib.hid (grown_one G1.out OWN1.out (Nat.le_refl _) gr2); clear own2 rd2 gr2)
                | (refine wpList_append_rd rfl (.tmp 48) (.tmp 51) 41 rfl w'.heap.size 3 i0 (.int .i64 0) 8 Tryz.underlying41 E.out.2.2.2 E.out.1 E.out.2.1 E.out.2.2.1 rfl _ (0 + 1) (out.take 0 ++ [x]) rfl OWN2.out _ 0 _ w'.heap.size (out.drop 0) rfl ((RD.out _ 0 _ rfl (fun e => by first | rfl | omega | cases e)).below (grown_below G2.out)) (by unfold maxLen; omega) (by omega) (by have := G2.out.size; omega) ?_; intro A5 c5 w4 own3 rd3 gr3; have OWN3 := Lib.hid own3; have G3 := Lib.hid (grown_own G2.out OWN2.out gr3 (Nat.le_refl _)); clear own3 rd3 gr3))
              go_roundw
              case rel => exact ⟨k + 1, 0 + 1 + 0, A5, c5, by omega, by go_num, rfl, (by rw [HF.out, HX.out, List.length_append, List.length_cons, List.length_take, List.length_drop]; have := RO.out.1; omega), (by rw [HF.out, HX.out]; have := own_mono OWN3.out HG.out.size; simpa [ints] using this), HG.out.trans G3.out⟩
              case measure => simp [intOf]; omega
            · rcases Nat.eq_or_lt_of_le hc1 with rfl | hcc
              · have RT := Lib.hid (Rd.take (a := a) (c' := a) RO.out ha (fun e => by cases e))
                have RD := Lib.hid (fun A m2 c2 h1 h2 => Rd.none_of (A := A) (m := m2) (c' := c2) (a := a) RO.out h1 h2)
                go_wp2_with (first
                  | (refine wpList_append_rd rfl (.tmp 36) (.tmp 39) 41 rfl w'.heap.size 3 i0 (.int .i64 0) 8 Tryz.underlying41 E.out.2.2.2 E.out.1 E.out.2.1 E.out.2.2.1 rfl _ 0 [] rfl (World.ownsRow_nil _ _ _ _) _ a _ w'.heap.size (out.take a) rfl RT.out (by unfold maxLen; omega) (by omega) (Nat.le_refl _) ?_; intro A3 c3 w2 own1 rd1 gr1; simp only [Nat.zero_add, List.nil_append] at own1; have OWN1 := Lib.hid own1; have gr2 : w'.grownBy w2 none := ⟨gr1.os, gr1.tape, gr1.output, gr1.size, gr1.block⟩; have G1 := Lib.hid gr2; have g3 := gr2.cell g1 (by simp); clear own1 rd1 gr1 gr2)
                  | (refine wpList_append_rd rfl (.tmp 41) (.tmp 46) 41 rfl w'.heap.size 3 i0 (.int .i64 0) 8 Tryz.underlying41 E.out.2.2.2 E.out.1 E.out.2.1 E.out.2.2.1 rfl _ a (out.take a) rfl (OWN1.out.alloc _) (some ⟨w2.heap.size, 0, none⟩) 1 1 _ [x] rfl (Rd.one _ _ _) (by unfold maxLen; omega) (by omega) (by have := G1.out.size; simp; omega) ?_; intro A4 c4 w3 own2 rd2 gr2; have OWN2 := Lib.hid own2; have G2 := Lib.hid (grown_one G1.out OWN1.out (Nat.le_refl _) gr2); clear own2 rd2 gr2)
                  | (refine wpList_append_rd rfl (.tmp 48) (.tmp 51) 41 rfl w'.heap.size 3 i0 (.int .i64 0) 8 Tryz.underlying41 E.out.2.2.2 E.out.1 E.out.2.1 E.out.2.2.1 rfl _ (a + 1) (out.take a ++ [x]) rfl OWN2.out _ 0 _ w'.heap.size (out.drop a) rfl ((RD.out _ 0 _ rfl (fun e => by first | rfl | omega | cases e)).below (grown_below G2.out)) (by unfold maxLen; omega) (by omega) (by have := G2.out.size; omega) ?_; intro A5 c5 w4 own3 rd3 gr3; have OWN3 := Lib.hid own3; have G3 := Lib.hid (grown_own G2.out OWN2.out gr3 (Nat.le_refl _)); clear own3 rd3 gr3))
                go_roundw
                case rel => exact ⟨k + 1, a + 1 + 0, A5, c5, by omega, by go_num, rfl, (by rw [HF.out, HX.out, List.length_append, List.length_cons, List.length_take, List.length_drop]; have := RO.out.1; omega), (by rw [HF.out, HX.out]; have := own_mono OWN3.out HG.out.size; simpa [ints] using this), HG.out.trans G3.out⟩
                case measure => simp [intOf]; omega
              · have RT := Lib.hid (Rd.take (a := a) (c' := c') RO.out ha (fun e => by cases e))
                have RD := Lib.hid (fun A m2 c2 h1 h2 => Rd.none_of (A := A) (m := m2) (c' := c2) (a := a) RO.out h1 h2)
                go_wp2_with (first
                  | (refine wpList_append_rd rfl (.tmp 36) (.tmp 39) 41 rfl w'.heap.size 3 i0 (.int .i64 0) 8 Tryz.underlying41 E.out.2.2.2 E.out.1 E.out.2.1 E.out.2.2.1 rfl _ 0 [] rfl (World.ownsRow_nil _ _ _ _) _ a _ w'.heap.size (out.take a) rfl RT.out (by unfold maxLen; omega) (by omega) (Nat.le_refl _) ?_; intro A3 c3 w2 own1 rd1 gr1; simp only [Nat.zero_add, List.nil_append] at own1; have OWN1 := Lib.hid own1; have gr2 : w'.grownBy w2 none := ⟨gr1.os, gr1.tape, gr1.output, gr1.size, gr1.block⟩; have G1 := Lib.hid gr2; have g3 := gr2.cell g1 (by simp); clear own1 rd1 gr1 gr2)
                  | (refine wpList_append_rd rfl (.tmp 41) (.tmp 46) 41 rfl w'.heap.size 3 i0 (.int .i64 0) 8 Tryz.underlying41 E.out.2.2.2 E.out.1 E.out.2.1 E.out.2.2.1 rfl _ a (out.take a) rfl (OWN1.out.alloc _) (some ⟨w2.heap.size, 0, none⟩) 1 1 _ [x] rfl (Rd.one _ _ _) (by unfold maxLen; omega) (by omega) (by have := G1.out.size; simp; omega) ?_; intro A4 c4 w3 own2 rd2 gr2; have OWN2 := Lib.hid own2; have G2 := Lib.hid (grown_one G1.out OWN1.out (Nat.le_refl _) gr2); clear own2 rd2 gr2)
                  | (refine wpList_append_rd rfl (.tmp 48) (.tmp 51) 41 rfl w'.heap.size 3 i0 (.int .i64 0) 8 Tryz.underlying41 E.out.2.2.2 E.out.1 E.out.2.1 E.out.2.2.1 rfl _ (a + 1) (out.take a ++ [x]) rfl OWN2.out _ 0 _ w'.heap.size (out.drop a) rfl ((RD.out _ 0 _ rfl (fun e => by first | rfl | omega | cases e)).below (grown_below G2.out)) (by unfold maxLen; omega) (by omega) (by have := G2.out.size; omega) ?_; intro A5 c5 w4 own3 rd3 gr3; have OWN3 := Lib.hid own3; have G3 := Lib.hid (grown_own G2.out OWN2.out gr3 (Nat.le_refl _)); clear own3 rd3 gr3))
                go_roundw
                case rel => exact ⟨k + 1, a + 1 + 0, A5, c5, by omega, by go_num, rfl, (by rw [HF.out, HX.out, List.length_append, List.length_cons, List.length_take, List.length_drop]; have := RO.out.1; omega), (by rw [HF.out, HX.out]; have := own_mono OWN3.out HG.out.size; simpa [ints] using this), HG.out.trans G3.out⟩
                case measure => simp [intOf]; omega
    · obtain rfl : k = n := by omega
      go_wp2
      go_ret
      have hm := HM.out
      have ho := HO.out
      rw [List.take_of_length_le (by rw [H.out.1]; omega)] at hm ho
      subst hm
      exact ⟨A', c', rfl, ho, HG.out⟩
end Go.Proofs.YtkgdcgmbapchcaaGreatDoor.bm
namespace Go.Proofs.YtkgdcgmbapchcaaGreatDoor.bm
open Go.ChangeShapes Go.WideShapes Go.ChangeAt Go.RowKit gen
set_option linter.unusedVariables false
def near (n a b : Int) : Int := if n < a then a else if b < n then b else n
theorem ret_int {a b : Int} (h : a = b) : Ending.returned (.int .i64 a) = .returned (.int .i64 b) := by rw [h]
theorem Clamp_any (n a b : Int) (w : World) : Calls Tryz.prog 104 #[.int .i64 n, .int .i64 a, .int .i64 b] w fun e w' => e = .returned (.int .i64 (near n a b)) ∧ w = w' := by
  by_cases h : n < a
  · go_enter Tryz.func104, Tryz.ntmps104
    go_wp2
    go_ret
    exact ⟨by simp [near, h], rfl⟩
  by_cases h2 : b < n
  all_goals
    go_enter Tryz.func104, Tryz.ntmps104
    go_wp2
    go_ret
    exact ⟨ret_int (by unfold near; repeat' split
                       all_goals omega), rfl⟩
def NewAns (b : Bool) (n : Nat) (ws : List Nat) (w : World) (e : Ending) (w' : World) : Prop := ∃ g, e = .returned (.pointer (some ⟨g, 0, none⟩)) ∧ SetAt w' g b n ws ∧ w.heap.size ≤ g ∧ w.grownBy w' none
theorem zeros_cells (b : Bool) (n : Int) : (Value.bool b :: .int .i64 n :: vals zeros).toArray = #[.bool b, .int .i64 n, .int .u64 0, .int .u64 0, .int .u64 0, .int .u64 0, .int .u64 0, .int .u64 0, .int .u64 0, .int .u64 0, .int .u64 0, .int .u64 0, .int .u64 0, .int .u64 0, .int .u64 0, .int .u64 0, .int .u64 0, .int .u64 0, .int .u64 0, .int .u64 0, .int .u64 0, .int .u64 0, .int .u64 0, .int .u64 0, .int .u64 0, .int .u64 0, .int .u64 0, .int .u64 0, .int .u64 0, .int .u64 0, .int .u64 0, .int .u64 0, .int .u64 0, .int .u64 0] := rfl
theorem New_any (n : Int) (k : Nat) (hk : near n 0 2048 = k) (w : World) :
    Calls Tryz.prog 174 #[.int .i64 n] w (NewAns true k zeros w) := by
  have h2 : k ≤ 2048 := by unfold near at hk; repeat' split at hk
                           all_goals omega
  have HK := Lib.hid hk
  clear hk
  go_enter Tryz.func174, Tryz.ntmps174
  go_wp2_with (go_at_call 104; (with_reducible refine (Clamp_any _ _ _ _).mono ?_); rintro e w' ⟨rfl, rfl⟩; rw [HK.out])
  go_ret
  refine ⟨w.heap.size, rfl, ⟨?_, Fine.zeros h2⟩, Nat.le_refl _, World.grownBy_alloc _ _ _⟩
  rw [zeros_cells, heap_alloc_new]
section
variable {w : World} {g n : Nat} {b : Bool} {ws : List Nat}
theorem nums_nonneg (h : SetAt w g b n ws) : ∀ z ∈ nums ws, 0 ≤ z := fun z hz => (mem_nums_lt h.2 hz).1
theorem next_first (h : SetAt w g b n ws) : nextOf (nums ws) 0 = (nums ws).getD 0 (-1) := nextOf_first (nums_nonneg h)
theorem All_nil (w : World) : Calls Tryz.prog 198 #[.pointer none] w fun e w' => e = .returned (.slice none 0 0) ∧ w' = w := by
  go_enter Tryz.func198, Tryz.ntmps198
  go_wp2_with (go_at_call 247; (with_reducible refine (Next_nil _ _).mono ?_); rintro e w' ⟨rfl, hw⟩; subst hw)
  go_loopw [3, 4] (fun v i wr => v = .slice none 0 0 ∧ i = .int .i64 (-1) ∧ wr = w') (fun _ _ _ => 0)
  case atStart => exact ⟨rfl, rfl, rfl⟩
  case round =>
    obtain ⟨rfl, rfl, hw⟩ := hrel
    subst hw
    go_wp2
    go_ret
    exact ⟨rfl, rfl⟩
theorem All_yes (h : SetAt w g b n ws) (hT : Tab w) (hg0 : g ≠ 1) : Calls Tryz.prog 198 #[.pointer (some ⟨g, 0, none⟩)] w (ListAns (nums ws) w) := by
  obtain ⟨i0, hi, hz0, hz1, hz2⟩ := info_parts info_int
  have E : Hid (i0.zero = some (.int .i64 0) ∧ i0.size = 1 ∧ i0.bytes = 8 ∧ Tryz.prog.info? 3 = some i0) := ⟨hz0, hz1, hz2, hi⟩
  have H := Lib.hid h
  have HT := Lib.hid hT
  have P := Lib.hid (Next_any h hT 0)
  rw [next_first h] at P
  obtain ⟨xs, hxs⟩ : ∃ xs, xs = nums ws := ⟨_, rfl⟩
  have HU := Lib.hid (nums_up ws)
  have HN := Lib.hid (nums_nonneg h)
  have HL := Lib.hid (nums_length ws)
  have HA := Lib.hid (show ∀ (W : World) (k : Nat), SetAt W g b n ws → Tab W → k < xs.length → Calls Tryz.prog 247 #[.pointer (some ⟨g, 0, none⟩), .int .i64 (xs.getD k 0 + 1)] W fun e w' => e = .returned (.int .i64 (xs.getD (k + 1) (-1))) ∧ Drew W w' by
    intro W k hS hTW hk
    rw [hxs] at hk ⊢
    rw [← nextOf_at k (nums_up ws) hk]
    exact Next_any hS hTW _)
  rw [← hxs] at P HU HN HL ⊢
  have HB := Lib.hid (show ∀ k, k < xs.length → xs.getD k 0 < 2048 by
    intro k hk
    rw [hxs] at hk ⊢
    have := mem_nums_lt h.2 (getD_mem hk 0)
    have := h.2.2.2.2
    omega)
  clear hi hz0 hz1 hz2 h hT hxs
  have hl := HL.out
  go_enter Tryz.func198, Tryz.ntmps198
  go_wp2_with (go_at_call 247; (with_reducible refine P.out.mono ?_); rintro e w' ⟨rfl, d, rfl⟩)
  go_loopw [3, 4] (fun v i wr => ∃ (k : Nat) (A' : Option Addr) (c' : Nat), k ≤ xs.length ∧ i = .int .i64 (xs.getD k (-1)) ∧ v = .slice A' k c' ∧ wr.ownsRow w.heap.size 3 1 (.slice A' k c') k (ints (xs.take k)) ∧ w.grownBy wr none) (fun v _ _ => xs.length - (match v with | .slice _ k _ => k | _ => 0))
  case atStart => exact ⟨0, none, 0, Nat.zero_le _, rfl, rfl, World.ownsRow_nil _ _ _ _, grown_drewN _ _ _⟩
  case round =>
    obtain ⟨k, A', c', hk, rfl, rfl, ho, hg⟩ := hrel
    have HO := Lib.hid ho
    have HG := Lib.hid hg
    clear ho hg
    by_cases hlt : k < xs.length
    · have e0 : xs.getD k (-1) = xs.getD k 0 := by simp [List.getD_eq_getElem?_getD, hlt]
      have hm := HN.out _ (getD_mem hlt 0)
      have hb := HB.out k hlt
      have HM := Lib.hid (take_more hlt 0)
      have HC := Lib.hid (fun W h1 h2 => HA.out W k h1 h2 hlt)
      rw [e0]
      generalize xs.getD k 0 = x at hm hb HM HC
      obtain ⟨y, hy⟩ : ∃ y, xs.getD (k + 1) (-1) = y := ⟨_, rfl⟩
      rw [hy] at HC
      have HY := Lib.hid hy
      clear hy
      have e1 : (x == -1) = false := by simp; omega
      have e2 : (x != -1) = true := by simp; omega
      have e3 : IntKind.i64.wrap (x + 1) = x + 1 := IntWalk.i64_in _ (by omega)
      clear e0
      go_wp2_with (first
        | (refine wpList_append_rd rfl (.tmp 13) (.tmp 15) 41 rfl w.heap.size 3 i0 (.int .i64 0) 8 Tryz.underlying41 E.out.2.2.2 E.out.1 E.out.2.1 E.out.2.2.1 rfl _ k (xs.take k) rfl (HO.out.alloc _) (some ⟨wr.heap.size, 0, none⟩) 1 1 _ [x] rfl (Rd.one _ _ _) (by unfold maxLen; omega) (by omega) (by have := HG.out.size; simp; omega) ?_; intro A3 c3 w2 own1 rd1 gr1; have OWN1 := Lib.hid own1; have G1 := Lib.hid (grown_one HG.out HO.out (Nat.le_refl _) gr1); clear own1 gr1 rd1)
        | (go_at_call 247; (with_reducible refine (HC.out _ (H.out.kept G1.out (by simp)) (HT.out.kept G1.out (by simp))).mono ?_); rintro e w' ⟨rfl, d2, rfl⟩))
      go_roundw
      case rel => exact ⟨k + 1, A3, c3, by omega, by rw [HY.out], rfl, by rw [HM.out]; exact OWN1.out, grown_more G1.out (grown_drewN _ _ _)⟩
      case measure => simp; omega
    · obtain rfl : k = xs.length := by omega
      have e0 : xs.getD xs.length (-1) = -1 := by simp
      rw [e0]
      go_wp2
      go_ret
      have ho := HO.out
      rw [List.take_of_length_le (Nat.le_refl _)] at ho
      exact ⟨A', c', rfl, ho, HG.out⟩
end
end Go.Proofs.YtkgdcgmbapchcaaGreatDoor.bm
namespace Go.Proofs.YtkgdcgmbapchcaaGreatDoor.bm
open Go.ChangeShapes Go.WideShapes Go.ChangeAt Go.RowKit gen
set_option linter.unusedVariables false
section
variable {w : World} {g n : Nat} {b : Bool} {ws : List Nat}
theorem mem_bit (h : SetAt w g b n ws) {z : Int} (h0 : 0 ≤ z) : z ∈ nums ws ↔ bit ws z.toNat = true := by
  rw [mem_nums h.2]
  exact ⟨fun h => h.2, fun h => ⟨h0, h⟩⟩
theorem Has_any (h : SetAt w g b n ws) (z : Int) : Calls Tryz.prog 200 #[.pointer (some ⟨g, 0, none⟩), .int .i64 z] w fun e w' => e = .returned (.bool (decide (z ∈ nums ws))) ∧ Drew w w' := by
  by_cases hi : 0 ≤ z ∧ z < n
  · obtain ⟨i, rfl⟩ : ∃ i : Nat, z = i := ⟨z.toNat, by omega⟩
    have hm := mem_bit h hi.1
    simp only [Int.toNat_natCast] at hm
    cases hb : bit ws i with
    | true => rw [decide_eq_true (hm.2 hb)]; exact Has_yes h i (by omega) hb
    | false => rw [decide_eq_false (fun hc => by rw [hm.1 hc] at hb; cases hb)]; exact Has_no h i (by omega) hb
  · rw [decide_eq_false (fun hc => hi (mem_nums_lt h.2 hc))]
    exact (Has_out _ z w (place_no h z hi)).mono fun _ _ ⟨h1, h2⟩ => ⟨h1, .same h2⟩
def SetAns (r : Bool) (xs : List Int) (g : Nat) (b : Bool) (n : Nat) (w : World) (e : Ending) (w' : World) : Prop :=
  ∃ ws, e = .returned (.bool r) ∧ SetAt w' g b n ws ∧ nums ws = xs ∧ w.grownBy w' (some g)
theorem Add_ok (h : SetAt w g b n ws) (z : Int) (h1 : z ∉ nums ws) (h2 : 0 ≤ z) (h3 : z < n) : Calls Tryz.prog 222 #[.pointer (some ⟨g, 0, none⟩), .int .i64 z] w (SetAns true (rising (nums ws ++ [z])) g b n w) := by
  obtain ⟨i, rfl⟩ : ∃ i : Nat, z = i := ⟨z.toNat, by omega⟩
  have hm := mem_bit h h2
  simp only [Int.toNat_natCast] at hm
  refine (Add_yes h i (by omega) (by cases e : bit ws i with | false => rfl | true => exact absurd (hm.2 e) h1)).mono fun e w' ⟨he, hs, hg⟩ => ?_
  exact ⟨_, he, hs, (nums_put h.2 (by omega)).symm, hg⟩
theorem Remove_any (h : SetAt w g b n ws) (z : Int) : Calls Tryz.prog 259 #[.pointer (some ⟨g, 0, none⟩), .int .i64 z] w (SetAns (decide (z ∈ nums ws)) ((nums ws).filter fun y => decide (y ≠ z)) g b n w) := by
  have no : ∀ (e : Ending) (w' : World), z ∉ nums ws → (e = .returned (.bool false) ∧ Drew w w') → SetAns (decide (z ∈ nums ws)) ((nums ws).filter fun y => decide (y ≠ z)) g b n w e w' := by
    rintro e w' hz ⟨rfl, k, rfl⟩
    exact ⟨ws, by rw [decide_eq_false hz], h.drewN k, (filter_all hz).symm, grown_drewN _ _ _⟩
  by_cases hi : 0 ≤ z ∧ z < n
  · obtain ⟨i, rfl⟩ : ∃ i : Nat, z = i := ⟨z.toNat, by omega⟩
    have hm := mem_bit h hi.1
    simp only [Int.toNat_natCast] at hm
    cases hb : bit ws i with
    | true => exact (Remove_yes h i (by omega) hb).mono fun e w' ⟨he, hs, hg⟩ => ⟨_, by rw [he, decide_eq_true (hm.2 hb)], hs, (nums_cut h.2 (by omega)).symm, hg⟩
    | false => exact (Remove_no h i (by omega) hb).mono fun e w' he => no e w' (fun hc => by rw [hm.1 hc] at hb; cases hb) he
  · exact (Remove_out _ z w (place_no h z hi)).mono fun e w' ⟨h1, h2⟩ => no e w' (fun hc => hi (mem_nums_lt h.2 hc)) ⟨h1, .same h2⟩
end
theorem Rd.below' {w w' : World} {B n c : Nat} {A : Option Addr} {xs : List Int} (h : Rd w B A n c xs) (hb : Below B w w') (hs : B ≤ w'.heap.size) : Rd w' w'.heap.size A n c xs := by
  have h2 := h.below hb
  exact ⟨h2.1, h2.2.1, fun ad e i hi => ⟨Nat.lt_of_lt_of_le (h2.2.2 ad e i hi).1 hs, (h2.2.2 ad e i hi).2⟩⟩
section
variable {w : World} {g n m c : Nat} {A : Option Addr} {ws : List Nat}
set_option maxHeartbeats 4000000
set_option maxRecDepth 100000
end
end Go.Proofs.YtkgdcgmbapchcaaGreatDoor.bm
namespace Go.Proofs.YtkgdcgmbapchcaaGreatDoor.bm
open Go.RowKit
end Go.Proofs.YtkgdcgmbapchcaaGreatDoor.bm
