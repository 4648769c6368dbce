/- What a step of the law's own script on words does. -/
import Derived.Test.YtdlclkmaiaeleaaMmE
import Derived.BigRegion
import Derived.RegionTactic
namespace Go.Proofs.Ytdlclkmaiaeleaa.mm
open Go.ChangeShapes Go.WideShapes Go.ChangeAt Go.RowKit gen
set_option linter.unusedVariables false

/-- The five cells of a call that lies at the head of block B. -/
def Five (w : World) (B : Nat) (k a b n v : Int) : Prop :=
  w.cell? ⟨B, 0, none⟩ = some (.int .i64 k) ∧ w.cell? ⟨B, 1, none⟩ = some (.int .i64 a) ∧ w.cell? ⟨B, 2, none⟩ = some (.int .i64 b) ∧ w.cell? ⟨B, 3, none⟩ = some (.int .i64 n) ∧ w.cell? ⟨B, 4, none⟩ = some (.int .i64 v)
theorem Five.new (w : World) (t : TypeId) (k a b n v : Int) : Five (w.alloc (.cells #[.int .i64 k, .int .i64 a, .int .i64 b, .int .i64 n, .int .i64 v] t)) w.heap.size k a b n v := by
  unfold Five
  refine ⟨?_, ?_, ?_, ?_, ?_⟩ <;> simp [go_sem]
theorem Five.kept {w w' : World} {B : Nat} {k a b n v : Int} {row : Option Nat} (h : Five w B k a b n v) (hg : w.grownBy w' row) (hr : some B ≠ row) : Five w' B k a b n v := by
  obtain ⟨h0, h1, h2, h3, h4⟩ := h
  exact ⟨hg.cell h0 hr, hg.cell h1 hr, hg.cell h2 hr, hg.cell h3 hr, hg.cell h4 hr⟩
/-- Where the list behind a step lies: in a new block, or where the one ahead lay. -/
def From (w : World) (v v' : Value) : Prop := ∀ q, v'.ownBlock = some q → w.heap.size ≤ q ∨ v.ownBlock = some q
theorem From.same (w : World) (v : Value) : From w v v := fun _ h => .inr h
theorem From.own {w w' : World} {v v' : Value} {base n : Nat} {t : TypeId} {xs : List Value} (h : w'.ownsRow base t 1 v' n xs) (hb : w.heap.size ≤ base) : From w v v' := fun q hq => .inl (Nat.le_trans hb (own_base h q hq))
theorem From.then {w w' : World} {v v' v'' : Value} (h : From w v v') (h' : From w' v' v'') (hs : w.heap.size ≤ w'.heap.size) : From w v v'' := fun q hq => by
  rcases h' q hq with h1 | h1
  · exact .inl (by omega)
  · exact h q h1
/-- What a step answers: words that both agree on. -/
def StepAns (g r n : Nat) (v0 : Value) (w : World) (e : Ending) (w' : World) : Prop :=
  ∃ A c ys, e = .returned (.tuple #[.slice A n c, .bool true]) ∧ ys.length = n ∧ MemAt w' g r ys ∧ Lst w' r (.slice A n c) ys ∧ w.grownBy w' (some r) ∧ From w v0 (.slice A n c)
/-- The list's copy that a step begins with. -/
def Copied (r : Nat) (xs : List Int) (n : Nat) (w : World) (A : Option Addr) (c : Nat) (w' : World) : Prop :=
  w'.ownsRow w.heap.size 2 1 (.slice A n c) n (ints xs) ∧ w.grownBy w' none

theorem ret2 {A : Option Addr} {n m c : Nat} {b : Bool} (h : n = m) : Ending.returned (.tuple #[.slice A n c, .bool b]) = .returned (.tuple #[.slice A m c, .bool b]) := by rw [h]
section
variable {g r : Nat} {xs : List Int} {w : World} {A : Option Addr} {c : Nat} (k a b n v : Int)
set_option maxHeartbeats 4000000
set_option maxRecDepth 100000

theorem Lst.rd' {m : Nat} (h : Lst w r (.slice A m c) xs) (hm : xs.length = m) : Rd w w.heap.size A m c xs := by
  subst hm
  obtain ⟨A', c', e, hr⟩ := h.rd
  injection e with h1 h2 h3
  subst h1 h3
  exact hr
theorem own_lst {base m : Nat} {v : Value} {ys : List Int} (h : w.ownsRow base 2 1 v m (ys.map (Value.int .i64))) (hn : ys.length = m) (hr : r < base) : Lst w r v ys := by
  subst hn
  refine ⟨⟨h.1, ?_⟩, fun e => ?_⟩
  · rcases h.2 with h2 | ⟨g, cap, cur, h1, h2, h3⟩
    · exact .inl h2
    · exact .inr ⟨g, cap, cur, h1, Nat.zero_le _, h3⟩
  · have := own_base h _ e
    omega
theorem step_1 {m : Nat} (h : MemAt w g r xs) (hm : xs.length = m) (hl : Lst w r (.slice A m c) xs) (ha : 0 ≤ a ∧ a < m) :
    Calls Try.prog 24 #[.pointer (some ⟨g, 0, none⟩), .slice A m c, .agg #[.int .i64 1, .int .i64 a, .int .i64 b, .int .i64 n, .int .i64 v]] w (StepAns g r m (.slice A m c) w) := by
  obtain ⟨i0, hi, hz0, hz1, hz2⟩ := info_parts info2'
  have E : Hid (i0.zero = some (.int .i64 0) ∧ i0.size = 1 ∧ i0.bytes = 8 ∧ Try.prog.info? 2 = some i0) := ⟨hz0, hz1, hz2, hi⟩
  have hn := h.2.2
  have R := Lib.hid (hl.rd' hm)
  have HL := Lib.hid hl
  have H := Lib.hid h
  obtain ⟨a, rfl⟩ : ∃ q : Nat, a = q := ⟨a.toNat, by omega⟩
  have ha' : a < m := by omega
  have hs : m ≤ 2048 := by omega
  have HM := Lib.hid hm
  have N := Lib.hid (Five.new w 50 1 a b n v)
  have G0 := Lib.hid (World.grownBy_alloc w (.cells #[.int .i64 1, .int .i64 a, .int .i64 b, .int .i64 n, .int .i64 v] 50) none)
  clear hl h hi hz0 hz1 hz2 hm hn ha
  go_enter Try.func24, Try.ntmps24
  go_wp2_with (first
    | (refine wpList_append_rd rfl (.tmp 16) (.tmp 17) 26 rfl (w.heap.size + 1) 2 i0 (.int .i64 0) 8 Try.underlying26 E.out.2.2.2 E.out.1 E.out.2.1 E.out.2.2.1 rfl _ 0 [] rfl (World.ownsRow_nil _ _ _ _) A m c w.heap.size xs rfl (R.out.below (grown_below G0.out)) (by unfold maxLen; omega) (by omega) (by simp) ?_; intro A3 c3 w2 own1 rd1 gr1; simp only [Nat.zero_add, List.nil_append] at own1; have gr2 := show (w.alloc _).grownBy w2 none from gr1; have G1 := Lib.hid (G0.out.trans gr2); have F1 := Lib.hid (N.out.kept gr2 (by simp)); obtain ⟨k0, k1, k2, k3, k4⟩ := F1.out; obtain ⟨g3, cap, e3, hb3, hlt3⟩ := own1.form (by omega); obtain ⟨rfl, rfl⟩ : A3 = some ⟨g3, 0, none⟩ ∧ c3 = cap := (by injection e3 with h1 h2 h3; exact ⟨h1, h3⟩); have S3 := own1.stored a (.int .i64 v); have hc3 := own1.cellAt a (by omega); rw [List.getElem?_map, List.getElem?_eq_getElem (by rw [HM.out]; exact ha'), Option.map_some] at hc3; have hf3 := own1.frozenAt a; have OWN2 := Lib.hid S3.1; have G2 := Lib.hid (grown_new G1.out S3.2 (by omega)); have F2 := Lib.hid (F1.out.kept S3.2 (by simp; omega)); obtain ⟨j0, j1, j2, j3, j4⟩ := F2.out; have H2 := Lib.hid (H.out.kept G2.out (by simp) (by simp)); clear own1 gr1 rd1 gr2 S3 e3)
    | (go_at_call 16; (with_reducible refine (there_yes _ _ _ _ _ _ (by omega) (by omega)).mono ?_); rintro e w' ⟨rfl, rfl⟩)
    | (go_at_call 15; (with_reducible refine (Store_yes H2.out a v (by rw [HM.out]; exact ha')).mono ?_); rintro e w4 ⟨rfl, hm4, hg4⟩; have M4 := Lib.hid hm4; have G4 := Lib.hid hg4; clear hm4 hg4))
  go_ret2
  have hlen : (xs.set a v).length = m := by rw [List.length_set, HM.out]
  have O := OWN2.out
  rw [show (List.map (Value.int .i64) xs).set a (.int .i64 v) = List.map (Value.int .i64) (xs.set a v) by simp] at O
  exact ⟨_, _, _, rfl, hlen, M4.out, (own_lst O hlen (by have := H.out.lt.2; omega)).grown G4.out, grown_then G2.out G4.out, From.own OWN2.out (by omega)⟩
theorem step_1n {m : Nat} (h : MemAt w g r xs) (hm : xs.length = m) (hl : Lst w r (.slice A m c) xs) (ha : ¬ (0 ≤ a ∧ a < m)) :
    Calls Try.prog 24 #[.pointer (some ⟨g, 0, none⟩), .slice A m c, .agg #[.int .i64 1, .int .i64 a, .int .i64 b, .int .i64 n, .int .i64 v]] w (StepAns g r m (.slice A m c) w) := by
  obtain ⟨i0, hi, hz0, hz1, hz2⟩ := info_parts info2'
  have E : Hid (i0.zero = some (.int .i64 0) ∧ i0.size = 1 ∧ i0.bytes = 8 ∧ Try.prog.info? 2 = some i0) := ⟨hz0, hz1, hz2, hi⟩
  have hn := h.2.2
  have R := Lib.hid (hl.rd' hm)
  have HL := Lib.hid hl
  have H := Lib.hid h
  have hs : m ≤ 2048 := by omega
  have HM := Lib.hid hm
  have N := Lib.hid (Five.new w 50 1 a b n v)
  have G0 := Lib.hid (World.grownBy_alloc w (.cells #[.int .i64 1, .int .i64 a, .int .i64 b, .int .i64 n, .int .i64 v] 50) none)
  clear hl h hi hz0 hz1 hz2 hm hn
  go_enter Try.func24, Try.ntmps24
  go_wp2_with (first
    | (refine wpList_append_rd rfl (.tmp 16) (.tmp 17) 26 rfl (w.heap.size + 1) 2 i0 (.int .i64 0) 8 Try.underlying26 E.out.2.2.2 E.out.1 E.out.2.1 E.out.2.2.1 rfl _ 0 [] rfl (World.ownsRow_nil _ _ _ _) A m c w.heap.size xs rfl (R.out.below (grown_below G0.out)) (by unfold maxLen; omega) (by omega) (by simp) ?_; intro A3 c3 w2 own1 rd1 gr1; simp only [Nat.zero_add, List.nil_append] at own1; have gr2 := show (w.alloc _).grownBy w2 none from gr1; have G1 := Lib.hid (G0.out.trans gr2); have F1 := Lib.hid (N.out.kept gr2 (by simp)); obtain ⟨k0, k1, k2, k3, k4⟩ := F1.out; have OWN1 := Lib.hid own1; have H1 := Lib.hid (H.out.kept G1.out (by simp) (by simp)); clear own1 gr1 rd1 gr2)
    | (go_at_call 16; (with_reducible refine (there_no _ _ _ _ _ _ (by omega) (by omega)).mono ?_); rintro e w' ⟨rfl, rfl⟩)
    | (go_at_call 15; (with_reducible refine (Store_none _ _ _ _ (part_no H1.out a 1 (by omega) (by rw [HM.out]; omega))).mono ?_); rintro e w' ⟨rfl, rfl⟩))
  go_ret2
  exact ⟨_, _, _, rfl, HM.out, H1.out, own_lst OWN1.out HM.out (by have := H.out.lt.2; omega), grown_then G1.out (grown_refl _ _), From.own OWN1.out (by omega)⟩
theorem step_2n {m : Nat} (h : MemAt w g r xs) (hm : xs.length = m) (hl : Lst w r (.slice A m c) xs) (hbd : n ≤ 9223372036854775807) (ha : ¬ (0 ≤ a ∧ 0 ≤ n ∧ a + n ≤ m)) :
    Calls Try.prog 24 #[.pointer (some ⟨g, 0, none⟩), .slice A m c, .agg #[.int .i64 2, .int .i64 a, .int .i64 b, .int .i64 n, .int .i64 v]] w (StepAns g r m (.slice A m c) w) := by
  obtain ⟨i0, hi, hz0, hz1, hz2⟩ := info_parts info2'
  have E : Hid (i0.zero = some (.int .i64 0) ∧ i0.size = 1 ∧ i0.bytes = 8 ∧ Try.prog.info? 2 = some i0) := ⟨hz0, hz1, hz2, hi⟩
  have hn := h.2.2
  have R := Lib.hid (hl.rd' hm)
  have HL := Lib.hid hl
  have H := Lib.hid h
  have hs : m ≤ 2048 := by omega
  have HM := Lib.hid hm
  have N := Lib.hid (Five.new w 50 2 a b n v)
  have G0 := Lib.hid (World.grownBy_alloc w (.cells #[.int .i64 2, .int .i64 a, .int .i64 b, .int .i64 n, .int .i64 v] 50) none)
  clear hl h hi hz0 hz1 hz2 hm hn
  go_enter Try.func24, Try.ntmps24
  go_wp2_with (first
    | (refine wpList_append_rd rfl (.tmp 16) (.tmp 17) 26 rfl (w.heap.size + 1) 2 i0 (.int .i64 0) 8 Try.underlying26 E.out.2.2.2 E.out.1 E.out.2.1 E.out.2.2.1 rfl _ 0 [] rfl (World.ownsRow_nil _ _ _ _) A m c w.heap.size xs rfl (R.out.below (grown_below G0.out)) (by unfold maxLen; omega) (by omega) (by simp) ?_; intro A3 c3 w2 own1 rd1 gr1; simp only [Nat.zero_add, List.nil_append] at own1; have gr2 := show (w.alloc _).grownBy w2 none from gr1; have G1 := Lib.hid (G0.out.trans gr2); have F1 := Lib.hid (N.out.kept gr2 (by simp)); obtain ⟨k0, k1, k2, k3, k4⟩ := F1.out; have OWN1 := Lib.hid own1; have H1 := Lib.hid (H.out.kept G1.out (by simp) (by simp)); clear own1 gr1 rd1 gr2)
    | (go_at_call 16; (with_reducible refine (there_no _ _ _ _ _ _ (by omega) (by omega)).mono ?_); rintro e w' ⟨rfl, rfl⟩))
  go_loopw [11] (fun i wr => i = .int .i64 0 ∧ wr = w2) (fun _ _ => 0)
  case atStart => exact ⟨rfl, rfl⟩
  case round =>
    obtain ⟨rfl, rfl⟩ := hrel
    go_wp2_with (first
      | (go_at_call 19; (with_reducible refine (Fill_none _ _ _ _ _ (part_no H1.out a n hbd (by rw [HM.out]; exact ha))).mono ?_); rintro e w' ⟨rfl, rfl⟩))
    go_ret2
    exact ⟨_, _, _, rfl, HM.out, H1.out, own_lst OWN1.out HM.out (by have := H.out.lt.2; omega), grown_then G1.out (grown_refl _ _), From.own OWN1.out (by omega)⟩
theorem step_2 {m : Nat} (h : MemAt w g r xs) (hm : xs.length = m) (hl : Lst w r (.slice A m c) xs) (ha : 0 ≤ a ∧ 0 ≤ n ∧ a + n ≤ m) :
    Calls Try.prog 24 #[.pointer (some ⟨g, 0, none⟩), .slice A m c, .agg #[.int .i64 2, .int .i64 a, .int .i64 b, .int .i64 n, .int .i64 v]] w (StepAns g r m (.slice A m c) w) := by
  obtain ⟨i0, hi, hz0, hz1, hz2⟩ := info_parts info2'
  have E : Hid (i0.zero = some (.int .i64 0) ∧ i0.size = 1 ∧ i0.bytes = 8 ∧ Try.prog.info? 2 = some i0) := ⟨hz0, hz1, hz2, hi⟩
  have hn := h.2.2
  have R := Lib.hid (hl.rd' hm)
  have HL := Lib.hid hl
  have H := Lib.hid h
  obtain ⟨a, rfl⟩ : ∃ q : Nat, a = q := ⟨a.toNat, by omega⟩
  obtain ⟨n, rfl⟩ : ∃ q : Nat, n = q := ⟨n.toNat, by omega⟩
  have ha2 : a + n ≤ m := by omega
  have hs : m ≤ 2048 := by omega
  have HM := Lib.hid hm
  have N := Lib.hid (Five.new w 50 2 a b n v)
  have G0 := Lib.hid (World.grownBy_alloc w (.cells #[.int .i64 2, .int .i64 a, .int .i64 b, .int .i64 n, .int .i64 v] 50) none)
  clear hl h hi hz0 hz1 hz2 hm hn ha
  go_enter Try.func24, Try.ntmps24
  go_wp2_with (first
    | (refine wpList_append_rd rfl (.tmp 16) (.tmp 17) 26 rfl (w.heap.size + 1) 2 i0 (.int .i64 0) 8 Try.underlying26 E.out.2.2.2 E.out.1 E.out.2.1 E.out.2.2.1 rfl _ 0 [] rfl (World.ownsRow_nil _ _ _ _) A m c w.heap.size xs rfl (R.out.below (grown_below G0.out)) (by unfold maxLen; omega) (by omega) (by simp) ?_; intro A3 c3 w2 own1 rd1 gr1; simp only [Nat.zero_add, List.nil_append] at own1; have gr2 := show (w.alloc _).grownBy w2 none from gr1; have G1 := Lib.hid (G0.out.trans gr2); have F1 := Lib.hid (N.out.kept gr2 (by simp)); obtain ⟨k0, k1, k2, k3, k4⟩ := F1.out; have OWN1 := Lib.hid own1; have H1 := Lib.hid (H.out.kept G1.out (by simp) (by simp)); clear own1 gr1 rd1 gr2)
    | (go_at_call 16; (with_reducible refine (there_yes _ _ _ _ _ _ (by omega) (by omega)).mono ?_); rintro e w' ⟨rfl, rfl⟩))
  go_loopw [11] (fun i wr => ∃ q : Nat, q ≤ n ∧ i = .int .i64 q ∧ wr.ownsRow (w.heap.size + 1) 2 1 (.slice A3 m c3) m ((fillN xs a v q).map (Value.int .i64)) ∧ w.grownBy wr none ∧ Five wr w.heap.size 2 a b n v) (fun i _ => n - (intOf i).toNat)
  case atStart => exact ⟨0, Nat.zero_le _, rfl, OWN1.out, G1.out, F1.out⟩
  case round =>
    obtain ⟨q, hq, rfl, ho, hg, hf⟩ := hrel
    obtain ⟨k0, k1, k2, k3, k4⟩ := id hf
    have HF := Lib.hid hf
    have HG := Lib.hid hg
    have HO := Lib.hid ho
    clear hf hg ho OWN1 G1 F1
    by_cases hlt : q < n
    · obtain ⟨g3, cap, e3, hb3, hlt3⟩ := HO.out.form (by omega)
      obtain ⟨rfl, rfl⟩ : A3 = some ⟨g3, 0, none⟩ ∧ c3 = cap := by injection e3 with h1 h2 h3; exact ⟨h1, h3⟩
      have hc3 := HO.out.cellAt (a + q) (by omega)
      rw [List.getElem?_map, List.getElem?_eq_getElem (by rw [fillN_length, HM.out]; omega), Option.map_some] at hc3
      have hf3 := HO.out.frozenAt (a + q)
      have S3 := Lib.hid (HO.out.stored (a + q) (.int .i64 v))
      clear e3
      go_wp2
      go_roundw
      case rel => exact ⟨q + 1, by omega, by go_num, by have := S3.out.1; rwa [show (List.map (Value.int .i64) (fillN xs a v q)).set (a + q) (.int .i64 v) = List.map (Value.int .i64) (fillN xs a v (q + 1)) by simp [fillN]] at this, grown_new HG.out S3.out.2 (by omega), HF.out.kept S3.out.2 (by simp; omega)⟩
      case measure => simp [intOf]; omega
    · obtain rfl : q = n := by omega
      have H2 := Lib.hid (H.out.kept HG.out (by simp) (by simp))
      go_wp2_with (first
        | (go_at_call 19; (with_reducible refine (Fill_yes H2.out a q v (by rw [HM.out]; exact ha2)).mono ?_); rintro e w4 ⟨rfl, hm4, hg4⟩; have M4 := Lib.hid hm4; have G4 := Lib.hid hg4; clear hm4 hg4))
      go_ret2
      have hlen : (fillN xs a v q).length = m := by rw [fillN_length, HM.out]
      exact ⟨_, _, _, rfl, hlen, M4.out, (own_lst HO.out hlen (by have := H.out.lt.2; omega)).grown G4.out, grown_then HG.out G4.out, From.own HO.out (by omega)⟩
end
end Go.Proofs.Ytdlclkmaiaeleaa.mm
