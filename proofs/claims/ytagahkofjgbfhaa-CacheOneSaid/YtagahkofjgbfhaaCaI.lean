/- The statement's own list of whose pages are, in memory: page, without. -/
import Derived.Test.YtagahkofjgbfhaaCaH
import Derived.Laws.AppendOwn
namespace Go.Proofs.Ytagahkofjgbfhaa.ca
open Go.ChangeShapes Go.WideShapes Go.ChangeAt Go.RowKit Go.Maps gen calls cls
set_option linter.unusedVariables false
set_option maxHeartbeats 8000000
set_option maxRecDepth 100000
section
variable {w w' : World} {base : Nat} {v : Value} {m : List Ow}
theorem page_any (h : Lo w base v m) (hm : m.length ≤ 4096) (G : ∃ n, Good n m) (t q : Int) :
    Calls Try.prog 31 #[v, .int .i64 t, .int .i64 q] w fun e w' => e = .returned (.int .i64 (page m t q)) ∧ w.grownBy w' none := by
  obtain ⟨A, N, k, rfl, hN, hk, hk2⟩ := h.shape
  have H := Lib.hid h
  have HN := Lib.hid hN
  have NO := Lib.hid (fun (h : ∀ p, (t, q, p) ∉ m) => page_no h)
  obtain ⟨n, G⟩ := G
  have GG := Lib.hid G
  have l1 : N ≤ 4096 := by omega
  clear h hN hk hk2 G
  go_enter Try.func31, Try.ntmps31
  go_wp2
  go_loopw [7] (fun i wr => ∃ k : Nat, k ≤ N ∧ i = .int .i64 k ∧ (∀ x ∈ m.take k, ¬ (x.1 = t ∧ x.2.1 = q)) ∧ wr = w) (fun i _ => N - (intOf i).toNat)
  case atStart => exact ⟨0, Nat.zero_le _, rfl, by simp, rfl⟩
  case round =>
    obtain ⟨i, hi, rfl, hp, rfl⟩ := hrel
    have HP := Lib.hid hp
    clear hp
    by_cases hlt : i < N
    · obtain ⟨b, off, rfl, c0, c1, c2⟩ := H.out.at_ HN.out hlt
      have MM := Lib.hid (getD_mem (m := m) (i := i) (by have := HN.out; omega))
      have TM := Lib.hid (take_more (m := m) (i := i) (by have := HN.out; omega))
      generalize m.getD i (0, 0, 0) = x at c0 c1 c2 MM TM
      obtain ⟨x1, x2, x3⟩ := x
      dsimp only at c0 c1 c2
      have l2 : (0 : Int) ≤ (i : Int) := by omega
      have l3 : (i : Int) < N := by omega
      have NX := Lib.hid (fun (hz : ¬ (x1 = t ∧ x2 = q)) => show ∀ x ∈ m.take (i + 1), ¬ (x.1 = t ∧ x.2.1 = q) by
        rw [TM.out]
        intro x hx
        rcases List.mem_append.1 hx with h | h
        · exact HP.out x h
        · simp at h; subst h; exact hz)
      by_cases h1 : x1 = t
      · have t1 : (x1 == t) = true := by simpa using h1
        by_cases h2 : x2 = q
        · have t2 : (x2 == q) = true := by simpa using h2
          have OW := Lib.hid (page_in GG.out MM.out)
          subst h1 h2
          go_wp2
          go_ret
          exact ⟨by rw [OW.out]; rfl, World.grownBy.refl _ _⟩
        · have t2 : (x2 == q) = false := by simpa using h2
          have NY := Lib.hid (NX.out (fun e => h2 e.2))
          clear h1 h2
          go_wp2
          go_roundw
          case rel => exact ⟨i + 1, by omega, by go_num, NY.out, by first | rfl | trivial⟩
          case measure => simp [intOf]; omega
      · have t1 : (x1 == t) = false := by simpa using h1
        have NY := Lib.hid (NX.out (fun e => h1 e.1))
        clear h1
        go_wp2
        go_roundw
        case rel => exact ⟨i + 1, by omega, by go_num, NY.out, by first | rfl | trivial⟩
        case measure => simp [intOf]; omega
    · obtain rfl : i = N := by omega
      have e1 := NO.out (fun p hp => (by have h2 := HP.out (t, q, p) (by rw [List.take_of_length_le (by have := HN.out; omega)]; exact hp); exact h2 ⟨rfl, rfl⟩))
      go_wp2
      go_ret
      exact ⟨by rw [e1]; rfl, World.grownBy.refl _ _⟩
theorem info_own : (Try.prog.info? 51).map (fun i => (i.zero, i.size, i.bytes)) = some (some (.agg #[.int .i64 0, .int .i64 0, .int .i64 0]), 3, 24) := by kernel_rfl
/-- An element appended to a list of one's own. -/
theorem append_ow {ops : Array Oper} {rest : List Oper} {o : Oper} {a : Act} {Q : Exit → Act → World → Prop} (hgd : o.guard = none) (s x : Operand) (ho : o.op = .call { callee := .builtin .append, args := #[s, x], argTypes := #[24, 24] })
    (base : Nat) (v : Value) (m : List Ow) (hs : a.eval s = v) (hown : Lo w base v m) (b : Nat) (y1 y2 y3 : Int) (hx : a.eval x = .slice (some ⟨b, 0, none⟩) 1 1)
    (h0 : w.cell? ⟨b, 0, none⟩ = some (.int .i64 y1)) (h1 : w.cell? ⟨b, 1, none⟩ = some (.int .i64 y2)) (h2 : w.cell? ⟨b, 2, none⟩ = some (.int .i64 y3)) (hm : m.length ≤ 4096) (hbase : base ≤ w.heap.size)
    (h : ∀ A' N' c' w', N' = (m ++ [(y1, y2, y3)]).length → Lo w' base (.slice A' N' c') (m ++ [(y1, y2, y3)]) → w.grownBy w' v.ownBlock → wpList Try.prog ops Q rest (a.put o.dst (.slice A' N' c')) w') : wpList Try.prog ops Q (o :: rest) a w := by
  obtain ⟨i0, hi, hz0, hz1, hz2⟩ := info_parts info_own
  refine wpList_append_own w hgd s x 24 ho base 51 i0 (.agg #[.int .i64 0, .int .i64 0, .int .i64 0]) 3 24 Try.underlying24 hi hz0 hz1 hz2 rfl (by omega) v m.length (cs m) hs hown ⟨b, 0, none⟩ 1 1 [.int .i64 y1, .int .i64 y2, .int .i64 y3] hx rfl
    (fun j u hj => ?_) (fun u hu => ?_) (by unfold maxLen; omega) (by omega) hbase (fun v' w' h3 h4 h5 => ?_)
  · match j, hj with
    | 0, hj => simp at hj; subst hj; simpa [Addr.add] using h0
    | 1, hj => simp at hj; subst hj; simpa [Addr.add] using h1
    | 2, hj => simp at hj; subst hj; simpa [Addr.add] using h2
    | j + 3, hj => simp at hj
  · simp at hu
    rcases hu with rfl | rfl | rfl <;> rfl
  · have h6 : Lo w' base v' (m ++ [(y1, y2, y3)]) := by
      unfold Lo
      rw [cs_add, List.length_append]
      exact h3
    obtain ⟨A, N, k, rfl, hN, _, _⟩ := h6.shape
    exact h A N k w' hN h6 h4
/-- Rows of two kinds lie apart. -/
theorem own_apart {base1 N : Nat} {v1 v2 : Value} {xs : List Value} {m2 : List Ow} {base2 : Nat} (h1 : w.ownsRow base1 3 1 v1 N xs) (h2 : Lo w base2 v2 m2) : (v1.ownBlock = none ∨ v1.ownBlock ≠ v2.ownBlock) ∧ (v2.ownBlock = none ∨ v2.ownBlock ≠ v1.ownBlock) := by
  rcases h1.2 with ⟨rfl, _⟩ | ⟨g, cap, cur, rfl, _, hg, _⟩
  · refine ⟨.inl rfl, ?_⟩
    cases hv : v2.ownBlock with
    | none => exact .inl rfl
    | some j => exact .inr (by simp [Value.ownBlock])
  · have := h2.off hg (fun cs z e => by injection e with e1 e2 e3; exact absurd e2 (by decide))
    exact ⟨.inr (fun e => this e.symm), .inr this⟩
/-- What without answers. -/
def WAns (m : List Ow) (t q : Int) (w : World) (e : Ending) (w' : World) : Prop :=
  ∃ A N k B M j, e = .returned (.tuple #[.slice A N k, .slice B M j]) ∧ N = (rest m t q).length ∧ Lo w' w.heap.size (.slice A N k) (rest m t q) ∧ M = (bm.rising (gone m t q)).length ∧ w'.ownsRow w.heap.size 3 1 (.slice B M j) M (bm.ints (bm.rising (gone m t q))) ∧ w.grownBy w' none
theorem rest_more {i : Nat} (hi : i < m.length) (t q : Int) : rest (m.take (i + 1)) t q = if hit t q (m.getD i (0, 0, 0)) then rest (m.take i) t q else rest (m.take i) t q ++ [m.getD i (0, 0, 0)] := by
  rw [take_more hi]
  unfold rest
  rw [List.filter_append, List.filter_cons, List.filter_nil]
  cases hit t q (m.getD i (0, 0, 0)) <;> simp
theorem gone_more {i : Nat} (hi : i < m.length) (t q : Int) : gone (m.take (i + 1)) t q = if hit t q (m.getD i (0, 0, 0)) then gone (m.take i) t q ++ [(m.getD i (0, 0, 0)).2.2] else gone (m.take i) t q := by
  rw [take_more hi]
  unfold gone
  rw [List.filter_append, List.filter_cons, List.filter_nil]
  cases hit t q (m.getD i (0, 0, 0)) <;> simp
theorem rest_len (t q : Int) (i : Nat) : (rest (m.take i) t q).length ≤ m.length := Nat.le_trans (List.length_filter_le _ _) (by rw [List.length_take]; omega)
theorem gone_len (t q : Int) (i : Nat) : (gone (m.take i) t q).length ≤ m.length := by
  unfold gone
  rw [List.length_map]
  exact Nat.le_trans (List.length_filter_le _ _) (by rw [List.length_take]; omega)
theorem without_any (h : Lo w base v m) (hm : m.length ≤ 2048) (t q : Int) :
    Calls Try.prog 30 #[v, .int .i64 t, .int .i64 q] w (WAns m t q w) := by
  obtain ⟨A, N, k, rfl, hN, hk, hk2⟩ := h.shape
  have H := Lib.hid (h.mono (Nat.zero_le _))
  have HN := Lib.hid hN
  have HM := Lib.hid hm
  obtain ⟨i0, hi, hz0, hz1, hz2⟩ := info_parts bm.info_int
  have E : Hid (i0.zero = some (.int .i64 0) ∧ i0.size = 1 ∧ i0.bytes = 8 ∧ Try.prog.info? 3 = some i0) := ⟨hz0, hz1, hz2, hi⟩
  have l1 : N ≤ 4096 := by omega
  clear h hN hk hk2 hm hi hz0 hz1 hz2
  go_enter Try.func30, Try.ntmps30
  go_wp2
  go_loopw [8, 9, 10] (fun o g i wr => ∃ (k : Nat) (A1 : Option Addr) (N1 c1 : Nat) (A2 : Option Addr) (N2 c2 : Nat), k ≤ N ∧ i = .int .i64 k ∧ o = .slice A1 N1 c1 ∧ N1 = (rest (m.take k) t q).length ∧ Lo wr w.heap.size (.slice A1 N1 c1) (rest (m.take k) t q) ∧
      g = .slice A2 N2 c2 ∧ N2 = (gone (m.take k) t q).length ∧ wr.ownsRow w.heap.size 3 1 (.slice A2 N2 c2) N2 (bm.ints (gone (m.take k) t q)) ∧ w.grownBy wr none) (fun _ _ i _ => N - (intOf i).toNat)
  case atStart => exact ⟨0, none, 0, 0, none, 0, 0, Nat.zero_le _, rfl, rfl, rfl, Lo.nil _ _, rfl, rfl, World.ownsRow_nil _ _ _ _, World.grownBy.refl _ _⟩
  case round =>
    obtain ⟨i, A1, N1, c1, A2, N2, c2, hi, rfl, rfl, h1, h2, rfl, h3, h4, h5⟩ := hrel
    have H1 := Lib.hid h1
    have H2 := Lib.hid h2
    have H3 := Lib.hid h3
    have H4 := Lib.hid h4
    have G5 := Lib.hid h5
    have HW := Lib.hid (H.out.new h5)
    clear h1 h2 h3 h4 h5
    by_cases hlt : i < N
    · have him : i < m.length := by have := HN.out; omega
      obtain ⟨b, off, hA, c0, c1', c2'⟩ := HW.out.at_ HN.out hlt
      subst hA
      have RM := Lib.hid (rest_more him t q)
      have GM := Lib.hid (gone_more him t q)
      have L1 := Lib.hid (rest_len (m := m) t q i)
      have L2 := Lib.hid (gone_len (m := m) t q i)
      clear him
      generalize m.getD i (0, 0, 0) = x at c0 c1' c2' RM GM
      obtain ⟨x1, x2, x3⟩ := x
      dsimp only at c0 c1' c2'
      have l2 : (0 : Int) ≤ (i : Int) := by omega
      have l3 : (i : Int) < N := by omega
      have AP := Lib.hid (own_apart H4.out H2.out)
      have SZ := Lib.hid G5.out.size
      by_cases hh : hit t q (x1, x2, x3) = true
      · have RM2 := Lib.hid (RM.out.trans (if_pos hh))
        have GM2 := Lib.hid (GM.out.trans (if_pos hh))
        have hh2 : x1 = t ∧ (q = 0 ∨ x2 = q) := by simpa [hit] using hh
        clear hh RM GM
        have t1 : (x1 == t) = true := by simpa using hh2.1
        have AG : ∀ (hq : (q == 0) = true ∨ ((q == 0) = false ∧ (x2 == q) = true)), True := fun _ => trivial
        rcases (show (q == 0) = true ∨ ((q == 0) = false ∧ (x2 == q) = true) by
          by_cases h0 : q = 0
          · exact .inl (by simpa using h0)
          · exact .inr ⟨by simpa using h0, by simpa using hh2.2.resolve_left h0⟩) with t2 | ⟨t2, t3⟩
        all_goals
          clear hh2 AG
          go_wp2_with (first
            | (refine wpList_append_rd rfl (.tmp 37) (.tmp 43) 34 rfl w.heap.size 3 i0 (.int .i64 0) 8 Try.underlying34 E.out.2.2.2 E.out.1 E.out.2.1 E.out.2.2.1 rfl _ N2 (gone (m.take i) t q) rfl (H4.out.alloc _) (some ⟨wr.heap.size, 0, none⟩) 1 1 _ [x3] rfl (li.Rd.one_at _ _ _ rfl) (by unfold maxLen; have := L2.out; have := HM.out; have := H3.out; omega) (by have := L2.out; have := HM.out; have := H3.out; omega) (by have := SZ.out; simp; omega) ?_; intro A3 c3 w6 own1 rd1 gr1; have O6 := Lib.hid own1; have G6 := Lib.hid (G5.out.trans (World.grownBy_alloc wr (.cells #[.int .i64 x3] 3) none) |>.andThen gr1 (fun j hj => .inl (H4.out.lt j hj).1)); have K6 := Lib.hid ((H2.out.new (World.grownBy_alloc wr (.cells #[.int .i64 x3] 3) none)).kept gr1 AP.out.2); clear own1 gr1 rd1)
            | go_in)
          go_roundw
          case rel => exact ⟨i + 1, A1, N1, c1, A3, N2 + 1, c3, by omega, by go_num, rfl, by rw [RM2.out]; exact H1.out, by rw [RM2.out]; exact K6.out, rfl, by rw [GM2.out, List.length_append, ← H3.out]; rfl, by rw [GM2.out]; exact O6.out, G6.out⟩
          case measure => simp [intOf]; omega
      · have hh3 : hit t q (x1, x2, x3) = false := by simpa using hh
        have RM2 := Lib.hid (RM.out.trans (by rw [hh3]))
        have GM2 := Lib.hid (GM.out.trans (by rw [hh3]))
        have hh2 : x1 = t → ¬ q = 0 ∧ ¬ x2 = q := fun e => by simpa [hit, e] using hh3
        clear hh RM GM hh3
        rcases (show (x1 == t) = false ∨ ((x1 == t) = true ∧ (q == 0) = false ∧ (x2 == q) = false) by
          by_cases h0 : x1 = t
          · exact .inr ⟨by simpa using h0, by simpa using (hh2 h0).1, by simpa using (hh2 h0).2⟩
          · exact .inl (by simpa using h0)) with t1 | ⟨t1, t2, t3⟩
        all_goals
          clear hh2
          go_wp2_with (first
            | (refine append_ow rfl (.tmp 45) (.tmp 50) rfl w.heap.size _ (rest (m.take i) t q) rfl (H2.out.new (World.grownBy_alloc wr (.cells #[.int .i64 x1, .int .i64 x2, .int .i64 x3] 51) none)) wr.heap.size x1 x2 x3 rfl (by simp [go_sem]) (by simp [go_sem]) (by simp [go_sem]) (by have := L1.out; have := HM.out; omega) (by have := SZ.out; simp; omega) ?_; intro A3 N3 c3 w6 hN3 own1 gr1; have HN3 := Lib.hid hN3; have O6 := Lib.hid own1; have G6 := Lib.hid (G5.out.trans (World.grownBy_alloc wr (.cells #[.int .i64 x1, .int .i64 x2, .int .i64 x3] 51) none) |>.andThen gr1 (fun j hj => .inl (World.ownsRow.lt H2.out j hj).1)); have K6 := Lib.hid ((H4.out.alloc (.cells #[.int .i64 x1, .int .i64 x2, .int .i64 x3] 51)).kept gr1 AP.out.1); clear hN3 own1 gr1)
            | go_in)
          go_roundw
          case rel => exact ⟨i + 1, A3, N3, c3, A2, N2, c2, by omega, by go_num, rfl, by rw [RM2.out]; exact HN3.out, by rw [RM2.out]; exact O6.out, rfl, by rw [GM2.out]; exact H3.out, by rw [GM2.out]; exact K6.out, G6.out⟩
          case measure => simp [intOf]; omega
    · obtain rfl : i = N := by omega
      have e1 : m.take i = m := List.take_of_length_le (by have := HN.out; omega)
      rw [e1] at H1 H2 H3 H4
      have RD := Lib.hid (bm.rd_own H4.out)
      have LM := Lib.hid (show N2 ≤ 4096 by have := gone_len (m := m) t q i; rw [e1] at this; have := H3.out; have := HM.out; omega)
      clear e1
      go_wp2_with (first
        | (go_at_call 20; (with_reducible refine (bm.Rising_any (B := 0) LM.out RD.out).mono ?_); rintro e w6 ⟨A6, c6, rfl, ho, hg⟩; have O6 := Lib.hid ho; have G6 := Lib.hid hg; clear ho hg))
      go_ret2
      exact ⟨_, _, _, _, _, _, rfl, H1.out, H2.out.new G6.out, rfl, bm.own_mono O6.out G5.out.size, G5.out.trans G6.out⟩
end
end Go.Proofs.Ytagahkofjgbfhaa.ca
