/- The statement's own table of lists, and what it does to it: set, sum; few, Near. -/
import Derived.Test.YtljahpjdkkennaaBfD
namespace Go.Proofs.Ytljahpjdkkennaa.bf
open Go.ChangeShapes Go.WideShapes Go.ChangeAt Go.RowKit gen li
set_option linter.unusedVariables false
set_option maxHeartbeats 4000000
set_option maxRecDepth 100000

/-- A table of lists: M holds the lists us, which are ls. -/
structure Gi (w : World) (M : Value) (us : List Value) (ls : List (List Int)) : Prop where
  own : w.ownsRow 0 32 1 M ls.length us
  each : ∀ i, i < ls.length → Li w (us.getD i nl) (ls.getD i [])
  ok : Ok ls
def js (M : Value) (us : List Value) : List Nat := M.ownBlock.toList ++ us.filterMap Value.ownBlock
theorem js_own {M : Value} {us : List Value} {b : Nat} (h : M.ownBlock = some b) : b ∈ js M us := by simp [js, h]
theorem js_at {M : Value} {us : List Value} {i b : Nat} (h : i < us.length) (hb : (us.getD i nl).ownBlock = some b) : b ∈ js M us :=
  List.mem_append_right _ (List.mem_filterMap.2 ⟨_, getD_mem' h, hb⟩)
theorem js_of {M : Value} {us : List Value} {b : Nat} (h : b ∈ js M us) : M.ownBlock = some b ∨ ∃ i, i < us.length ∧ (us.getD i nl).ownBlock = some b := by
  rcases List.mem_append.1 h with h | h
  · rcases hm : M.ownBlock with _ | q
    · rw [hm] at h; simp at h
    · rw [hm] at h; simp at h; subst h; exact .inl rfl
  · obtain ⟨u, hu, hb⟩ := List.mem_filterMap.1 h
    obtain ⟨i, hi, rfl⟩ := List.getElem_of_mem hu
    exact .inr ⟨i, hi, by rw [List.getD_eq_getElem?_getD, List.getElem?_eq_getElem hi]; exact hb⟩
/-- A table in the blocks J. -/
def Gd (w : World) (J : List Nat) (M : Value) (ls : List (List Int)) : Prop := ∃ us, Gi w M us ls ∧ J = js M us
section
variable {w w' : World} {M : Value} {us : List Value} {ls : List (List Int)} {L J : List Nat}
theorem Gi.len (h : Gi w M us ls) : us.length = ls.length := by have := h.own.1; simpa using this
theorem Gi.gr (h : Gi w M us ls) (hg : Gr L w w') (hL : ∀ q, q ∈ js M us → q ∉ L) : Gi w' M us ls :=
  ⟨own_gr h.own hg (fun q e => hL q (js_own e)), fun i hi => (h.each i hi).gr hg (fun q e => hL q (js_at (by rw [h.len]; exact hi) e)), h.ok⟩
theorem Gi.lt (h : Gi w M us ls) : ∀ q, q ∈ js M us → q < w.heap.size := fun q hq => by
  rcases js_of hq with e | ⟨i, hi, e⟩
  · exact (own_lt h.own q e).2
  · exact (h.each i (by rw [← h.len]; exact hi)).lt q e
theorem Gi.new (h : Gi w M us ls) (hg : w.grownBy w' none) : Gi w' M us ls := h.gr (L := []) (.new hg) (fun _ _ => by simp)
theorem Gi.at_ {A : Option Addr} {N c i : Nat} (h : Gi w (.slice A N c) us ls) (hi : i < ls.length) : ∃ b, A = some ⟨b, 0, none⟩ ∧ w.cell? ⟨b, i, none⟩ = some (us.getD i nl) := by
  obtain ⟨b, cap, e, _, _⟩ := h.own.form (by omega)
  injection e with e1 e2 e3
  subst e1 e2
  refine ⟨b, rfl, ?_⟩
  rw [h.own.cellAt i (by omega), List.getD_eq_getElem?_getD, List.getElem?_eq_getElem (by rw [h.len]; exact hi)]
  rfl
theorem Gd.lt (h : Gd w J M ls) : ∀ q, q ∈ J → q < w.heap.size := by obtain ⟨us, h, rfl⟩ := h; exact h.lt
theorem Gd.gr (h : Gd w J M ls) (hg : Gr L w w') (hL : ∀ q, q ∈ J → q ∉ L) : Gd w' J M ls := by obtain ⟨us, h, rfl⟩ := h; exact ⟨us, h.gr hg hL, rfl⟩
theorem Gd.new (h : Gd w J M ls) (hg : w.grownBy w' none) : Gd w' J M ls := by obtain ⟨us, h, rfl⟩ := h; exact ⟨us, h.new hg, rfl⟩
theorem Gd.ok (h : Gd w J M ls) : Ok ls := by obtain ⟨us, h, rfl⟩ := h; exact h.ok
/-- One list of a table: where it is read, and what it is. -/
theorem Gd.at_ {A : Option Addr} {N c i : Nat} (h : Gd w J (.slice A N c) ls) (hi : i < ls.length) :
    ∃ b A1 c1, A = some ⟨b, 0, none⟩ ∧ w.cell? ⟨b, i, none⟩ = some (.slice A1 (ls.getD i []).length c1) ∧ Li w (.slice A1 (ls.getD i []).length c1) (ls.getD i []) ∧ ∀ q, (Value.slice A1 (ls.getD i []).length c1).ownBlock = some q → q ∈ J := by
  obtain ⟨us, h, rfl⟩ := h
  obtain ⟨b, e, hc⟩ := h.at_ hi
  obtain ⟨A1, c1, e1⟩ := (h.each i hi).shape
  have hl := h.each i hi
  have hj := fun q => js_at (M := .slice A N c) (b := q) (show i < us.length by rw [h.len]; exact hi)
  rw [e1] at hc hl hj
  exact ⟨b, A1, c1, e, hc, hl, hj⟩
/-- A table that was made. -/
theorem Gd.fresh (w : World) {k : Nat} (h : k ≤ 8) : Gd (w.alloc (.cells (List.replicate k nl).toArray 32)) [w.heap.size] (.slice (some ⟨w.heap.size, 0, none⟩) k k) (List.replicate k []) := by
  refine ⟨List.replicate k nl, ⟨?_, fun i hi => ?_, Ok.rep h⟩, ?_⟩
  · have := World.ownsRow_lit (base := 0) (e := 32) (size := 1) w (List.replicate k nl).toArray k (Nat.zero_le _) (by unfold maxLen; omega) (by simp)
    rw [List.length_replicate]
    exact this
  · rw [rep_at, lrep_at]
    exact Li.nil _
  · simp only [js, Value.ownBlock, Option.toList_some]
    rw [show (List.replicate k nl).filterMap Value.ownBlock = [] by rw [List.filterMap_eq_nil_iff]; intro a ha; rw [List.eq_of_mem_replicate ha]; rfl]
    rfl
end
/-! ### sum -/
section
variable {w w' : World} {ls : List (List Int)} {L J : List Nat}
theorem sum_any {A : Option Addr} {N c : Nat} (h : Gd w J (.slice A N c) ls) (hN : N = ls.length) : Calls Try.prog 20 #[.slice A N c] w fun r w' => r = .returned (.int .i64 (tot ls : Int)) ∧ w' = w := by
  have H := Lib.hid h
  have HN := Lib.hid hN
  have OK := Lib.hid h.ok
  have h8 : N ≤ 8 := by rw [hN]; exact h.ok.1
  clear h hN
  go_enter Try.func20, Try.ntmps20
  go_wp2
  go_loopw [3, 4] (fun s i wr => ∃ k : Nat, k ≤ N ∧ i = .int .i64 k ∧ s = .int .i64 (tot (ls.take k) : Int) ∧ wr = w) (fun _ i _ => N - (intOf i).toNat)
  case atStart => exact ⟨0, Nat.zero_le _, rfl, by simp [tot], rfl⟩
  case round =>
    obtain ⟨k, hk, rfl, rfl, rfl⟩ := hrel
    by_cases hlt : k < N
    · have hkl : k < ls.length := by rw [← HN.out]; exact hlt
      obtain ⟨b, A1, c1, rfl, d1, _, _⟩ := H.out.at_ hkl
      have t1 := tot_le OK.out k (by omega)
      have l1 := OK.out.le k
      have T2 := Lib.hid (tot_more hkl)
      clear hkl
      generalize tot (ls.take k) = s at *
      generalize (ls.getD k []).length = m at *
      have k0 : (0 : Int) ≤ (k : Int) := by omega
      have k1 : (k : Int) < (N : Int) := by omega
      go_wp2
      go_roundw
      case rel => exact ⟨k + 1, by omega, by go_num, by rw [T2.out]; go_num, trivial⟩
      case measure => simp [intOf]; omega
    · obtain rfl : k = N := by omega
      go_wp2
      go_ret
      exact ⟨by rw [tot_all (by rw [HN.out]; exact Nat.le_refl _)]; rfl, rfl⟩
/-! ### set -/
/-- A list appended to a table of one's own. -/
theorem append_lst {w : World} {ops : Array Oper} {rest : List Oper} {o : Oper} {a : Act} {Q : Exit → Act → World → Prop} (hgd : o.guard = none) (s x : Operand) (ho : o.op = .call { callee := .builtin .append, args := #[s, x], argTypes := #[24, 24] })
    (base : Nat) (v : Value) (xs : List Value) (hs : a.eval s = v) (hown : w.ownsRow base 32 1 v xs.length xs) (b : Nat) (u : Value) (hx : a.eval x = .slice (some ⟨b, 0, none⟩) 1 1)
    (hz : w.cell? ⟨b, 0, none⟩ = some u) (hu : u.oneCell' = true) (hm : xs.length ≤ 1048576) (hbase : base ≤ w.heap.size)
    (h : ∀ A' N' c' w', N' = (xs ++ [u]).length → w'.ownsRow base 32 1 (.slice A' N' c') (xs ++ [u]).length (xs ++ [u]) → w.grownBy w' v.ownBlock → wpList Try.prog ops Q rest (a.put o.dst (.slice A' N' c')) w') : wpList Try.prog ops Q (o :: rest) a w := by
  obtain ⟨i0, hi, hz0, hz1, hz2⟩ := info_parts info_list
  refine wpList_append_lies w hgd s x 24 ho base 32 i0 nl 1 24 Try.underlying24 hi hz0 hz1 hz2 rfl (by omega) v xs.length xs hs hown ⟨b, 0, none⟩ 1 1 [u] hx rfl
    (fun j y hj => ?_) (fun y hy => by simp at hy; subst hy; exact hu) (by omega) (by unfold maxLen; omega) (by omega) hbase _ rfl (fun g c' w' h1 h2 h3 h4 => ?_)
  · match j, hj with
    | 0, hj => simp at hj; subst hj; simpa [Addr.add] using hz
  · refine h _ (xs.length + 1) c' w' (by simp) ?_ h2
    rw [List.length_append]
    exact h1
theorem vtake_more {us : List Value} {k : Nat} (h : k < us.length) : us.take (k + 1) = us.take k ++ [us.getD k nl] := by
  rw [List.take_succ_eq_append_getElem h, List.getD_eq_getElem?_getD, List.getElem?_eq_getElem h]
  rfl
/-- What set tells. -/
def SetA (J : List Nat) (v : Value) (ls : List (List Int)) (w : World) (r : Ending) (w' : World) : Prop :=
  ∃ A N c J', r = .returned (.slice A N c) ∧ N = ls.length ∧ Gd w' J' (.slice A N c) ls ∧ (∀ q, q ∈ J' → q ∈ J ∨ v.ownBlock = some q ∨ w.heap.size ≤ q) ∧ w.grownBy w' none
theorem set_any {A : Option Addr} {N c : Nat} (h : Gd w J (.slice A N c) ls) (hN : N = ls.length) {A1 : Option Addr} {m c1 : Nat} {l : List Int} (hl : Li w (.slice A1 m c1) l) (k : Nat) (hk : k < ls.length) (hw : Wl l) :
    Calls Try.prog 29 #[.slice A N c, .int .i64 (k : Int), .slice A1 m c1] w (SetA J (.slice A1 m c1) (ls.set k l) w) := by
  obtain ⟨us, h, rfl⟩ := h
  have H := Lib.hid h
  have HL := Lib.hid hl
  have HN := Lib.hid hN
  have h8 : N ≤ 8 := by rw [hN]; exact h.ok.1
  have HU := Lib.hid (show (us.set k (.slice A1 m c1)).length = N by rw [List.length_set, h.len, hN])
  have HS := Lib.hid (show ∀ i, (us.set k (Value.slice A1 m c1)).getD i nl = if k = i ∧ i < us.length then Value.slice A1 m c1 else us.getD i nl from fun i => by
    by_cases e : k = i
    · subst e
      by_cases e2 : k < us.length
      · rw [set_same _ e2, if_pos ⟨rfl, e2⟩]
      · rw [if_neg (fun h => e2 h.2), List.set_eq_of_length_le (by omega)]
    · rw [set_else _ e, if_neg (fun h => e h.1)])
  have HWL := Lib.hid hw
  have HKK := Lib.hid hk
  have hkn : k < N := by rw [hN]; exact hk
  clear h hN hl hk hw
  have k0 : (0 : Int) ≤ (k : Int) := by omega
  have k8 : (k : Int) < 8 := by omega
  go_enter Try.func29, Try.ntmps29
  go_wp2
  go_loopw [7, 8] (fun o i wr => ∃ (j n : Nat) (A' : Option Addr) (c' : Nat), j ≤ N ∧ n = j ∧ i = .int .i64 j ∧ o = .slice A' n c' ∧ wr.ownsRow w.heap.size 32 1 (.slice A' n c') ((us.set k (.slice A1 m c1)).take j).length ((us.set k (.slice A1 m c1)).take j) ∧ w.grownBy wr none) (fun _ i _ => N - (intOf i).toNat)
  case atStart => exact ⟨0, 0, none, 0, Nat.zero_le _, rfl, rfl, rfl, World.ownsRow_nil _ _ _ _, World.grownBy.refl _ _⟩
  case round =>
    obtain ⟨j, n, A', c', hj, rfl, rfl, rfl, ho, hg⟩ := hrel
    have HO := Lib.hid ho
    have HG := Lib.hid hg
    by_cases hlt : n < N
    · have hjl : n < ls.length := by rw [← HN.out]; exact hlt
      obtain ⟨b, e0, d0⟩ := (H.out.new hg).at_ hjl
      obtain ⟨B1, e1, e2⟩ := (H.out.each n hjl).shape
      subst e0
      have MO := Lib.hid (vtake_more (us := us.set k (.slice A1 m c1)) (k := n) (by rw [HU.out]; exact hlt))
      have LE := Lib.hid (show ((us.set k (Value.slice A1 m c1)).take n).length = n by rw [List.length_take, HU.out]; omega)
      have SZ := Lib.hid (HG.out.size)
      have HL8 := Lib.hid (show n < us.length by rw [H.out.len]; exact hjl)
      have HSn := HS.out n
      have j0 : (0 : Int) ≤ (n : Int) := by omega
      have j1 : (n : Int) < (N : Int) := by omega
      clear ho hg hjl
      by_cases e : n = k
      · rw [if_pos ⟨e.symm, HL8.out⟩] at HSn
        have HT := Lib.hid HSn
        clear HSn e2 d0
        have f1 : ((n : Int) == (k : Int)) = true := by simp; omega
        clear e
        generalize (us.set k (Value.slice A1 m c1)).take n = ys at HO MO LE
        go_wp2_with (refine append_lst rfl (.tmp 18) (.tmp 20) rfl w.heap.size (.slice A' n c') ys rfl (HO.out.alloc _) wr.heap.size (.slice A1 m c1) rfl (by go_simp) rfl (by have := LE.out; omega) (by have := SZ.out; simp; omega) ?_; intro A3 N3 c3 w2 hn3 own1 gr1; have HN3 := Lib.hid hn3; have OWN1 := Lib.hid own1; have GR1 := Lib.hid gr1; clear hn3 own1 gr1)
        go_roundw
        case rel => exact ⟨n + 1, N3, A3, c3, by omega, by rw [HN3.out]; simp [LE.out], by go_num, rfl, by rw [MO.out, HT.out]; exact OWN1.out, grown_own (HG.out.trans (World.grownBy_alloc _ _ _)) (HO.out.alloc _) GR1.out (Nat.le_refl _)⟩
        case measure => simp [intOf]; omega
      · rw [if_neg (fun h => e h.1.symm), e2] at HSn
        rw [e2] at d0
        have HT := Lib.hid HSn
        clear HSn e2
        have f1 : ((n : Int) == (k : Int)) = false := by simp; omega
        clear e
        generalize (us.set k (Value.slice A1 m c1)).take n = ys at HO MO LE
        generalize (ls.getD n []).length = m2 at *
        go_wp2_with (refine append_lst rfl (.tmp 22) (.tmp 27) rfl w.heap.size (.slice A' n c') ys rfl (HO.out.alloc _) wr.heap.size (.slice B1 m2 e1) rfl (by go_simp) rfl (by have := LE.out; omega) (by have := SZ.out; simp; omega) ?_; intro A3 N3 c3 w2 hn3 own1 gr1; have HN3 := Lib.hid hn3; have OWN1 := Lib.hid own1; have GR1 := Lib.hid gr1; clear hn3 own1 gr1)
        go_roundw
        case rel => exact ⟨n + 1, N3, A3, c3, by omega, by rw [HN3.out]; simp [LE.out], by go_num, rfl, by rw [MO.out, HT.out]; exact OWN1.out, grown_own (HG.out.trans (World.grownBy_alloc _ _ _)) (HO.out.alloc _) GR1.out (Nat.le_refl _)⟩
        case measure => simp [intOf]; omega
    · obtain rfl : n = N := by omega
      go_wp2
      go_ret
      have hu := HU.out
      have hl8 := H.out.len
      have hown := HO.out
      rw [List.take_of_length_le (by rw [hu]; exact Nat.le_refl _), hu] at hown
      refine ⟨A', n, c', _, rfl, by rw [List.length_set]; exact HN.out, ⟨us.set k (.slice A1 m c1), ⟨?_, fun i hi => ?_, H.out.ok.set k HWL.out⟩, rfl⟩, fun q hq => ?_, HG.out⟩
      · rw [List.length_set, ← HN.out]
        exact own_mono hown (Nat.zero_le _)
      · rw [List.length_set] at hi
        by_cases e : k = i
        · subst e
          rw [set_same _ (by rw [hl8]; exact hi), lset_same _ hi]
          exact HL.out.new HG.out
        · rw [set_else _ e, lset_else _ e]
          exact (H.out.each i hi).new HG.out
      · rcases js_of hq with e | ⟨i, hi, e⟩
        · exact .inr (.inr (own_lt hown q e).1)
        · rw [List.length_set] at hi
          by_cases e' : k = i
          · subst e'
            rw [set_same _ hi] at e
            exact .inr (.inl e)
          · rw [set_else _ e'] at e
            exact .inl (js_at hi e)
/-! ### few, Near -/
theorem few_any (A : Option Addr) (n c : Nat) (w : World) (hn : n ≤ c) (hc : c ≤ maxLen) (hA : 0 < n → ∃ ad, A = some ad) :
    Calls Try.prog 10 #[.slice A n c] w fun e w' => (∃ m c', m ≤ 60 ∧ m ≤ n ∧ e = .returned (.slice A m c')) ∧ w = w' := by
  unfold maxLen at hc
  by_cases h : 60 < n
  · obtain ⟨ad, rfl⟩ := hA (by omega)
    clear hA
    have l1 : (60 : Int) ≤ c := by omega
    go_enter Try.func10, Try.ntmps10
    go_wp2
    all_goals
      go_ret
      exact ⟨⟨60, _, by omega, by omega, rfl⟩, rfl⟩
  · clear hA
    go_enter Try.func10, Try.ntmps10
    go_wp2
    go_ret
    exact ⟨⟨n, _, by omega, by omega, rfl⟩, rfl⟩
theorem Near_any (n a b : Int) (w : World) : Calls Try.prog 9 #[.int .i64 n, .int .i64 a, .int .i64 b] w fun e w' => e = .returned (.int .i64 (near n a b)) ∧ w = w' := by
  by_cases h : n < a
  · go_enter Try.func9, Try.ntmps9
    go_wp2
    go_ret
    exact ⟨by simp [near, h], rfl⟩
  by_cases h2 : b < n
  all_goals
    go_enter Try.func9, Try.ntmps9
    go_wp2
    go_ret
    exact ⟨ret_int (by unfold near; repeat' split
                       all_goals omega), rfl⟩
end
end Go.Proofs.Ytljahpjdkkennaa.bf
