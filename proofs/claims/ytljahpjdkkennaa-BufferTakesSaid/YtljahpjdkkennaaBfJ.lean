/- The walk of BufferTakes. -/
import Derived.Test.YtljahpjdkkennaaBfH
import Derived.Test.YtljahpjdkkennaaBmE
namespace Go.Proofs.Ytljahpjdkkennaa.bf
open Go.ChangeShapes Go.WideShapes Go.ChangeAt Go.RowKit gen li
set_option linter.unusedVariables false
set_option maxHeartbeats 16000000
set_option maxRecDepth 100000
/-! ### Plain -/
theorem ins_new {out : List Int} {x : Int} (h : x ∉ out) : (bm.ins out x).length = out.length + 1 := by
  unfold bm.ins
  rw [if_neg h]
  have := congrArg List.length (List.takeWhile_append_dropWhile (p := fun y => decide (y < x)) (l := out))
  rw [List.length_append] at this
  rw [List.length_append, List.length_cons]
  omega
theorem fold_new : ∀ (l out : List Int), l.Nodup → (∀ x ∈ l, x ∉ out) → (l.foldl bm.ins out).length = out.length + l.length
  | [], out, _, _ => by simp
  | x :: l, out, hn, h => by
    rw [List.foldl_cons, fold_new l (bm.ins out x) (List.nodup_cons.1 hn).2 (fun y hy e => ?_), ins_new (h x (by simp)), List.length_cons]
    · omega
    · rcases (bm.mem_ins out x y).1 e with e | e
      · exact h y (by simp [hy]) e
      · subst e
        exact (List.nodup_cons.1 hn).1 hy
theorem rising_new {l : List Int} (h : l.Nodup) : (bm.rising l).length = l.length := by
  have := fold_new l [] h (fun _ _ e => by cases e)
  simpa [bm.rising] using this
theorem tot_append (a b : List (List Int)) : tot (a ++ b) = tot a + tot b := by simp [tot]
theorem tot_set {ls : List (List Int)} {k : Nat} (h : k < ls.length) (l : List Int) : tot (ls.set k l) + (ls.getD k []).length = tot ls + l.length := by
  have e1 : ls = ls.take k ++ (ls.getD k [] :: ls.drop (k + 1)) := by
    rw [← List.singleton_append, ← List.append_assoc, ← take_more h, List.take_append_drop]
  have e2 : ls.set k l = ls.take k ++ (l :: ls.drop (k + 1)) := List.set_eq_take_append_cons_drop.trans (if_pos h)
  have t1 := congrArg tot e1
  rw [tot_append] at t1
  rw [e2, tot_append]
  have c : ∀ (x : List Int) (y : List (List Int)), tot (x :: y) = x.length + tot y := fun x y => by simp [tot]
  rw [c] at t1 ⊢
  omega
/-- Two threads of eight have lists. -/
def P2 (t u : Nat) (l1 l2 : List Int) : List (List Int) := ((List.replicate 8 []).set t l1).set u l2
section
variable {t u : Nat} {l1 l2 : List Int}
theorem P2.len : (P2 t u l1 l2).length = 8 := by simp [P2]
theorem P2.at_t (ht : t < 8) (h : t ≠ u) : (P2 t u l1 l2).getD t [] = l1 := by
  unfold P2
  rw [lset_else _ (Ne.symm h), lset_same _ (by simpa using ht)]
theorem P2.at_u (hu : u < 8) : (P2 t u l1 l2).getD u [] = l2 := by
  unfold P2
  rw [lset_same _ (by simpa using hu)]
theorem P2.set_t (h : t ≠ u) (x : List Int) : (P2 t u l1 l2).set t x = P2 t u x l2 := by
  unfold P2
  rw [List.set_comm _ _ (Ne.symm h), List.set_set]
theorem P2.set_u (x : List Int) : (P2 t u l1 l2).set u x = P2 t u l1 x := by
  unfold P2
  rw [List.set_set]
theorem P2.zero : P2 t u [] [] = List.replicate 8 [] := by
  have e : ∀ k, (List.replicate 8 ([] : List Int)).set k [] = List.replicate 8 [] := fun k => by
    apply List.ext_getElem?
    intro i
    rw [List.getElem?_set]
    split
    · split
      · rename_i h1 h2
        rw [List.getElem?_replicate]
        simp at h2
        rw [if_pos (by omega)]
      · rename_i h1 h2
        rw [List.getElem?_eq_none (by omega)]
    · rfl
  unfold P2
  rw [e, e]
theorem P2.tot (ht : t < 8) (hu : u < 8) (h : t ≠ u) : bf.tot (P2 t u l1 l2) = l1.length + l2.length := by
  have a := tot_set (ls := List.replicate 8 []) (k := t) (by simpa using ht) l1
  have b := tot_set (ls := (List.replicate 8 []).set t l1) (k := u) (by simpa using hu) l2
  rw [lrep_at, tot_rep] at a
  rw [lset_else _ h, lrep_at] at b
  unfold P2
  rw [List.length_nil] at a b
  omega
end
/-- A number appended to a list of one's own, and where the list then lies. -/
theorem append_own {w : World} {ops : Array Oper} {rest : List Oper} {o : Oper} {a : Act} {Q : Exit → Act → World → Prop} (hgd : o.guard = none) (s x : Operand) (ho : o.op = .call { callee := .builtin .append, args := #[s, x], argTypes := #[32, 32] })
    (v : Value) (xs : List Int) (hs : a.eval s = v) (hl : Li w v xs) (b : Nat) (z : Int) (hx : a.eval x = .slice (some ⟨b, 0, none⟩) 1 1)
    (hz : w.cell? ⟨b, 0, none⟩ = some (.int .i64 z)) (hm : xs.length ≤ 1048576)
    (h : ∀ A' N' c' w', N' = (xs ++ [z]).length → Li w' (.slice A' N' c') (xs ++ [z]) → w.grownBy w' v.ownBlock → (∀ q, (Value.slice A' N' c').ownBlock = some q → v.ownBlock = some q ∨ w.heap.size ≤ q) → wpList Try.prog ops Q rest (a.put o.dst (.slice A' N' c')) w') : wpList Try.prog ops Q (o :: rest) a w := by
  obtain ⟨i0, hi, hz0, hz1, hz2⟩ := info_parts info_int
  refine wpList_append_lies w hgd s x 32 ho 0 3 i0 (.int .i64 0) 1 8 Try.underlying32 hi hz0 hz1 hz2 rfl (by omega) v xs.length (ints xs) hs hl ⟨b, 0, none⟩ 1 1 [.int .i64 z] hx rfl
    (fun j u hj => ?_) (fun u hu => by simp at hu; subst hu; rfl) (by omega) (by unfold maxLen; omega) (by omega) (Nat.zero_le _) _ rfl (fun g c' w' h1 h2 h3 h4 => ?_)
  · match j, hj with
    | 0, hj => simp at hj; subst hj; simpa [Addr.add] using hz
  · refine h _ (xs.length + 1) c' w' (by simp) ?_ h2 (fun q e => by injection e with e; subst e; exact h3.elim .inl (fun e => .inr (Nat.le_of_eq e.symm)))
    have e : ints (xs ++ [z]) = ints xs ++ [.int .i64 z] := by simp [ints]
    unfold Li
    rw [e, List.length_append]
    exact h1
/-- What stands while it goes on: buffers that the call made, and two lists of its own, apart from them and from each other. -/
structure Tk (w : World) (K : List Nat) (g : Nat) (ls : List (List Int)) (v1 : Value) (l1 : List Int) (v2 : Value) (l2 : List Int) (W : World) : Prop where
  al : Al w K g ls W
  li1 : Li W v1 l1
  of1 : ∀ q, v1.ownBlock = some q → q ∉ K ∧ w.heap.size ≤ q
  li2 : Li W v2 l2
  of2 : ∀ q, v2.ownBlock = some q → q ∉ K ∧ w.heap.size ≤ q
  ne : ∀ q, v1.ownBlock = some q → v2.ownBlock ≠ some q
section
variable {w W W2 : World} {K K2 : List Nat} {g : Nat} {ls ls2 : List (List Int)} {v1 v2 v3 : Value} {l1 l2 l3 : List Int}
theorem Tk.new (h : Tk w K g ls v1 l1 v2 l2 W) (hg : W.grownBy W2 none) : Tk w K g ls v1 l1 v2 l2 W2 := ⟨h.al.new hg, h.li1.new hg, h.of1, h.li2.new hg, h.of2, h.ne⟩
theorem Tk.swap (h : Tk w K g ls v1 l1 v2 l2 W) : Tk w K g ls v2 l2 v1 l1 W := ⟨h.al, h.li2, h.of2, h.li1, h.of1, fun q e e2 => h.ne q e2 e⟩
theorem Tk.write (h : Tk w K g ls v1 l1 v2 l2 W) (hb : Bf W2 K2 g ls2) (hk : ∀ q, q ∈ K2 → q ∈ K ∨ W.heap.size ≤ q) (hg : Gr K W W2) : Tk w K2 g ls2 v1 l1 v2 l2 W2 := by
  refine ⟨h.al.write hb hk hg, h.li1.gr hg (fun q e => (h.of1 q e).1), fun q e => ⟨fun hq => ?_, (h.of1 q e).2⟩, h.li2.gr hg (fun q e => (h.of2 q e).1), fun q e => ⟨fun hq => ?_, (h.of2 q e).2⟩, h.ne⟩
  · rcases hk q hq with e2 | e2
    · exact (h.of1 q e).1 e2
    · have := h.li1.lt q e; omega
  · rcases hk q hq with e2 | e2
    · exact (h.of2 q e).1 e2
    · have := h.li2.lt q e; omega
theorem Tk.one (h : Tk w K g ls v1 l1 v2 l2 W) (hl : Li W2 v3 l3) (hg : W.grownBy W2 v1.ownBlock) (hq : ∀ q, v3.ownBlock = some q → v1.ownBlock = some q ∨ W.heap.size ≤ q) : Tk w K g ls v3 l3 v2 l2 W2 := by
  have G : Gr v1.ownBlock.toList W W2 := .of hg (fun q e => by simp [e])
  have nin : ∀ q, q ∉ K ∨ q ∈ K := fun q => (Classical.em (q ∈ K)).symm
  refine ⟨⟨h.al.bf.gr G (fun q hq hq2 => ?_), h.al.le, Gr.grown h.al.grown G (fun q hq2 => ?_)⟩, hl, fun q e => ?_, h.li2.gr G (fun q e hq2 => ?_), h.of2, fun q e e2 => ?_⟩
  · simp at hq2
    exact (h.of1 q hq2).1 hq
  · simp at hq2
    exact (h.of1 q hq2).2
  · rcases hq q e with e1 | e1
    · exact h.of1 q e1
    · exact ⟨fun hk => by have := h.al.bf.lt q hk; omega, Nat.le_trans h.al.grown.size e1⟩
  · simp at hq2
    exact h.ne q hq2 e
  · rcases hq q e with e1 | e1
    · exact h.ne q e1 e2
    · have := h.li2.lt q e2; omega
/-! ### The walk -/
theorem clear_at {t u : Nat} (h : Bf w K g (P2 t u l1 l2)) (ht : t < 8) (hu : u < 8) (hn : t ≠ u) : Calls Try.prog 15 #[.pointer (some ⟨g, 0, none⟩)] w fun r w' => ∃ K', r = .returned (.int .i64 ((l1.length + l2.length : Nat) : Int)) ∧ (∀ q, q ∈ K' → q ∈ K) ∧ Bf w' K' g (List.replicate 8 []) ∧ Gr K w w' := by
  have := Clear_any h
  unfold ClearA at this
  rw [P2.tot ht hu hn, P2.len] at this
  exact this
theorem clear_no {t u N : Nat} (h : Bf w K g (P2 t u [] l2)) (ht : t < 8) (hu : u < 8) (hn : t ≠ u) (hN : N = l2.length) : Calls Try.prog 15 #[.pointer (some ⟨g, 0, none⟩)] w fun r w' => ∃ K', r = .returned (.int .i64 (N : Int)) ∧ (∀ q, q ∈ K' → q ∈ K) ∧ Bf w' K' g (List.replicate 8 []) ∧ Gr K w w' := by
  have := clear_at h ht hu hn
  rw [List.length_nil, Nat.zero_add, ← hN] at this
  exact this
theorem empty_at (h : Bf w K g (List.replicate 8 [])) : Calls Try.prog 16 #[.pointer (some ⟨g, 0, none⟩)] w fun r w' => r = .returned (.bool true) ∧ w = w' := Empty_any h
theorem rising_at {A : Option Addr} {N c : Nat} (h : Li w (.slice A N c) l1) (hN : N = l1.length) (hw : Wl l1) : Calls Try.prog 14 #[.slice A N c] w fun r w' => ∃ A' c', r = .returned (.slice A' N c') ∧ w.grownBy w' none := by
  have hm := hw.room
  refine (bm.Rising_any (B := 0) (by omega) (h.rd hN)).mono ?_
  rintro r w' ⟨A', c', rfl, _, hg⟩
  rw [rising_new hw.1, ← hN]
  exact ⟨A', c', rfl, hg⟩
theorem take_t {t u : Nat} (h : Bf w K g (P2 t u l1 l2)) (ht : t < 8) (hn : t ≠ u) : Calls Try.prog 12 #[.pointer (some ⟨g, 0, none⟩), .int .i64 (t : Int)] w (TakeA K g l1 (P2 t u [] l2) w) := by
  have := Take_in h t (by rw [P2.len]; exact ht)
  rw [P2.at_t ht hn, P2.set_t hn] at this
  exact this
theorem put_t {t u : Nat} (h : Bf w K g (P2 t u l1 l2)) (ht : t < 8) (hn : t ≠ u) (a : Int) (h1 : 0 ≤ a) (h2 : a < 2048) (h3 : a ∉ l1) : Calls Try.prog 11 #[.pointer (some ⟨g, 0, none⟩), .int .i64 (t : Int), .int .i64 a] w (PutA K g (P2 t u (l1 ++ [a]) l2) w) := by
  have := Put_yes h t (by rw [P2.len]; exact ht) a h1 h2 (by rw [P2.at_t ht hn]; exact h3)
  rw [P2.at_t ht hn, P2.set_t hn] at this
  exact this
theorem put_u {t u : Nat} (h : Bf w K g (P2 t u l1 l2)) (hu : u < 8) (a : Int) (h1 : 0 ≤ a) (h2 : a < 2048) (h3 : a ∉ l2) : Calls Try.prog 11 #[.pointer (some ⟨g, 0, none⟩), .int .i64 (u : Int), .int .i64 a] w (PutA K g (P2 t u l1 (l2 ++ [a])) w) := by
  have := Put_yes h u (by rw [P2.len]; exact hu) a h1 h2 (by rw [P2.at_u hu]; exact h3)
  rw [P2.at_u hu, P2.set_u] at this
  exact this
theorem put_t_no {t u : Nat} (h : Bf w K g (P2 t u l1 l2)) (ht : t < 8) (hn : t ≠ u) (a : Int) (h3 : a < 0 ∨ 2048 ≤ a ∨ a ∈ l1) : Calls Try.prog 11 #[.pointer (some ⟨g, 0, none⟩), .int .i64 (t : Int), .int .i64 a] w fun r w' => r = .returned (.bool false) ∧ w = w' :=
  Put_no h t (by rw [P2.len]; exact ht) a (by rw [P2.at_t ht hn]; exact h3)
theorem put_u_no {t u : Nat} (h : Bf w K g (P2 t u l1 l2)) (hu : u < 8) (a : Int) (h3 : a < 0 ∨ 2048 ≤ a ∨ a ∈ l2) : Calls Try.prog 11 #[.pointer (some ⟨g, 0, none⟩), .int .i64 (u : Int), .int .i64 a] w fun r w' => r = .returned (.bool false) ∧ w = w' :=
  Put_no h u (by rw [P2.len]; exact hu) a (by rw [P2.at_u hu]; exact h3)
end
theorem BufferTakes_any (A : Option Addr) (n c : Nat) (xs : List Int) (B : Option Addr) (m d : Nat) (ys : List Int) (t u : Int) (w : World) (hn : n ≤ c) (hm : m ≤ d) (hc : c ≤ maxLen) (hd : d ≤ maxLen) (r1 : Rd w w.heap.size A n c xs) (r2 : Rd w w.heap.size B m d ys) :
    Calls Try.prog 4 #[.slice A n c, .slice B m d, .int .i64 t, .int .i64 u] w fun e w' => e = .returned (.bool true) ∧ w.grownBy w' none := by
  obtain ⟨p, hp, p8⟩ := near_nat t 7
  obtain ⟨q, hq, q8⟩ := near_nat u 7
  have NT := Lib.hid (fun w => (show Calls Try.prog 9 #[.int .i64 t, .int .i64 0, .int .i64 7] w (fun e w' => e = .returned (.int .i64 (p : Int)) ∧ w = w') from hp ▸ Near_any t 0 7 w))
  have NU := Lib.hid (fun w => (show Calls Try.prog 9 #[.int .i64 u, .int .i64 0, .int .i64 7] w (fun e w' => e = .returned (.int .i64 (q : Int)) ∧ w = w') from hq ▸ Near_any u 0 7 w))
  clear hp hq
  unfold maxLen at hc hd
  by_cases he : p = q
  · have e1 : ((p : Int) == (q : Int)) = true := by simp; omega
    clear he r1 r2
    go_enter Try.func4, Try.ntmps4
    go_wp2_with (first
      | (go_at_call 6; (with_reducible refine (alive_any _).mono ?_); rintro r w1 ⟨rfl, hg⟩; have G1 := Lib.hid hg; clear hg)
      | (go_at_call 9; (with_reducible refine (NT.out _).mono ?_); rintro r w' ⟨rfl, hw⟩; subst hw)
      | (go_at_call 9; (with_reducible refine (NU.out _).mono ?_); rintro r w' ⟨rfl, hw⟩; subst hw))
    go_ret
    exact ⟨rfl, G1.out⟩
  have e1 : ((p : Int) == (q : Int)) = false := by simp; omega
  have PQ := Lib.hid (show p ≠ q from he)
  have P8 := Lib.hid (show p < 8 by omega)
  have Q8 := Lib.hid (show q < 8 by omega)
  have R1 := Lib.hid r1
  have R2 := Lib.hid r2
  have NW := Lib.hid (fun W (hg : w.grownBy W none) => (New_any 8 8 (by decide) (by omega) W).mono (fun r w' (h : NewA _ W r w') => (show ∃ g K, r = .returned (.pointer (some ⟨g, 0, none⟩)) ∧ Tk w K g (P2 p q [] []) (.slice none 0 0) [] (.slice none 0 0) [] w' from by
    obtain ⟨g, K, e, hb, hK, hg2⟩ := h
    rw [← P2.zero (t := p) (u := q)] at hb
    exact ⟨g, K, e, ⟨hb, fun q hq => Nat.le_trans hg.size (hK q hq), hg.trans hg2⟩, Li.nil _, fun q e => (by cases e), Li.nil _, fun q e => (by cases e), fun q e => (by cases e)⟩)))
  clear he r1 r2
  go_enter Try.func4, Try.ntmps4
  go_wp2_with (first
    | (go_at_call 6; (with_reducible refine (alive_any _).mono ?_); rintro r w1 ⟨rfl, hg⟩; have G1 := Lib.hid hg; clear hg)
    | (go_at_call 9; (with_reducible refine (NT.out _).mono ?_); rintro r w' ⟨rfl, hw⟩; subst hw)
    | (go_at_call 9; (with_reducible refine (NU.out _).mono ?_); rintro r w' ⟨rfl, hw⟩; subst hw)
    | (go_at_call 8; (with_reducible refine (NW.out _ G1.out).mono ?_); rintro r w2 ⟨g, K0, rfl, ht⟩; have T0 := Lib.hid ht; clear ht))
  go_loopw [10, 12] (fun v i wr => ∃ (k : Nat) (K : List Nat) (A1 : Option Addr) (N1 c1 : Nat) (l1 : List Int), k ≤ n ∧ k ≤ 40 ∧ i = .int .i64 k ∧ v = .slice A1 N1 c1 ∧ N1 = l1.length ∧ N1 ≤ k ∧ Wl l1 ∧ Tk w K g (P2 p q l1 []) (.slice A1 N1 c1) l1 (.slice none 0 0) [] wr) (fun _ i _ => n - (intOf i).toNat)
  case atStart => exact ⟨0, K0, none, 0, 0, [], Nat.zero_le _, Nat.zero_le _, rfl, rfl, rfl, Nat.le_refl _, Wl.nil, T0.out⟩
  case round =>
    obtain ⟨k, K, A1, N1, c1, l1, hk, hk40, rfl, rfl, hN1, hNk, hw1, hT⟩ := hrel
    have T := Lib.hid hT
    have HN1 := Lib.hid hN1
    have W1 := Lib.hid hw1
    have k0 : (0 : Int) ≤ (k : Int) := by omega
    by_cases hlt : k < n ∧ k < 40
    · obtain ⟨b1, o1, rfl, d0⟩ := R1.out.at_ hlt.1
      generalize xs.getD k 0 = a at d0
      have d1 := hT.al.grown.cell d0 (by simp)
      have k1 : (k : Int) < (n : Int) := by omega
      have g1 : decide ((k : Int) < (n : Int)) = true := decide_eq_true k1
      have g2 : decide ((k : Int) < 40) = true := decide_eq_true (by omega)
      by_cases ha : a < 0 ∨ 2048 ≤ a ∨ a ∈ l1
      · have PN := Lib.hid (put_t_no hT.al.bf P8.out PQ.out a ha)
        clear hT hw1 ha hN1
        go_wp2_with (go_at_call 11; (with_reducible refine PN.out.mono ?_); rintro r w' ⟨rfl, hw⟩; subst hw)
        go_roundw
        case rel => exact ⟨k + 1, K, A1, N1, c1, l1, by omega, by omega, by go_num, rfl, HN1.out, by omega, W1.out, T.out⟩
        case measure => simp [intOf]; omega
      · have hb : 0 ≤ a ∧ a < 2048 ∧ a ∉ l1 := ⟨by omega, by omega, fun h => ha (.inr (.inr h))⟩
        have PY := Lib.hid (put_t hT.al.bf P8.out PQ.out a hb.1 hb.2.1 hb.2.2)
        have W3 := Lib.hid (hw1.put hb.1 hb.2.1 hb.2.2)
        have D0 := Lib.hid d0
        clear hT hw1 ha hN1 hb d0
        go_wp2_with (first
          | (go_at_call 11; (with_reducible refine PY.out.mono ?_); rintro r w4 ⟨rfl, K4, hk4, hb4, hg4⟩; have T4 := Lib.hid (T.out.write hb4 hk4 hg4); have d4 := T4.out.al.grown.cell D0.out (by simp); clear hk4 hb4 hg4)
          | (refine append_own rfl (.tmp 43) (.tmp 48) rfl (.slice A1 N1 c1) l1 rfl (T4.out.new (World.grownBy_alloc _ _ _)).li1 w4.heap.size a rfl (by go_simp) (by have := HN1.out; omega) ?_; intro A5 N5 c5 w5 hn5 li5 gr5 ls5; have T5 := Lib.hid ((T4.out.new (World.grownBy_alloc _ _ _)).one li5 gr5 ls5); have HN5 := Lib.hid hn5; clear hn5 li5 gr5 ls5))
        go_roundw
        case rel => exact ⟨k + 1, K4, A5, N5, c5, l1 ++ [a], by omega, by omega, by go_num, rfl, HN5.out, by rw [HN5.out, List.length_append, ← HN1.out]; simp; omega, W3.out, T5.out⟩
        case measure => simp [intOf]; omega
    · have gg : (¬ k < n) ∨ (k < n ∧ ¬ ((k : Int) < 40)) := by
        by_cases e : k < n
        · exact .inr ⟨e, by omega⟩
        · exact .inl e
      have h40 : N1 ≤ 40 := by omega
      clear hT hlt hw1 hN1
      rcases gg with gg | ⟨gg, gg2⟩
      all_goals
        go_wp2
        go_loopw [11, 13] (fun v i wr => ∃ (k : Nat) (K : List Nat) (A2 : Option Addr) (N2 c2 : Nat) (l2 : List Int), k ≤ m ∧ k ≤ 40 ∧ i = .int .i64 k ∧ v = .slice A2 N2 c2 ∧ N2 = l2.length ∧ N2 ≤ k ∧ Wl l2 ∧ Tk w K g (P2 p q l1 l2) (.slice A1 N1 c1) l1 (.slice A2 N2 c2) l2 wr) (fun _ i _ => m - (intOf i).toNat)
        case atStart => exact ⟨0, K, none, 0, 0, [], Nat.zero_le _, Nat.zero_le _, rfl, rfl, rfl, Nat.le_refl _, Wl.nil, T.out⟩
        case round =>
          clear T
          obtain ⟨k2, K2, A2, N2, c2, l2, hk2, hk240, rfl, rfl, hN2, hNk2, hw2, hT⟩ := hrel
          have T := Lib.hid hT
          have HN2 := Lib.hid hN2
          have W2 := Lib.hid hw2
          have k20 : (0 : Int) ≤ (k2 : Int) := by omega
          by_cases hlt : k2 < m ∧ k2 < 40
          · obtain ⟨b1, o1, rfl, d0⟩ := R2.out.at_ hlt.1
            generalize ys.getD k2 0 = a at d0
            have d1 := hT.al.grown.cell d0 (by simp)
            have k21 : (k2 : Int) < (m : Int) := by omega
            have g1 : decide ((k2 : Int) < (m : Int)) = true := decide_eq_true k21
            have g2 : decide ((k2 : Int) < 40) = true := decide_eq_true (by omega)
            by_cases ha : a < 0 ∨ 2048 ≤ a ∨ a ∈ l2
            · have PN := Lib.hid (put_u_no hT.al.bf Q8.out a ha)
              clear hT hw2 ha hN2
              go_wp2_with (go_at_call 11; (with_reducible refine PN.out.mono ?_); rintro r w' ⟨rfl, hw⟩; subst hw)
              go_roundw
              case rel => exact ⟨k2 + 1, K2, A2, N2, c2, l2, by omega, by omega, by go_num, rfl, HN2.out, by omega, W2.out, T.out⟩
              case measure => simp [intOf]; omega
            · have hb : 0 ≤ a ∧ a < 2048 ∧ a ∉ l2 := ⟨by omega, by omega, fun h => ha (.inr (.inr h))⟩
              have PY := Lib.hid (put_u hT.al.bf Q8.out a hb.1 hb.2.1 hb.2.2)
              have W3 := Lib.hid (hw2.put hb.1 hb.2.1 hb.2.2)
              have D0 := Lib.hid d0
              clear hT hw2 ha hN2 hb d0
              go_wp2_with (first
                | (go_at_call 11; (with_reducible refine PY.out.mono ?_); rintro r w4 ⟨rfl, K4, hk4, hb4, hg4⟩; have T4 := Lib.hid (T.out.write hb4 hk4 hg4); have d4 := T4.out.al.grown.cell D0.out (by simp); clear hk4 hb4 hg4)
                | (refine append_own rfl (.tmp 67) (.tmp 72) rfl (.slice A2 N2 c2) l2 rfl (T4.out.new (World.grownBy_alloc _ _ _)).li2 w4.heap.size a rfl (by go_simp) (by have := HN2.out; omega) ?_; intro A5 N5 c5 w5 hn5 li5 gr5 ls5; have T5 := Lib.hid ((T4.out.new (World.grownBy_alloc _ _ _)).swap.one li5 gr5 ls5).swap; have HN5 := Lib.hid hn5; clear hn5 li5 gr5 ls5))
              go_roundw
              case rel => exact ⟨k2 + 1, K4, A5, N5, c5, l2 ++ [a], by omega, by omega, by go_num, rfl, HN5.out, by rw [HN5.out, List.length_append, ← HN2.out]; simp; omega, W3.out, T5.out⟩
              case measure => simp [intOf]; omega
          · have gg : (¬ k2 < m) ∨ (k2 < m ∧ ¬ ((k2 : Int) < 40)) := by
              by_cases e : k2 < m
              · exact .inr ⟨e, by omega⟩
              · exact .inl e
            have TA := Lib.hid (take_t hT.al.bf P8.out PQ.out)
            clear hT hlt hw2 hN2
            rcases gg with gg | ⟨gg, gg2⟩
            all_goals
              go_wp2_with (first
                | (have mark := T7; go_at_call 16; (with_reducible refine (empty_at T7.out.al.bf).mono ?_); rintro r w' ⟨rfl, hw⟩; subst hw)
                | (have mark := T6; go_at_call 15; (with_reducible refine (clear_no T6.out.al.bf P8.out Q8.out PQ.out HN2.out).mono ?_); rintro r w7 ⟨K7, rfl, hk7, hb7, hg7⟩; have T7 := Lib.hid (T6.out.write hb7 (fun q h => .inl (hk7 q h)) hg7); clear hk7 hb7 hg7)
                | (have mark := T5; go_at_call 14; (with_reducible refine (rising_at T5.out.li1 HN1.out W1.out).mono ?_); rintro r w6 ⟨A6, c6, rfl, hg6⟩; have T6 := Lib.hid (T5.out.new hg6); clear hg6)
                | (have mark := T4; go_at_call 13; (with_reducible refine TI.out.mono ?_); rintro r w5 ⟨rfl, q5, rfl⟩; have T5 := Lib.hid (T4.out.new (li.grown_drewN _ q5 none)))
                | (have mark := T3; go_at_call 12; (with_reducible refine (take_t T3.out.al.bf P8.out PQ.out).mono ?_); rintro r w4 ⟨A4, N4, c4, K4, rfl, hn4, _, hk4, _, hb4, hg4⟩; obtain rfl : N4 = 0 := hn4; have T4 := Lib.hid (T3.out.write hb4 (fun q h => .inl (hk4 q h)) (hg4.mono hk4)); have TI := Lib.hid (Ints_true l1 A3 A1 N3 N1 c3 c1 _ _ _ (by have := HN3.out; have := HN1.out; omega) (HN3.out.trans HN1.out.symm) ((L3.out.gr (hg4.mono hk4) X3.out).rd HN3.out) (T4.out.li1.rd HN1.out)); clear hk4 hb4 hg4)
                | (go_at_call 12; (with_reducible refine TA.out.mono ?_); rintro r w3 ⟨A3, N3, c3, K3, rfl, hn3, hl3, hk3, hx3, hb3, hg3⟩; have T3 := Lib.hid (T.out.write hb3 (fun q h => .inl (hk3 q h)) (hg3.mono hk3)); have HN3 := Lib.hid hn3; have L3 := Lib.hid hl3; have X3 := Lib.hid hx3; clear hn3 hl3 hk3 hx3 hb3 hg3))
              go_ret
              exact ⟨rfl, T7.out.al.grown⟩
end Go.Proofs.Ytljahpjdkkennaa.bf
