/- The statement's own book: of, set, begin, few; two lists of the call's own beside each other. -/
import Derived.Test.YtahiagaocnmjpaaEpC
namespace Go.Proofs.Ytahiagaocnmjpaa.ep
open Go.ChangeShapes Go.WideShapes Go.ChangeAt Go.RowKit gen li
set_option linter.unusedVariables false
set_option maxHeartbeats 4000000
set_option maxRecDepth 100000

/-- A boxed book. -/
def Bx (w : World) (B : Nat) (v : Value) (e : Int) : Prop := w.heap[B]? = some (.cells #[v, .int .i64 e] 26 (0, 0))
theorem Bx.lt {w : World} {B : Nat} {v : Value} {e : Int} (h : Bx w B v e) : B < w.heap.size := (Array.getElem?_eq_some_iff.1 h).1
theorem Bx.kept {w w' : World} {B : Nat} {v : Value} {e : Int} {row : Option Nat} (h : Bx w B v e) (hg : w.grownBy w' row) (hr : some B ≠ row) : Bx w' B v e := (hg.block B h.lt hr).trans h
theorem Bx.new {w w' : World} {B : Nat} {v : Value} {e : Int} (h : Bx w B v e) (hg : w.grownBy w' none) : Bx w' B v e := h.kept hg (by simp)
theorem Bx.made (w : World) (v : Value) (e : Int) : Bx (w.alloc (.cells #[v, .int .i64 e] 26)) w.heap.size v e := heap_alloc_new _ _
theorem Bx.made1 (w : World) (o : Obj) (v : Value) (e : Int) : Bx ((w.alloc o).alloc (.cells #[v, .int .i64 e] 26)) (w.heap.size + 1) v e := by
  have := Bx.made (w.alloc o) v e
  rwa [show (w.alloc o).heap.size = w.heap.size + 1 by simp] at this
theorem Bx.cells {w : World} {B : Nat} {v : Value} {e : Int} (h : Bx w B v e) : w.cell? ⟨B, 0, none⟩ = some v ∧ w.cell? ⟨B, 1, none⟩ = some (.int .i64 e) ∧ w.frozen? ⟨B, 0, none⟩ = false ∧ w.frozen? ⟨B, 1, none⟩ = false :=
  ⟨by rw [cell_of_row w B 0 _ _ _ h]; rfl, by rw [cell_of_row w B 1 _ _ _ h]; rfl, frozen_of_row w B 0 _ _ h, frozen_of_row w B 1 _ _ h⟩
/-- A list of the call's own. -/
def Li (w : World) (v : Value) (m : List Int) : Prop := w.ownsRow 0 3 1 v m.length (ints m)
section
variable {w w' : World} {v : Value} {m : List Int}
theorem Li.kept {row : Option Nat} (h : Li w v m) (hg : w.grownBy w' row) (hr : v.ownBlock = none ∨ v.ownBlock ≠ row) : Li w' v m := World.ownsRow.kept h hg hr
theorem Li.new (h : Li w v m) (hg : w.grownBy w' none) : Li w' v m := h.kept hg (by cases v.ownBlock <;> simp)
theorem Li.nil (w : World) : Li w (.slice none 0 0) [] := World.ownsRow_nil _ _ _ _
theorem Li.off {k : Nat} {o : Obj} (h : Li w v m) (hk : w.heap[k]? = some o) (hn : ∀ cs z, o ≠ .cells cs 3 z) : v.ownBlock ≠ some k := fun e => by
  rcases h.2 with ⟨rfl, _⟩ | ⟨g, cap, cur, rfl, _, hg, _⟩
  · cases e
  · injection e with e
    subst e
    rw [hg] at hk
    injection hk with hk
    exact hn _ _ hk.symm
theorem Li.off_g {g : Nat} {b : Bool} {e : Nat} {l : List Int} (h : Li w v m) (hr : Rg w g b e l) : v.ownBlock ≠ some g := h.off hr.1 (fun cs z => by simp)
theorem Li.rd {A : Option Addr} {N c : Nat} (h : Li w (.slice A N c) m) (hN : N = m.length) : Rd w w.heap.size A N c m := by
  subst hN
  exact rd_own h
end
/-- Two lists of the call's own, apart. -/
structure Dl (w : World) (v1 v2 : Value) (xs ys : List Int) (wr : World) : Prop where
  own1 : wr.ownsRow w.heap.size 3 1 v1 xs.length (ints xs)
  own2 : wr.ownsRow w.heap.size 3 1 v2 ys.length (ints ys)
  ne : ∀ q, v1.ownBlock = some q → v2.ownBlock ≠ some q
  grown : w.grownBy wr none
section
variable {w wr w1 w2 : World} {v1 v2 : Value} {xs ys : List Int}
theorem own_lt {base n : Nat} {v : Value} {t : TypeId} {l : List Value} (h : w.ownsRow base t 1 v n l) : ∀ q, v.ownBlock = some q → base ≤ q ∧ q < w.heap.size := fun q e => by
  rcases h.2 with ⟨rfl, _⟩ | ⟨g, cap, cur, rfl, hb, hg, _⟩
  · cases e
  · injection e with e
    subst e
    exact ⟨hb, (Array.getElem?_eq_some_iff.1 hg).1⟩
theorem own_at {base q n c k : Nat} {t : TypeId} {l : List Int} (h : w.ownsRow base t 1 (.slice (some ⟨q, 0, none⟩) n c) n (l.map (Value.int .i64))) (hk : k < n) : w.cell? ⟨q, k, none⟩ = some (.int .i64 (l.getD k 0)) := by
  have hl : l.length = n := by have := h.1; simpa using this
  rw [h.cellAt k (by omega), List.getElem?_map, List.getD_eq_getElem?_getD, List.getElem?_eq_getElem (by omega)]
  rfl
theorem Dl.start (w : World) : Dl w (.slice none 0 0) (.slice none 0 0) [] [] w := ⟨World.ownsRow_nil _ _ _ _, World.ownsRow_nil _ _ _ _, fun q e => (by cases e), World.grownBy.refl _ _⟩
theorem Dl.new (h : Dl w v1 v2 xs ys wr) (hg : wr.grownBy w2 none) : Dl w v1 v2 xs ys w2 :=
  ⟨h.own1.kept hg (by cases v1.ownBlock <;> simp), h.own2.kept hg (by cases v2.ownBlock <;> simp), h.ne, h.grown.trans hg⟩
theorem Dl.one (h : Dl w v1 v2 xs ys w1) {g c n : Nat} {z : Int} (ho : w2.ownsRow w.heap.size 3 1 (.slice (some ⟨g, 0, none⟩) n c) (xs ++ [z]).length (ints (xs ++ [z]))) (hg : w1.grownBy w2 v1.ownBlock) (hl : v1.ownBlock = some g ∨ g = w1.heap.size) :
    Dl w (.slice (some ⟨g, 0, none⟩) n c) v2 (xs ++ [z]) ys w2 := by
  refine ⟨ho, h.own2.kept hg ?_, fun q e => ?_, h.grown.andThen hg (fun q e => .inl (own_lt h.own1 q e).1)⟩
  · rcases hv : v2.ownBlock with _ | q
    · exact .inl rfl
    · exact .inr fun e => h.ne q e.symm hv
  · injection e with e
    subst e
    rcases hl with hl | hl
    · exact h.ne _ hl
    · intro e
      have := (own_lt h.own2 _ e).2
      dsimp only at *
      omega
theorem Dl.two (h : Dl w v1 v2 xs ys w1) {g c n : Nat} {z : Int} (ho : w2.ownsRow w.heap.size 3 1 (.slice (some ⟨g, 0, none⟩) n c) (ys ++ [z]).length (ints (ys ++ [z]))) (hg : w1.grownBy w2 v2.ownBlock) (hl : v2.ownBlock = some g ∨ g = w1.heap.size) :
    Dl w v1 (.slice (some ⟨g, 0, none⟩) n c) xs (ys ++ [z]) w2 := by
  refine ⟨h.own1.kept hg ?_, ho, fun q e1 e => ?_, h.grown.andThen hg (fun q e => .inl (own_lt h.own2 q e).1)⟩
  · rcases hv : v1.ownBlock with _ | q
    · exact .inl rfl
    · exact .inr fun e => h.ne q hv e.symm
  · injection e with e
    subst e
    rcases hl with hl | hl
    · exact h.ne _ e1 hl
    · have := (own_lt h.own1 _ e1).2
      dsimp only at *
      omega
end
/-- A number appended to a list of one's own, and where the list then lies. -/
theorem append_lies {w : World} {ops : Array Oper} {rest : List Oper} {o : Oper} {a : Act} {Q : Exit → Act → World → Prop} (hgd : o.guard = none) (s x : Operand) (ho : o.op = .call { callee := .builtin .append, args := #[s, x], argTypes := #[24, 24] })
    (base : Nat) (v : Value) (xs : List Int) (hs : a.eval s = v) (hown : w.ownsRow base 3 1 v xs.length (ints xs)) (b : Nat) (z : Int) (hx : a.eval x = .slice (some ⟨b, 0, none⟩) 1 1)
    (hz : w.cell? ⟨b, 0, none⟩ = some (.int .i64 z)) (hm : xs.length ≤ 1048576) (hbase : base ≤ w.heap.size) (H : Nat) (hH : w.heap.size = H)
    (h : ∀ g N' c' w', N' = (xs ++ [z]).length → w'.ownsRow base 3 1 (.slice (some ⟨g, 0, none⟩) N' c') (xs ++ [z]).length (ints (xs ++ [z])) → w.grownBy w' v.ownBlock → (v.ownBlock = some g ∨ g = H) → wpList Try.prog ops Q rest (a.put o.dst (.slice (some ⟨g, 0, none⟩) N' c')) w') : wpList Try.prog ops Q (o :: rest) a w := by
  obtain ⟨i0, hi, hz0, hz1, hz2⟩ := info_parts info_int
  refine wpList_append_lies w hgd s x 24 ho base 3 i0 (.int .i64 0) 1 8 Try.underlying24 hi hz0 hz1 hz2 rfl (by omega) v xs.length (ints xs) hs hown ⟨b, 0, none⟩ 1 1 [.int .i64 z] hx rfl
    (fun j u hj => ?_) (fun u hu => by simp at hu; subst hu; rfl) (by omega) (by unfold maxLen; omega) (by omega) hbase H hH (fun g c' w' h1 h2 h3 h4 => ?_)
  · match j, hj with
    | 0, hj => simp at hj; subst hj; simpa [Addr.add] using hz
  · refine h g (xs.length + 1) c' w' (by simp) ?_ h2 h3
    have e : ints (xs ++ [z]) = ints xs ++ [.int .i64 z] := by simp [ints]
    rw [e, List.length_append]
    exact h1
section
variable {w : World} {g : Nat} {e : Nat} {m : List Int}
theorem few_any (A : Option Addr) (n c : Nat) (w : World) (hn : n ≤ c) (hc : c ≤ maxLen) (hA : 0 < n → ∃ ad, A = some ad) :
    Calls Try.prog 10 #[.slice A n c] w fun e w' => (∃ m c', m ≤ 50 ∧ m ≤ n ∧ e = .returned (.slice A m c')) ∧ w = w' := by
  unfold maxLen at hc
  by_cases h : 50 < n
  · obtain ⟨ad, rfl⟩ := hA (by omega)
    clear hA
    have l1 : (50 : Int) ≤ c := by omega
    go_enter Try.func10, Try.ntmps10
    go_wp2
    all_goals
      go_ret
      exact ⟨⟨50, _, by omega, by omega, rfl⟩, rfl⟩
  · clear hA
    go_enter Try.func10, Try.ntmps10
    go_wp2
    go_ret
    exact ⟨⟨n, _, by omega, by omega, rfl⟩, rfl⟩
/-- What the book tells of a thread. -/
theorem bof_any {A : Option Addr} {n c B : Nat} (h : Rd w B A n c m) (e t : Int) (hn : n ≤ 4096) :
    Calls Try.prog 33 #[.agg #[.slice A n c, .int .i64 e], .int .i64 t] w fun r w' => r = .returned (.int .i64 (of m t)) ∧ w.grownBy w' none := by
  have G0 := Lib.hid (World.grownBy_alloc w (.cells #[.slice A n c, .int .i64 e] 26) none)
  have hl := h.1
  by_cases h1 : t < 0
  · rw [of_out (.inl h1)]
    clear h
    go_enter Try.func33, Try.ntmps33
    go_wp2
    go_ret
    exact ⟨rfl, G0.out⟩
  by_cases h2 : (n : Int) ≤ t
  · rw [of_out (.inr (by omega))]
    clear h
    go_enter Try.func33, Try.ntmps33
    go_wp2
    go_ret
    exact ⟨rfl, G0.out⟩
  · obtain ⟨k, rfl⟩ : ∃ k : Nat, t = k := ⟨t.toNat, by omega⟩
    obtain ⟨b1, o1, rfl, g1⟩ := h.at_ (k := k) (by omega)
    rw [of_nat, List.getD_eq_getElem?_getD, List.getElem?_eq_getElem (by omega)]
    rw [List.getD_eq_getElem?_getD, List.getElem?_eq_getElem (by omega)] at g1
    simp only [Option.getD_some] at g1 ⊢
    generalize m[k] = x at g1
    have lt := World.block_lt_of_cell? _ _ g1
    dsimp only at lt
    have l1 : (0 : Int) ≤ (k : Int) := by omega
    have l2 : (k : Int) < n := by omega
    clear h h1 h2
    go_enter Try.func33, Try.ntmps33
    go_wp2
    go_ret
    exact ⟨rfl, G0.out⟩
/-- A book in which a thread's number is another one. -/
def SetAns (m : List Int) (e : Int) (w : World) (r : Ending) (w' : World) : Prop := ∃ A N c, N = m.length ∧ r = .returned (.agg #[.slice A N c, .int .i64 e]) ∧ Li w' (.slice A N c) m ∧ w.grownBy w' none
theorem bset_any {A : Option Addr} {n c : Nat} (h : Rd w w.heap.size A n c m) (e x : Int) (k : Nat) (hk : k < n) (hn : n ≤ 4096) :
    Calls Try.prog 34 #[.agg #[.slice A n c, .int .i64 e], .int .i64 (k : Int), .int .i64 x] w (SetAns (m.set k x) e w) := by
  obtain ⟨i0, hi, hz0, hz1, hz2⟩ := info_parts info_int
  have E := Lib.hid (show i0.zero = some (.int .i64 0) ∧ i0.size = 1 ∧ i0.bytes = 8 ∧ Try.prog.info? 3 = some i0 from ⟨hz0, hz1, hz2, hi⟩)
  obtain ⟨b1, o1, rfl, g1⟩ := h.at_ hk
  have G0 := Lib.hid ((World.grownBy_alloc w (.cells #[.slice (some ⟨b1, o1, none⟩) n c, .int .i64 e] 26) none).trans (World.grownBy_alloc _ (.cells #[.slice none 0 0, .int .i64 0] 26) none))
  have B0 := Lib.hid ((Bx.made w (.slice (some ⟨b1, o1, none⟩) n c) e).new (World.grownBy_alloc _ (.cells #[.slice none 0 0, .int .i64 0] 26) none))
  have B1 := Lib.hid (Bx.made1 w (.cells #[.slice (some ⟨b1, o1, none⟩) n c, .int .i64 e] 26) (.slice none 0 0) 0)
  have H := Lib.hid (h.below (li.grown_below G0.out))
  have HL := Lib.hid h.1
  have l1 : (0 : Int) ≤ (k : Int) := by omega
  have l2 : (k : Int) < n := by omega
  have HK := Lib.hid hk
  clear h hi hz0 hz1 hz2 g1
  go_enter Try.func34, Try.ntmps34
  go_wp2_with (refine wpList_append_rd rfl (.tmp 8) (.tmp 10) 24 rfl (w.heap.size + 2) 3 i0 (.int .i64 0) 8 Try.underlying24 E.out.2.2.2 E.out.1 E.out.2.1 E.out.2.2.1 rfl (.slice none 0 0) 0 [] rfl (World.ownsRow_nil _ _ _ _) (some ⟨b1, o1, none⟩) n c w.heap.size m rfl H.out (by unfold maxLen; omega) (by omega) (by simp) ?_; intro A2 c2 w2 ho2 hr2 hg2; simp only [Nat.zero_add, List.nil_append] at ho2 hr2 ⊢; obtain ⟨q, cap, he, hq0, hq1⟩ := ho2.form (by omega); injection he with he1 he2 he3; subst he1 he3; have OW := Lib.hid ho2; have G2 := Lib.hid (G0.out.trans (show World.grownBy _ _ none from hg2)); obtain ⟨c0, c1, _, _⟩ := (B0.out.new (show World.grownBy _ _ none from hg2)).cells; obtain ⟨d0, d1, d2, d3⟩ := (B1.out.new (show World.grownBy _ _ none from hg2)).cells; have e0 := own_at ho2 HK.out; generalize m.getD k 0 = y at e0; have z0 := OW.out.frozenAt k; clear ho2 hr2 hg2)
  refine bodyPost_ret (v := .agg #[.slice (some ⟨q, 0, none⟩) n c2, .int .i64 e]) ?_ rfl ⟨some ⟨q, 0, none⟩, n, c2, by rw [List.length_set, HL.out], rfl, ?_, ?_⟩
  · simp [results, Try.results34, go_sem, *]
  · have s1 := (OW.out.stored k (.int .i64 x)).1
    rw [show (m.map (Value.int .i64)).set k (.int .i64 x) = ints (m.set k x) by simp [ints]] at s1
    have s2 := s1.kept ((grown_set _ (w.heap.size + 1) 0 (.slice (some ⟨q, 0, none⟩) n c2)).trans (grown_set _ (w.heap.size + 1) 1 (.int .i64 e))) (.inr (by simp [Value.ownBlock]; omega))
    unfold Li
    rw [List.length_set, HL.out]
    exact own_mono s2 (Nat.zero_le _)
  · exact grown_new (grown_new G2.out (grown_set w2 q k (.int .i64 x)) (by omega)) ((grown_set _ (w.heap.size + 1) 0 (.slice (some ⟨q, 0, none⟩) n c2)).trans (grown_set _ (w.heap.size + 1) 1 (.int .i64 e))) (by omega)
/-- Nobody is live. -/
theorem begin_any (t : Int) (k : Nat) (hk : near t 0 8 = k) (h8 : k ≤ 8) (w : World) : Calls Try.prog 9 #[.int .i64 t] w (SetAns (List.replicate k (-1)) 0 w) := by
  have HK := Lib.hid hk
  have H8 := Lib.hid h8
  have G0 := Lib.hid (World.grownBy_alloc w (.cells #[.slice none 0 0, .int .i64 0] 26) none)
  have B0 := Lib.hid (Bx.made w (.slice none 0 0) 0)
  clear hk
  go_enter Try.func9, Try.ntmps9
  go_wp2
  go_loopw [3, 4] (fun v i wr => ∃ (j : Nat) (A : Option Addr) (c : Nat), j ≤ k ∧ i = .int .i64 j ∧ v = .slice A j c ∧ wr.ownsRow (w.heap.size + 1) 3 1 (.slice A j c) (List.replicate j (-1 : Int)).length (ints (List.replicate j (-1))) ∧ (w.alloc (.cells #[.slice none 0 0, .int .i64 0] 26)).grownBy wr none) (fun _ i _ => k - (intOf i).toNat)
  case atStart => exact ⟨0, none, 0, Nat.zero_le _, rfl, rfl, World.ownsRow_nil _ _ _ _, World.grownBy.refl _ _⟩
  case round =>
    obtain ⟨j, A, c, hj, rfl, rfl, ho, hg⟩ := hrel
    have HO := Lib.hid ho
    have HG := Lib.hid hg
    have HS := Lib.hid (G0.out.trans hg).size
    have HS1 := Lib.hid (show w.heap.size + 1 ≤ wr.heap.size by have := hg.size; simpa using this)
    obtain ⟨c0, c1, z0, z1⟩ := (B0.out.new hg).cells
    have lt : w.heap.size < wr.heap.size := (B0.out.new hg).lt
    clear ho hg
    by_cases hlt : j < k
    · have FF := Lib.hid (show List.replicate (j + 1) (-1 : Int) = List.replicate j (-1) ++ [-1] from List.replicate_succ')
      go_wp2_with (first
        | (go_at_call 28; (with_reducible refine (Near_any _ _ _ _).mono ?_); rintro e w' ⟨rfl, rfl⟩; rw [HK.out])
        | (refine append_int rfl (.tmp 11) (.tmp 12) rfl (w.heap.size + 1) (.slice A j c) (List.replicate j (-1)) rfl (HO.out.alloc _) _ (-1) rfl (by go_simp) (by simp; omega) (by have := HS1.out; simp; omega) ?_; intro A3 N3 c3 w2 hn3 own1 gr1; obtain rfl : N3 = j + 1 := by rw [hn3]; simp
           have OWN1 := Lib.hid own1; have GR1 := Lib.hid gr1; clear hn3 own1 gr1))
      go_roundw
      case rel => exact ⟨j + 1, A3, c3, by omega, by go_num, rfl, by rw [FF.out]; exact OWN1.out, grown_own (HG.out.trans (World.grownBy_alloc _ _ _)) (HO.out.alloc _) GR1.out (by simp)⟩
      case measure => simp [intOf]; omega
    · obtain rfl : j = k := by omega
      go_wp2_with (go_at_call 28; (with_reducible refine (Near_any _ _ _ _).mono ?_); rintro e w' ⟨rfl, rfl⟩; rw [HK.out])
      refine bodyPost_ret (v := .agg #[.slice A j c, .int .i64 0]) ?_ rfl ⟨A, j, c, by simp, rfl, ?_, ?_⟩
      · simp [results, Try.results9, go_sem, *]
      · have s2 := HO.out.kept ((grown_set _ w.heap.size 0 (.slice A j c)).trans (grown_set _ w.heap.size 1 (.int .i64 0))) (.inr fun e => by have := (own_lt HO.out _ e).1; omega)
        exact own_mono s2 (Nat.zero_le _)
      · exact grown_new (G0.out.trans HG.out) ((grown_set _ w.heap.size 0 (.slice A j c)).trans (grown_set _ w.heap.size 1 (.int .i64 0))) (Nat.le_refl _)
end
end Go.Proofs.Ytahiagaocnmjpaa.ep
