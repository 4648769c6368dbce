/- Lists of numbers in memory: held against each other, copied, filled, moved; layer 4's functions that write. -/
import Derived.Test.YtkkoiglfimibjaaDoorMmA
import Derived.Test.YtkkoiglfimibjaaDoorGen
import Derived.Laws.CopyOwn
import Derived.Deep.QuietTactic
import Derived.BigQuiet
namespace Go.Proofs.YtkkoiglfimibjaaDoor.mm
open Go.ChangeShapes Go.WideShapes Go.ChangeAt Go.RowKit gen
set_option linter.unusedVariables false

/-! ### Plain -/
/-- n words from a on made v. -/
def fillN (xs : List Int) (a : Nat) (v : Int) : Nat → List Int
  | 0 => xs
  | k + 1 => (fillN xs a v k).set (a + k) v
theorem fillN_length (xs : List Int) (a : Nat) (v : Int) (k : Nat) : (fillN xs a v k).length = xs.length := by
  induction k with
  | zero => rfl
  | succ k ih => simp [fillN, ih]
/-- n words from a on made what those of ys from b on are. -/
def moveN (xs ys : List Int) (a b : Nat) : Nat → List Int
  | 0 => xs
  | k + 1 => (moveN xs ys a b k).set (a + k) (ys.getD (b + k) 0)
theorem moveN_length (xs ys : List Int) (a b k : Nat) : (moveN xs ys a b k).length = xs.length := by
  induction k with
  | zero => rfl
  | succ k ih => simp [moveN, ih]
theorem moveN_getD (xs ys : List Int) (a b k : Nat) (h : a + k ≤ xs.length) (i : Nat) : (moveN xs ys a b k).getD i 0 = if a ≤ i ∧ i < a + k then ys.getD (b + (i - a)) 0 else xs.getD i 0 := by
  induction k with
  | zero => rw [if_neg (by omega)]; rfl
  | succ k ih =>
    have ih := ih (by omega)
    have hl := moveN_length xs ys a b k
    by_cases hi : i = a + k
    · subst hi
      rw [if_pos (by omega)]
      simp only [moveN, List.getD_eq_getElem?_getD]
      rw [List.getElem?_set_self (by omega)]
      simp [show a + k - a = k by omega]
    · simp only [moveN, List.getD_eq_getElem?_getD] at ih ⊢
      rw [List.getElem?_set_ne (by omega), ih]
      by_cases h1 : a ≤ i ∧ i < a + k
      · rw [if_pos h1, if_pos (by omega)]
      · rw [if_neg h1, if_neg (by omega)]
theorem ext_getD {l m : List Int} (hl : l.length = m.length) (h : ∀ i, i < l.length → l.getD i 0 = m.getD i 0) : l = m := by
  apply List.ext_getElem hl
  intro i h1 h2
  have := h i h1
  simpa [h1, h2] using this
theorem splice_moveN (xs ys : List Int) (a b n : Nat) (ha : a + n ≤ xs.length) (hb : b + n ≤ ys.length) : splice xs a ((ys.drop b).take n) = moveN xs ys a b n := by
  have hl : ((ys.drop b).take n).length = n := by simp; omega
  refine ext_getD (by rw [length_splice _ _ _ (by omega), moveN_length]) (fun i hi => ?_)
  rw [length_splice _ _ _ (by omega)] at hi
  rw [moveN_getD _ _ _ _ _ ha]
  unfold splice
  rw [hl]
  simp only [List.getD_eq_getElem?_getD]
  by_cases h1 : i < a
  · rw [if_neg (by omega), List.getElem?_append_left (by simp; omega), List.getElem?_take, if_pos h1]
  · rw [List.getElem?_append_right (by simp; omega)]
    have e : (List.take a xs).length = a := by simp; omega
    rw [e]
    by_cases h2 : i < a + n
    · rw [if_pos (by omega), List.getElem?_append_left (by omega), List.getElem?_take, if_pos (by omega), List.getElem?_drop]
    · rw [if_neg (by omega), List.getElem?_append_right (by omega), hl, List.getElem?_drop]
      rw [show a + n + (i - a - n) = i by omega]
theorem ints_splice (xs : List Int) (a : Nat) (ys : List Int) : splice (ints xs) a (ints ys) = ints (splice xs a ys) := by
  simp [splice, ints]

/-! ### Rows -/
/-- A list of the call's own: nil, or a row that is not r. -/
def Lst (w : World) (r : Nat) (v : Value) (xs : List Int) : Prop := w.ownsRow 0 2 1 v xs.length (ints xs) ∧ v.ownBlock ≠ some r
theorem Lst.kept {w w' : World} {r : Nat} {v : Value} {xs : List Int} {row : Option Nat} (h : Lst w r v xs) (hg : w.grownBy w' row) (hr : v.ownBlock = none ∨ v.ownBlock ≠ row) : Lst w' r v xs :=
  ⟨h.1.kept hg hr, h.2⟩
theorem Lst.grown {w w' : World} {r : Nat} {v : Value} {xs : List Int} (h : Lst w r v xs) (hg : w.grownBy w' (some r)) : Lst w' r v xs := h.kept hg (.inr h.2)
theorem Lst.made {w w' : World} {r : Nat} {v : Value} {xs : List Int} (h : Lst w r v xs) (hg : w.grownBy w' none) : Lst w' r v xs := h.kept hg (by cases v.ownBlock <;> simp)
theorem Lst.rd {w : World} {r : Nat} {v : Value} {xs : List Int} (h : Lst w r v xs) : ∃ A c, v = .slice A xs.length c ∧ Rd w w.heap.size A xs.length c xs := Rd.of_own h.1
theorem Lst.drewN {w : World} {r : Nat} {v : Value} {xs : List Int} (h : Lst w r v xs) (n : Nat) : Lst (w.drewN n) r v xs := h
theorem grown_refl (w : World) (row : Option Nat) : w.grownBy w row := ⟨rfl, rfl, rfl, Nat.le_refl _, fun _ _ _ => rfl⟩
theorem grown_drewN (w : World) (n : Nat) (row : Option Nat) : w.grownBy (w.drewN n) row := ⟨rfl, rfl, rfl, Nat.le_refl _, fun _ _ _ => rfl⟩
theorem grown_below {a w : World} (h : a.grownBy w none) : Below a.heap.size a w := ⟨h.os, h.tape, h.output, h.size, fun k hk => h.block k hk (by simp)⟩
/-- A row that was made on the way counts as new. -/
theorem grown_new {a b c : World} {r : Nat} (h : a.grownBy b none) (k : b.grownBy c (some r)) (hr : a.heap.size ≤ r) : a.grownBy c none :=
  h.andThen k (fun j hj => .inl (by cases hj; exact hr))
theorem grown_then {a b c : World} {row : Option Nat} (h : a.grownBy b none) (k : b.grownBy c row) : a.grownBy c row :=
  ⟨k.os.trans h.os, k.tape.trans h.tape, k.output.trans h.output, Nat.le_trans h.size k.size, fun i hi hne => (k.block i (Nat.lt_of_lt_of_le hi h.size) hne).trans (h.block i hi (by simp))⟩

/-- copy(dst, src), dst in a row that is known whole: that row alone has changed. -/
theorem wpList_copy_row {P : Program} {w : World} {ops : Array Oper} {rest : List Oper} {o : Oper} {a : Act} {Q : Exit → Act → World → Prop} (hgd : o.guard = none) (d s : Operand) (dT sT : TypeId)
    (ho : o.op = .call { callee := .builtin .copy, args := #[d, s], argTypes := #[dT, sT] }) (elem : TypeId) (hu : P.underlying dT = some (.slice elem)) (hsz : (P.info? elem).map (·.size) = some 1)
    (dp sp : Option Addr) (dLen dCap sLen sCap : Nat) (hd : a.eval d = .slice dp dLen dCap) (hs : a.eval s = .slice sp sLen sCap)
    (g off : Nat) (cur : List Value) (t : TypeId) (hg : w.heap[g]? = some (.cells cur.toArray t (0, 0))) (cs : List Value) (hn : cs.length = Nat.min sLen dLen)
    (hpos : 0 < cs.length → dp = some ⟨g, off, none⟩ ∧ ∃ ad, sp = some ad ∧ ∀ j v, cs[j]? = some v → w.cell? (ad.add j) = some v)
    (hfit : off + cs.length ≤ cur.length) (h1 : ∀ v ∈ cs, v.oneCell' = true)
    (h : ∀ w', Hid (w'.heap[g]? = some (.cells (splice cur off cs).toArray t (0, 0))) → w.grownBy w' (some g) → wpList P ops Q rest (a.put o.dst (goInt cs.length)) w') :
    wpList P ops Q (o :: rest) a w := by
  by_cases h0 : cs.length = 0
  · obtain rfl : cs = [] := List.eq_nil_of_length_eq_zero h0
    refine wpList_copy_nothing hgd d s dT sT ho elem hu hsz dp sp dLen dCap sLen sCap hd hs (by simpa using hn.symm) ?_
    exact h w (show _ = _ by simpa [splice] using hg) (grown_refl _ _)
  · obtain ⟨rfl, ad, rfl, hsrc⟩ := hpos (by omega)
    refine wpList_copy_own hgd d s dT sT ho elem hu hsz g off dLen dCap ad sLen sCap hd hs cur.toArray t hg cs hn hsrc (by simpa using hfit) h1 ?_
    exact h _ (show _ = _ by simpa [splice] using setRow_heap w g _ _ t _ hg) ⟨rfl, rfl, rfl, by simp [World.setRow], fun k _ hk => setRow_other w g k _ (fun e => hk (by simp [e]))⟩

/-- The same as one step of a region that draws its order. -/
theorem step_copy_row {P : Program} {ops : Array Oper} {o : Oper} {a : Act} {w : World} {K : Act → World → Prop} {Q : Exit → Act → World → Prop} {E : Prop} (hgd : o.guard = none) (d s : Operand) (dT sT : TypeId)
    (ho : o.op = .call { callee := .builtin .copy, args := #[d, s], argTypes := #[dT, sT] }) (elem : TypeId) (hu : P.underlying dT = some (.slice elem)) (hsz : (P.info? elem).map (·.size) = some 1)
    (dp sp : Option Addr) (dLen dCap sLen sCap : Nat) (hd : a.eval d = .slice dp dLen dCap) (hs : a.eval s = .slice sp sLen sCap)
    (g off : Nat) (cur : List Value) (t : TypeId) (hg : w.heap[g]? = some (.cells cur.toArray t (0, 0))) (cs : List Value) (hn : cs.length = Nat.min sLen dLen)
    (hpos : 0 < cs.length → dp = some ⟨g, off, none⟩ ∧ ∃ ad, sp = some ad ∧ ∀ j v, cs[j]? = some v → w.cell? (ad.add j) = some v)
    (hfit : off + cs.length ≤ cur.length) (h1 : ∀ v ∈ cs, v.oneCell' = true)
    (h : ∀ w', Hid (w'.heap[g]? = some (.cells (splice cur off cs).toArray t (0, 0))) → w.grownBy w' (some g) → K (a.put o.dst (goInt cs.length)) w') :
    if Region.wanted o (yielded ops a.tmps) = true then Oper.wp P o a w K Q else E := by
  have hw : Region.wanted o (yielded ops a.tmps) = true := by simp [Region.wanted, hgd]
  rw [if_pos hw]
  by_cases h0 : cs.length = 0
  · obtain rfl : cs = [] := List.eq_nil_of_length_eq_zero h0
    have hrun := run_copy_none (P := P) w dT sT o.type elem dp sp dLen dCap sLen sCap hu hsz (by simpa using hn.symm)
    unfold Oper.wp
    simp [execOp, ho, resolve, invoke, builtin, hd, hs, hrun, Result.andThen]
    exact h w (show _ = _ by simpa [splice] using hg) (grown_refl _ _)
  · obtain ⟨rfl, ad, rfl, hsrc⟩ := hpos (by omega)
    have hrun := run_copy_row (P := P) w dT sT o.type elem g off dLen dCap ad sLen sCap cur.toArray t cs hu hsz hg hn hsrc (by simpa using hfit) h1
    unfold Oper.wp
    simp [execOp, ho, resolve, invoke, builtin, hd, hs, hrun, Result.andThen]
    exact h _ (show _ = _ by simpa [splice] using setRow_heap w g _ _ t _ hg) ⟨rfl, rfl, rfl, by simp [World.setRow], fun k _ hk => setRow_other w g k _ (fun e => hk (by simp [e]))⟩

end Go.Proofs.YtkkoiglfimibjaaDoor.mm
