/- Joined: MmA, MmB, MmC, MmD. -/
import Derived.Test.YtfloleflcoiidaaGreatDoorRows
import Derived.WalkKit
import Derived.ProofKit
import Derived.OpenShut
import Derived.Outline
import Derived.Lib.Hide
import Derived.IntWalk
import Derived.Deep.AppendLies
import Derived.Maps.Range
import Derived.Deep.Draws
import Derived.Laws.Cover3
import Derived.Test.YtfloleflcoiidaaGreatDoorGnQ
import Derived.Laws.CopyOwn
import Derived.Deep.QuietTactic
import Derived.BigQuiet
import Derived.Laws.AppendOwnNone
import Derived.Deep.RegionHeld3
import Derived.Deep.RegionHeldLaw
import Derived.Deep.RegionLaw
import Derived.Lib.SliceRun
/- Words in memory: an object whose one field is a row of numbers known whole; what layer 4's small functions do with it. -/
namespace Go.Proofs.YtfloleflcoiidaaGreatDoor.mm
open Go.ChangeShapes Go.WideShapes Go.ChangeAt Go.RowKit
set_option linter.unusedVariables false

def ints (xs : List Int) : List Value := xs.map (Value.int .i64)
theorem ints_length (xs : List Int) : (ints xs).length = xs.length := by simp [ints]
theorem ints_one (xs : List Int) : ∀ v ∈ ints xs, v.oneCell' = true := by
  intro v hv; obtain ⟨_, _, rfl⟩ := List.mem_map.1 hv; rfl
/-- The words xs lie in row r, whole; the object at g has it. -/
def MemAt (w : World) (g r : Nat) (xs : List Int) : Prop :=
  w.heap[g]? = some (.cells #[.slice (some ⟨r, 0, none⟩) xs.length xs.length] 144 (0, 0)) ∧ w.heap[r]? = some (.cells (ints xs).toArray 2 (0, 0)) ∧ xs.length ≤ 2048
theorem lt_of_heap {w : World} {g : Nat} {o : Obj} (h : w.heap[g]? = some o) : g < w.heap.size := (Array.getElem?_eq_some_iff.1 h).1
theorem MemAt.ne {w : World} {g r : Nat} {xs : List Int} (h : MemAt w g r xs) : g ≠ r := by
  rintro rfl
  have := h.1.symm.trans h.2.1
  simp at this
theorem MemAt.lt {w : World} {g r : Nat} {xs : List Int} (h : MemAt w g r xs) : g < w.heap.size ∧ r < w.heap.size := ⟨lt_of_heap h.1, lt_of_heap h.2.1⟩
theorem MemAt.kept {w w' : World} {g r : Nat} {xs : List Int} {row : Option Nat} (h : MemAt w g r xs) (hg : w.grownBy w' row) (h1 : some g ≠ row) (h2 : some r ≠ row) : MemAt w' g r xs :=
  ⟨(hg.block g h.lt.1 h1).trans h.1, (hg.block r h.lt.2 h2).trans h.2.1, h.2.2⟩
theorem MemAt.drewN {w : World} {g r : Nat} {xs : List Int} (h : MemAt w g r xs) (n : Nat) : MemAt (w.drewN n) g r xs := h
theorem MemAt.field {w : World} {g r : Nat} {xs : List Int} (h : MemAt w g r xs) : w.cell? ⟨g, 0, none⟩ = some (.slice (some ⟨r, 0, none⟩) xs.length xs.length) := by
  rw [cell_of_row w g 0 _ _ _ h.1]; rfl
theorem MemAt.word {w : World} {g r : Nat} {xs : List Int} (h : MemAt w g r xs) {k : Nat} (hk : k < xs.length) : w.cell? ⟨r, k, none⟩ = some (.int .i64 (xs.getD k 0)) := by
  rw [cell_of_row w r k _ _ _ h.2.1]
  simp [ints, hk]
theorem MemAt.free {w : World} {g r : Nat} {xs : List Int} (h : MemAt w g r xs) (k : Nat) : w.frozen? ⟨r, k, none⟩ = false := frozen_of_row w r k _ _ h.2.1
/-- One word written. -/
theorem MemAt.set {w : World} {g r : Nat} {xs : List Int} (h : MemAt w g r xs) (k : Nat) (v : Int) : MemAt (w.setCell ⟨r, k, none⟩ (.int .i64 v)) g r (xs.set k v) ∧ w.grownBy (w.setCell ⟨r, k, none⟩ (.int .i64 v)) (some r) := by
  refine ⟨⟨?_, ?_, by simpa using h.2.2⟩, ⟨rfl, rfl, rfl, by simp, fun i _ hi => heap_setCell_other w ⟨r, k, none⟩ i _ (fun e => hi (by simp [e]))⟩⟩
  · rw [heap_setCell_other w ⟨r, k, none⟩ g _ h.ne, h.1]; simp
  · rw [heap_setCell_same w r k _ _ _ h.2.1]
    simp [ints, List.map_set]

/-! ### The small functions -/
theorem made_yes (g : Nat) (A : Addr) (n c : Nat) (w : World) (h : w.cell? ⟨g, 0, none⟩ = some (.slice (some A) n c)) :
    Calls Tryz.prog 166 #[.pointer (some ⟨g, 0, none⟩)] w fun e w' => e = .returned (.bool true) ∧ w = w' := by
  go_enter Tryz.func166, Tryz.ntmps166
  go_wp2
  go_ret
  exact ⟨rfl, rfl⟩
theorem made_nil (w : World) : Calls Tryz.prog 166 #[.pointer none] w fun e w' => e = .returned (.bool false) ∧ w = w' := by
  go_enter Tryz.func166, Tryz.ntmps166
  go_wp2
  go_ret
  exact ⟨rfl, rfl⟩
theorem made_no (g : Nat) (w : World) (h : w.cell? ⟨g, 0, none⟩ = some (.slice none 0 0)) :
    Calls Tryz.prog 166 #[.pointer (some ⟨g, 0, none⟩)] w fun e w' => e = .returned (.bool false) ∧ w = w' := by
  go_enter Tryz.func166, Tryz.ntmps166
  go_wp2
  go_ret
  exact ⟨rfl, rfl⟩
theorem Len_yes {g r : Nat} {xs : List Int} {w : World} (h : MemAt w g r xs) :
    Calls Tryz.prog 173 #[.pointer (some ⟨g, 0, none⟩)] w fun e w' => e = .returned (.int .i64 xs.length) ∧ w = w' := by
  have f := h.field
  generalize xs.length = n at f
  clear h
  go_enter Tryz.func173, Tryz.ntmps173
  go_wp2_with (go_at_call 166; (with_reducible refine (made_yes _ _ _ _ _ f).mono ?_); rintro e w' ⟨rfl, rfl⟩)
  go_ret
  exact ⟨rfl, rfl⟩
/-- A pointer to nothing that New made: nil, or an object with no row. -/
def Nobody (w : World) (p : Option Addr) : Prop := p = none ∨ ∃ g, p = some ⟨g, 0, none⟩ ∧ w.cell? ⟨g, 0, none⟩ = some (.slice none 0 0)
theorem made_nobody {p : Option Addr} {w : World} (h : Nobody w p) : Calls Tryz.prog 166 #[.pointer p] w fun e w' => e = .returned (.bool false) ∧ w = w' := by
  rcases h with rfl | ⟨g, rfl, h⟩
  · exact made_nil w
  · exact made_no g w h
theorem Len_nobody {p : Option Addr} {w : World} (h : Nobody w p) : Calls Tryz.prog 173 #[.pointer p] w fun e w' => e = .returned (.int .i64 0) ∧ w = w' := by
  have H := Lib.hid h
  clear h
  go_enter Tryz.func173, Tryz.ntmps173
  go_wp2_with (go_at_call 166; (with_reducible refine (made_nobody H.out).mono ?_); rintro e w' ⟨rfl, rfl⟩)
  go_ret
  exact ⟨rfl, rfl⟩
abbrev none2 : Ending := .returned (.tuple #[.slice none 0 0, .bool false])
theorem part_nobody {p : Option Addr} {w : World} (h : Nobody w p) (a n : Int) : Calls Tryz.prog 143 #[.pointer p, .int .i64 a, .int .i64 n] w fun e w' => e = none2 ∧ w = w' := by
  have H := Lib.hid h
  clear h
  go_enter Tryz.func143, Tryz.ntmps143
  go_wp2_with (go_at_call 166; (with_reducible refine (made_nobody H.out).mono ?_); rintro e w' ⟨rfl, rfl⟩)
  go_ret2
  exact ⟨rfl, rfl⟩
theorem part_no {g r : Nat} {xs : List Int} {w : World} (h : MemAt w g r xs) (a n : Int) (hn : n ≤ 9223372036854775807) (hno : ¬ (0 ≤ a ∧ 0 ≤ n ∧ a + n ≤ xs.length)) :
    Calls Tryz.prog 143 #[.pointer (some ⟨g, 0, none⟩), .int .i64 a, .int .i64 n] w fun e w' => e = none2 ∧ w = w' := by
  have f := h.field
  have hl := h.2.2
  generalize xs.length = m at f hl hno
  clear h
  by_cases h1 : n < 0
  · go_enter Tryz.func143, Tryz.ntmps143
    go_wp2_with (go_at_call 166; (with_reducible refine (made_yes _ _ _ _ _ f).mono ?_); rintro e w' ⟨rfl, rfl⟩)
    go_ret2
    exact ⟨rfl, rfl⟩
  by_cases h2 : a < 0
  · go_enter Tryz.func143, Tryz.ntmps143
    go_wp2_with (go_at_call 166; (with_reducible refine (made_yes _ _ _ _ _ f).mono ?_); rintro e w' ⟨rfl, rfl⟩)
    go_ret2
    exact ⟨rfl, rfl⟩
  have h3 : (m : Int) - n < a := by omega
  go_enter Tryz.func143, Tryz.ntmps143
  go_wp2_with (go_at_call 166; (with_reducible refine (made_yes _ _ _ _ _ f).mono ?_); rintro e w' ⟨rfl, rfl⟩)
  go_ret2
  exact ⟨rfl, rfl⟩
/-- A part: where it lies matters only if it has a word. -/
def PartAns (r a n : Nat) (e : Ending) : Prop := ∃ A : Addr, e = .returned (.tuple #[.slice (some A) n n, .bool true]) ∧ (0 < n → A = ⟨r, a, none⟩)
theorem part_yes {g r : Nat} {xs : List Int} {w : World} (h : MemAt w g r xs) (a n : Nat) (hyes : a + n ≤ xs.length) :
    Calls Tryz.prog 143 #[.pointer (some ⟨g, 0, none⟩), .int .i64 a, .int .i64 n] w fun e w' => PartAns r a n e ∧ w = w' := by
  have f := h.field
  have hl := h.2.2
  generalize xs.length = m at f hl hyes
  clear h
  have h3 : ¬ ((m : Int) - n < a) := by omega
  go_enter Tryz.func143, Tryz.ntmps143
  go_wp2_with (go_at_call 166; (with_reducible refine (made_yes _ _ _ _ _ f).mono ?_); rintro e w' ⟨rfl, rfl⟩)
  · rename_i hz
    obtain rfl : n = 0 := by omega
    go_ret2
    exact ⟨⟨_, rfl, fun h => absurd h (by omega)⟩, rfl⟩
  · go_ret2
    exact ⟨⟨_, rfl, fun _ => rfl⟩, rfl⟩
theorem part_one {g r : Nat} {xs : List Int} {w : World} (h : MemAt w g r xs) (a : Nat) (hyes : a < xs.length) :
    Calls Tryz.prog 143 #[.pointer (some ⟨g, 0, none⟩), .int .i64 a, .int .i64 1] w fun e w' => e = .returned (.tuple #[.slice (some ⟨r, a, none⟩) 1 1, .bool true]) ∧ w = w' :=
  (part_yes h a 1 hyes).mono fun _ _ ⟨⟨A, he, hA⟩, hw⟩ => ⟨by rw [he, hA (by omega)], hw⟩
theorem Load_yes {g r : Nat} {xs : List Int} {w : World} (h : MemAt w g r xs) (a : Nat) (hyes : a < xs.length) :
    Calls Tryz.prog 122 #[.pointer (some ⟨g, 0, none⟩), .int .i64 a] w fun e w' => e = .returned (.tuple #[.int .i64 (xs.getD a 0), .bool true]) ∧ w = w' := by
  have f := h.word hyes
  have H := Lib.hid h
  have HY := Lib.hid hyes
  generalize xs.getD a 0 = x at f
  clear h hyes
  go_enter Tryz.func122, Tryz.ntmps122
  go_wp2_with (go_at_call 143; (with_reducible refine (part_one H.out a HY.out).mono ?_); rintro e w' ⟨rfl, rfl⟩)
  go_ret2
  exact ⟨rfl, rfl⟩
theorem Load_no {g r : Nat} {xs : List Int} {w : World} (h : MemAt w g r xs) (a : Int) (hno : ¬ (0 ≤ a ∧ a < xs.length)) :
    Calls Tryz.prog 122 #[.pointer (some ⟨g, 0, none⟩), .int .i64 a] w fun e w' => e = .returned (.tuple #[.int .i64 0, .bool false]) ∧ w = w' := by
  have H := Lib.hid (part_no h a 1 (by omega) (by omega))
  clear h hno
  go_enter Tryz.func122, Tryz.ntmps122
  go_wp2_with (go_at_call 143; (with_reducible refine H.out.mono ?_); rintro e w' ⟨rfl, rfl⟩)
  go_ret2
  exact ⟨rfl, rfl⟩
theorem Load_nobody {p : Option Addr} {w : World} (h : Nobody w p) (a : Int) :
    Calls Tryz.prog 122 #[.pointer p, .int .i64 a] w fun e w' => e = .returned (.tuple #[.int .i64 0, .bool false]) ∧ w = w' := by
  have H := Lib.hid (part_nobody h a 1)
  clear h
  go_enter Tryz.func122, Tryz.ntmps122
  go_wp2_with (go_at_call 143; (with_reducible refine H.out.mono ?_); rintro e w' ⟨rfl, rfl⟩)
  go_ret2
  exact ⟨rfl, rfl⟩
end Go.Proofs.YtfloleflcoiidaaGreatDoor.mm

/- Lists of numbers in memory: held against each other, copied, filled, moved; layer 4's functions that write. -/
namespace Go.Proofs.YtfloleflcoiidaaGreatDoor.mm
open Go.ChangeShapes Go.WideShapes Go.ChangeAt Go.RowKit gen
set_option linter.unusedVariables false

/-! ### Plain -/
/-- n words from a on made v. -/
def fillN (xs : List Int) (a : Nat) (v : Int) : Nat → List Int
  | 0 => xs
  | k + 1 => (fillN xs a v k).set (a + k) v
theorem fillN_length (xs : List Int) (a : Nat) (v : Int) (k : Nat) : (fillN xs a v k).length = xs.length := by
  induction k with
  | zero => rfl
  | succ k ih => simp [fillN, ih]
/-- n words from a on made what those of ys from b on are. -/
def moveN (xs ys : List Int) (a b : Nat) : Nat → List Int
  | 0 => xs
  | k + 1 => (moveN xs ys a b k).set (a + k) (ys.getD (b + k) 0)
theorem moveN_length (xs ys : List Int) (a b k : Nat) : (moveN xs ys a b k).length = xs.length := by
  induction k with
  | zero => rfl
  | succ k ih => simp [moveN, ih]
theorem moveN_getD (xs ys : List Int) (a b k : Nat) (h : a + k ≤ xs.length) (i : Nat) : (moveN xs ys a b k).getD i 0 = if a ≤ i ∧ i < a + k then ys.getD (b + (i - a)) 0 else xs.getD i 0 := by
  induction k with
  | zero => rw [if_neg (by omega)]; rfl
  | succ k ih =>
    have ih := ih (by omega)
    have hl := moveN_length xs ys a b k
    by_cases hi : i = a + k
    · subst hi
      rw [if_pos (by omega)]
      simp only [moveN, List.getD_eq_getElem?_getD]
      rw [List.getElem?_set_self (by omega)]
      simp [show a + k - a = k by omega]
    · simp only [moveN, List.getD_eq_getElem?_getD] at ih ⊢
      rw [List.getElem?_set_ne (by omega), ih]
      by_cases h1 : a ≤ i ∧ i < a + k
      · rw [if_pos h1, if_pos (by omega)]
      · rw [if_neg h1, if_neg (by omega)]
theorem ext_getD {l m : List Int} (hl : l.length = m.length) (h : ∀ i, i < l.length → l.getD i 0 = m.getD i 0) : l = m := by
  apply List.ext_getElem hl
  intro i h1 h2
  have := h i h1
  simpa [h1, h2] using this
theorem splice_moveN (xs ys : List Int) (a b n : Nat) (ha : a + n ≤ xs.length) (hb : b + n ≤ ys.length) : splice xs a ((ys.drop b).take n) = moveN xs ys a b n := by
  have hl : ((ys.drop b).take n).length = n := by simp; omega
  refine ext_getD (by rw [length_splice _ _ _ (by omega), moveN_length]) (fun i hi => ?_)
  rw [length_splice _ _ _ (by omega)] at hi
  rw [moveN_getD _ _ _ _ _ ha]
  unfold splice
  rw [hl]
  simp only [List.getD_eq_getElem?_getD]
  by_cases h1 : i < a
  · rw [if_neg (by omega), List.getElem?_append_left (by simp; omega), List.getElem?_take, if_pos h1]
  · rw [List.getElem?_append_right (by simp; omega)]
    have e : (List.take a xs).length = a := by simp; omega
    rw [e]
    by_cases h2 : i < a + n
    · rw [if_pos (by omega), List.getElem?_append_left (by omega), List.getElem?_take, if_pos (by omega), List.getElem?_drop]
    · rw [if_neg (by omega), List.getElem?_append_right (by omega), hl, List.getElem?_drop]
      rw [show a + n + (i - a - n) = i by omega]
theorem ints_splice (xs : List Int) (a : Nat) (ys : List Int) : splice (ints xs) a (ints ys) = ints (splice xs a ys) := by
  simp [splice, ints]

/-! ### Rows -/
/-- A list of the call's own: nil, or a row that is not r. -/
def Lst (w : World) (r : Nat) (v : Value) (xs : List Int) : Prop := w.ownsRow 0 2 1 v xs.length (ints xs) ∧ v.ownBlock ≠ some r
theorem Lst.kept {w w' : World} {r : Nat} {v : Value} {xs : List Int} {row : Option Nat} (h : Lst w r v xs) (hg : w.grownBy w' row) (hr : v.ownBlock = none ∨ v.ownBlock ≠ row) : Lst w' r v xs :=
  ⟨h.1.kept hg hr, h.2⟩
theorem Lst.grown {w w' : World} {r : Nat} {v : Value} {xs : List Int} (h : Lst w r v xs) (hg : w.grownBy w' (some r)) : Lst w' r v xs := h.kept hg (.inr h.2)
theorem Lst.made {w w' : World} {r : Nat} {v : Value} {xs : List Int} (h : Lst w r v xs) (hg : w.grownBy w' none) : Lst w' r v xs := h.kept hg (by cases v.ownBlock <;> simp)
theorem Lst.rd {w : World} {r : Nat} {v : Value} {xs : List Int} (h : Lst w r v xs) : ∃ A c, v = .slice A xs.length c ∧ Rd w w.heap.size A xs.length c xs := Rd.of_own h.1
theorem Lst.drewN {w : World} {r : Nat} {v : Value} {xs : List Int} (h : Lst w r v xs) (n : Nat) : Lst (w.drewN n) r v xs := h
theorem grown_refl (w : World) (row : Option Nat) : w.grownBy w row := ⟨rfl, rfl, rfl, Nat.le_refl _, fun _ _ _ => rfl⟩
theorem grown_drewN (w : World) (n : Nat) (row : Option Nat) : w.grownBy (w.drewN n) row := ⟨rfl, rfl, rfl, Nat.le_refl _, fun _ _ _ => rfl⟩
theorem grown_below {a w : World} (h : a.grownBy w none) : Below a.heap.size a w := ⟨h.os, h.tape, h.output, h.size, fun k hk => h.block k hk (by simp)⟩
/-- A row that was made on the way counts as new. -/
theorem grown_new {a b c : World} {r : Nat} (h : a.grownBy b none) (k : b.grownBy c (some r)) (hr : a.heap.size ≤ r) : a.grownBy c none :=
  h.andThen k (fun j hj => .inl (by cases hj; exact hr))
theorem grown_then {a b c : World} {row : Option Nat} (h : a.grownBy b none) (k : b.grownBy c row) : a.grownBy c row :=
  ⟨k.os.trans h.os, k.tape.trans h.tape, k.output.trans h.output, Nat.le_trans h.size k.size, fun i hi hne => (k.block i (Nat.lt_of_lt_of_le hi h.size) hne).trans (h.block i hi (by simp))⟩

/-- copy(dst, src), dst in a row that is known whole: that row alone has changed. -/
theorem wpList_copy_row {P : Program} {w : World} {ops : Array Oper} {rest : List Oper} {o : Oper} {a : Act} {Q : Exit → Act → World → Prop} (hgd : o.guard = none) (d s : Operand) (dT sT : TypeId)
    (ho : o.op = .call { callee := .builtin .copy, args := #[d, s], argTypes := #[dT, sT] }) (elem : TypeId) (hu : P.underlying dT = some (.slice elem)) (hsz : (P.info? elem).map (·.size) = some 1)
    (dp sp : Option Addr) (dLen dCap sLen sCap : Nat) (hd : a.eval d = .slice dp dLen dCap) (hs : a.eval s = .slice sp sLen sCap)
    (g off : Nat) (cur : List Value) (t : TypeId) (hg : w.heap[g]? = some (.cells cur.toArray t (0, 0))) (cs : List Value) (hn : cs.length = Nat.min sLen dLen)
    (hpos : 0 < cs.length → dp = some ⟨g, off, none⟩ ∧ ∃ ad, sp = some ad ∧ ∀ j v, cs[j]? = some v → w.cell? (ad.add j) = some v)
    (hfit : off + cs.length ≤ cur.length) (h1 : ∀ v ∈ cs, v.oneCell' = true)
    (h : ∀ w', Hid (w'.heap[g]? = some (.cells (splice cur off cs).toArray t (0, 0))) → w.grownBy w' (some g) → wpList P ops Q rest (a.put o.dst (goInt cs.length)) w') :
    wpList P ops Q (o :: rest) a w := by
  by_cases h0 : cs.length = 0
  · obtain rfl : cs = [] := List.eq_nil_of_length_eq_zero h0
    refine wpList_copy_nothing hgd d s dT sT ho elem hu hsz dp sp dLen dCap sLen sCap hd hs (by simpa using hn.symm) ?_
    exact h w (show _ = _ by simpa [splice] using hg) (grown_refl _ _)
  · obtain ⟨rfl, ad, rfl, hsrc⟩ := hpos (by omega)
    refine wpList_copy_own hgd d s dT sT ho elem hu hsz g off dLen dCap ad sLen sCap hd hs cur.toArray t hg cs hn hsrc (by simpa using hfit) h1 ?_
    exact h _ (show _ = _ by simpa [splice] using setRow_heap w g _ _ t _ hg) ⟨rfl, rfl, rfl, by simp [World.setRow], fun k _ hk => setRow_other w g k _ (fun e => hk (by simp [e]))⟩

/-- The same as one step of a region that draws its order. -/
theorem step_copy_row {P : Program} {ops : Array Oper} {o : Oper} {a : Act} {w : World} {K : Act → World → Prop} {Q : Exit → Act → World → Prop} {E : Prop} (hgd : o.guard = none) (d s : Operand) (dT sT : TypeId)
    (ho : o.op = .call { callee := .builtin .copy, args := #[d, s], argTypes := #[dT, sT] }) (elem : TypeId) (hu : P.underlying dT = some (.slice elem)) (hsz : (P.info? elem).map (·.size) = some 1)
    (dp sp : Option Addr) (dLen dCap sLen sCap : Nat) (hd : a.eval d = .slice dp dLen dCap) (hs : a.eval s = .slice sp sLen sCap)
    (g off : Nat) (cur : List Value) (t : TypeId) (hg : w.heap[g]? = some (.cells cur.toArray t (0, 0))) (cs : List Value) (hn : cs.length = Nat.min sLen dLen)
    (hpos : 0 < cs.length → dp = some ⟨g, off, none⟩ ∧ ∃ ad, sp = some ad ∧ ∀ j v, cs[j]? = some v → w.cell? (ad.add j) = some v)
    (hfit : off + cs.length ≤ cur.length) (h1 : ∀ v ∈ cs, v.oneCell' = true)
    (h : ∀ w', Hid (w'.heap[g]? = some (.cells (splice cur off cs).toArray t (0, 0))) → w.grownBy w' (some g) → K (a.put o.dst (goInt cs.length)) w') :
    if Region.wanted o (yielded ops a.tmps) = true then Oper.wp P o a w K Q else E := by
  have hw : Region.wanted o (yielded ops a.tmps) = true := by simp [Region.wanted, hgd]
  rw [if_pos hw]
  by_cases h0 : cs.length = 0
  · obtain rfl : cs = [] := List.eq_nil_of_length_eq_zero h0
    have hrun := run_copy_none (P := P) w dT sT o.type elem dp sp dLen dCap sLen sCap hu hsz (by simpa using hn.symm)
    unfold Oper.wp
    simp [execOp, ho, resolve, invoke, builtin, hd, hs, hrun, Result.andThen]
    exact h w (show _ = _ by simpa [splice] using hg) (grown_refl _ _)
  · obtain ⟨rfl, ad, rfl, hsrc⟩ := hpos (by omega)
    have hrun := run_copy_row (P := P) w dT sT o.type elem g off dLen dCap ad sLen sCap cur.toArray t cs hu hsz hg hn hsrc (by simpa using hfit) h1
    unfold Oper.wp
    simp [execOp, ho, resolve, invoke, builtin, hd, hs, hrun, Result.andThen]
    exact h _ (show _ = _ by simpa [splice] using setRow_heap w g _ _ t _ hg) ⟨rfl, rfl, rfl, by simp [World.setRow], fun k _ hk => setRow_other w g k _ (fun e => hk (by simp [e]))⟩

end Go.Proofs.YtfloleflcoiidaaGreatDoor.mm

/- Layer 4's functions that write, and those that make memory. -/
namespace Go.Proofs.YtfloleflcoiidaaGreatDoor.mm
open Go.ChangeShapes Go.WideShapes Go.ChangeAt Go.RowKit gen
set_option linter.unusedVariables false

theorem Fill_yes {g r : Nat} {xs : List Int} {w : World} (h : MemAt w g r xs) (a n : Nat) (v : Int) (hyes : a + n ≤ xs.length) :
    Calls Tryz.prog 163 #[.pointer (some ⟨g, 0, none⟩), .int .i64 a, .int .i64 n, .int .i64 v] w fun e w' => e = .returned (.bool true) ∧ MemAt w' g r (fillN xs a v n) ∧ w.grownBy w' (some r) := by
  have H := Lib.hid h
  have HY := Lib.hid hyes
  have hs : n ≤ 2048 := by have := h.2.2; omega
  have ha : a ≤ 2048 := by have := h.2.2; omega
  clear h hyes
  go_enter Tryz.func163, Tryz.ntmps163
  go_wp2_with (go_at_call 143; (with_reducible refine (part_yes H.out a n HY.out).mono ?_); rintro e w' ⟨⟨A, rfl, hA⟩, rfl⟩; have HA := Lib.hid hA; clear hA)
  go_loopw [21] (fun i wr => ∃ k : Nat, k ≤ n ∧ i = .int .i64 k ∧ MemAt wr g r (fillN xs a v k) ∧ w.grownBy wr (some r)) (fun i _ => n - (intOf i).toNat)
  case atStart => exact ⟨0, Nat.zero_le _, rfl, H.out, grown_refl _ _⟩
  case round =>
    obtain ⟨k, hk, rfl, hm, hg⟩ := hrel
    have HM := Lib.hid hm
    have HG := Lib.hid hg
    clear hm hg
    by_cases hlt : k < n
    · obtain rfl := HA.out (by omega)
      have hc := HM.out.word (k := a + k) (by rw [fillN_length]; have := HY.out; omega)
      have hf := HM.out.free (a + k)
      go_wp2
      go_roundw
      case rel => exact ⟨k + 1, by omega, by go_num, (HM.out.set (a + k) v).1, HG.out.trans (HM.out.set (a + k) v).2⟩
      case measure => simp [intOf]; omega
    · obtain rfl : k = n := by omega
      go_wp2
      go_ret
      exact ⟨rfl, HM.out, HG.out⟩
theorem Fill_none (p : Value) (a n v : Int) (w : World) (h : Calls Tryz.prog 143 #[p, .int .i64 a, .int .i64 n] w fun e w' => e = none2 ∧ w = w') :
    Calls Tryz.prog 163 #[p, .int .i64 a, .int .i64 n, .int .i64 v] w fun e w' => e = .returned (.bool false) ∧ w = w' := by
  have H := Lib.hid h
  clear h
  go_enter Tryz.func163, Tryz.ntmps163
  go_wp2_with (go_at_call 143; (with_reducible refine H.out.mono ?_); rintro e w' ⟨rfl, rfl⟩)
  go_loopw [21] (fun i wr => i = .int .i64 0 ∧ wr = w) (fun i _ => 0)
  case atStart => exact ⟨rfl, rfl⟩
  case round =>
    obtain ⟨rfl, rfl⟩ := hrel
    go_wp2
    go_ret
    exact ⟨rfl, rfl⟩
theorem Fill_one {g r : Nat} {xs : List Int} {w : World} (h : MemAt w g r xs) (a : Nat) (v : Int) (hyes : a < xs.length) :
    Calls Tryz.prog 163 #[.pointer (some ⟨g, 0, none⟩), .int .i64 a, .int .i64 1, .int .i64 v] w fun e w' => e = .returned (.bool true) ∧ MemAt w' g r (xs.set a v) ∧ w.grownBy w' (some r) :=
  Fill_yes h a 1 v hyes
theorem Store_yes {g r : Nat} {xs : List Int} {w : World} (h : MemAt w g r xs) (a : Nat) (v : Int) (hyes : a < xs.length) :
    Calls Tryz.prog 160 #[.pointer (some ⟨g, 0, none⟩), .int .i64 a, .int .i64 v] w fun e w' => e = .returned (.bool true) ∧ MemAt w' g r (xs.set a v) ∧ w.grownBy w' (some r) := by
  have H := Lib.hid (Fill_one h a v hyes)
  clear h hyes
  go_enter Tryz.func160, Tryz.ntmps160
  go_wp2_with (go_at_call 163; (with_reducible refine H.out.mono ?_); rintro e w' ⟨rfl, hm, hg⟩; have HM := Lib.hid hm; have HG := Lib.hid hg; clear hm hg)
  go_ret
  exact ⟨rfl, HM.out, HG.out⟩
theorem Store_none (p : Value) (a v : Int) (w : World) (h : Calls Tryz.prog 143 #[p, .int .i64 a, .int .i64 1] w fun e w' => e = none2 ∧ w = w') :
    Calls Tryz.prog 160 #[p, .int .i64 a, .int .i64 v] w fun e w' => e = .returned (.bool false) ∧ w = w' := by
  have H := Lib.hid (Fill_none p a 1 v w h)
  clear h
  go_enter Tryz.func160, Tryz.ntmps160
  go_wp2_with (go_at_call 163; (with_reducible refine H.out.mono ?_); rintro e w' ⟨rfl, rfl⟩)
  go_ret
  exact ⟨rfl, rfl⟩
theorem info2 : (Tryz.prog.info? 2).map (·.size) = some 1 := by kernel_rfl
end Go.Proofs.YtfloleflcoiidaaGreatDoor.mm

/- Layer 4's functions that make memory: New, All, Clone. -/
namespace Go.Proofs.YtfloleflcoiidaaGreatDoor.mm
open Go.ChangeShapes Go.WideShapes Go.ChangeAt Go.RowKit gen
set_option linter.unusedVariables false

/-- The nearest number that may be. -/
def near (n a b : Int) : Int := if n < a then a else if b < n then b else n
theorem ret_int {a b : Int} (h : a = b) : Ending.returned (.int .i64 a) = .returned (.int .i64 b) := by rw [h]
theorem eql_nil : ∀ (w : World) (a : Option Addr) (n c : Nat), (binOp .eql 142 (.slice a n c) (.slice none 0 0)).run Tryz.prog w = .ok (.bool a.isNone) w := fun w a n c => Lib.run_eql_slice_nil w _ _ a n c 0 0 Tryz.underlying142
theorem Clamp_any (n a b : Int) (w : World) : Calls Tryz.prog 45 #[.int .i64 n, .int .i64 a, .int .i64 b] w fun e w' => e = .returned (.int .i64 (near n a b)) ∧ w = w' := by
  by_cases h : n < a
  · go_enter Tryz.func45, Tryz.ntmps45
    go_wp2
    go_ret
    exact ⟨by simp [near, h], rfl⟩
  by_cases h2 : b < n
  all_goals
    go_enter Tryz.func45, Tryz.ntmps45
    go_wp2
    go_ret
    exact ⟨ret_int (by unfold near; repeat' split
                       all_goals omega), rfl⟩
theorem Near_any (n a b : Int) (w : World) : Calls Tryz.prog 27 #[.int .i64 n, .int .i64 a, .int .i64 b] w fun e w' => e = .returned (.int .i64 (near n a b)) ∧ w = w' := by
  by_cases h : n < a
  · go_enter Tryz.func27, Tryz.ntmps27
    go_wp2
    go_ret
    exact ⟨by simp [near, h], rfl⟩
  by_cases h2 : b < n
  all_goals
    go_enter Tryz.func27, Tryz.ntmps27
    go_wp2
    go_ret
    exact ⟨ret_int (by unfold near; repeat' split
                       all_goals omega), rfl⟩
theorem near_id (k : Nat) (h : k ≤ 2048) : near (k : Int) 0 2048 = k := by
  unfold near
  repeat' split
  all_goals omega
theorem near_nat (n : Int) (b : Nat) : ∃ k : Nat, near n 0 b = k ∧ k ≤ b := by
  refine ⟨(near n 0 b).toNat, ?_, ?_⟩ <;> (unfold near; repeat' split) <;> omega
theorem info2' : (Tryz.prog.info? 2).map (fun i => (i.zero, i.size, i.bytes)) = some (some (.int .i64 0), 1, 8) := by kernel_rfl
theorem make_words (n : Nat) (hn : n ≤ 2048) (w : World) :
    (Instr.makeSlice 142 (.int .i64 (n : Int)) (.int .i64 (n : Int))).run Tryz.prog w = .ok (.slice (some ⟨w.heap.size, 0, none⟩) n n) (w.alloc (.cells (ints (List.replicate n 0)).toArray 2)) := by
  obtain ⟨i0, hi, hz0, hz1, hz2⟩ := info_parts info2'
  have h := run_make (P := Tryz.prog) w 142 2 i0 _ Tryz.underlying142 hi hz0 .i64 .i64 n n (by omega) (Int.le_refl _) (by rw [hz2]; omega) (by omega)
  rw [h]
  simp only [Int.toNat_natCast, hz1, Nat.mul_one]
  have e : madeCells (Value.cells (.int .i64 0)) n = (ints (List.replicate n 0)).toArray := by
    apply Array.ext'
    rw [show Value.cells (.int .i64 0) = #[.int .i64 0] from rfl, toList_madeCells_one]
    simp [ints]
  rw [e]
/-- What New answers: a new object over a new row. -/
def NewAns (xs : List Int) (w : World) (e : Ending) (w' : World) : Prop := ∃ g r, e = .returned (.pointer (some ⟨g, 0, none⟩)) ∧ MemAt w' g r xs ∧ w.heap.size ≤ g ∧ w.heap.size ≤ r ∧ w.grownBy w' none
theorem New_any (n : Int) (k : Nat) (hk : near n 0 2048 = k) (w : World) :
    Calls Tryz.prog 75 #[.int .i64 n] w (NewAns (List.replicate k 0) w) := by
  have h2 : k ≤ 2048 := by unfold near at hk; repeat' split at hk
                           all_goals omega
  have HK := Lib.hid hk
  have mk := make_words k h2
  clear hk
  obtain ⟨cs, hcs⟩ : ∃ cs, cs = (ints (List.replicate k 0)).toArray := ⟨_, rfl⟩
  rw [← hcs] at mk
  have HC := Lib.hid hcs
  clear hcs
  go_enter Tryz.func75, Tryz.ntmps75
  go_wp2_with (go_at_call 45; (with_reducible refine (Clamp_any _ _ _ _).mono ?_); rintro e w' ⟨rfl, rfl⟩; rw [HK.out])
  go_ret
  have hs : (w.alloc (.cells cs 2)).heap.size = w.heap.size + 1 := by simp
  refine ⟨_, w.heap.size, rfl, ⟨?_, ?_, by simpa using h2⟩, by omega, Nat.le_refl _, (World.grownBy_alloc _ _ _).trans (World.grownBy_alloc _ _ _)⟩
  · rw [← hs, heap_alloc_new]
    simp
  · rw [Below.heap_alloc _ _ _ (by omega), heap_alloc_new, HC.out]
/-- A list that was made. -/
def ListAns (xs : List Int) (w : World) (e : Ending) (w' : World) : Prop := ∃ A c, e = .returned (.slice A xs.length c) ∧ w'.ownsRow w.heap.size 2 1 (.slice A xs.length c) xs.length (ints xs) ∧ w.grownBy w' none
theorem MemAt.rd {w : World} {g r : Nat} {xs : List Int} (h : MemAt w g r xs) {A : Addr} (hA : 0 < xs.length → A = ⟨r, 0, none⟩) : Rd w w.heap.size (some A) xs.length xs.length xs := by
  refine ⟨rfl, fun e => (by cases e), fun ad e i hi => ?_⟩
  injection e with e
  subst e
  obtain rfl := hA (by omega)
  refine ⟨h.lt.2, ?_⟩
  rw [Addr.add_lit, Nat.zero_add]
  exact h.word hi
theorem part_all {g r : Nat} {xs : List Int} {w : World} (h : MemAt w g r xs) :
    Calls Tryz.prog 143 #[.pointer (some ⟨g, 0, none⟩), .int .i64 0, .int .i64 xs.length] w fun e w' => PartAns r 0 xs.length e ∧ w = w' :=
  part_yes h 0 xs.length (by omega)
end Go.Proofs.YtfloleflcoiidaaGreatDoor.mm
