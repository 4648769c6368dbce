/- Lists of numbers in memory (of type int): those of the call's own, and what the law's own small functions In and Ints answer. -/
import Derived.Test.YtnehhplflgcoiaaGen
import Derived.Test.YtnehhplflgcoiaaRows
import Derived.WalkKit
import Derived.ProofKit
import Derived.OpenShut
import Derived.Lib.Hide
import Derived.IntWalk
import Derived.Laws.AppendOwnNone
import Derived.Maps.Range
import Derived.Deep.Draws
import Derived.Deep.QuietTactic
import Derived.BigQuiet
namespace Go.Proofs.Ytnehhplflgcoiaa.li
open Go.ChangeShapes Go.WideShapes Go.ChangeAt Go.RowKit gen
set_option linter.unusedVariables false

/-- The world w' is w but for what was drawn. -/
def Drew (w w' : World) : Prop := ∃ n, w' = w.drewN n
theorem grown_refl (w : World) (row : Option Nat) : w.grownBy w row := ⟨rfl, rfl, rfl, Nat.le_refl _, fun _ _ _ => rfl⟩
theorem grown_drewN (w : World) (n : Nat) (row : Option Nat) : w.grownBy (w.drewN n) row := ⟨rfl, rfl, rfl, Nat.le_refl _, fun _ _ _ => rfl⟩
def ints (xs : List Int) : List Value := xs.map (Value.int .i64)
theorem ints_length (xs : List Int) : (ints xs).length = xs.length := by simp [ints]
/-- A list of the call's own: nil, or a row that is not r. -/
def Lst (w : World) (r : Nat) (v : Value) (xs : List Int) : Prop := w.ownsRow 0 3 1 v xs.length (ints xs) ∧ v.ownBlock ≠ some r
theorem Lst.kept {w w' : World} {r : Nat} {v : Value} {xs : List Int} {row : Option Nat} (h : Lst w r v xs) (hg : w.grownBy w' row) (hr : v.ownBlock = none ∨ v.ownBlock ≠ row) : Lst w' r v xs :=
  ⟨h.1.kept hg hr, h.2⟩
theorem Lst.grown {w w' : World} {r : Nat} {v : Value} {xs : List Int} (h : Lst w r v xs) (hg : w.grownBy w' (some r)) : Lst w' r v xs := h.kept hg (.inr h.2)
theorem Lst.made {w w' : World} {r : Nat} {v : Value} {xs : List Int} (h : Lst w r v xs) (hg : w.grownBy w' none) : Lst w' r v xs := h.kept hg (by cases v.ownBlock <;> simp)
theorem Lst.rd {w : World} {r : Nat} {v : Value} {xs : List Int} (h : Lst w r v xs) : ∃ A c, v = .slice A xs.length c ∧ Rd w w.heap.size A xs.length c xs := Rd.of_own h.1
theorem Lst.drewN {w : World} {r : Nat} {v : Value} {xs : List Int} (h : Lst w r v xs) (n : Nat) : Lst (w.drewN n) r v xs := h
theorem Lst.rd' {w : World} {r m c : Nat} {A : Option Addr} {xs : List Int} (h : Lst w r (.slice A m c) xs) (hm : xs.length = m) : Rd w w.heap.size A m c xs := by
  subst hm
  obtain ⟨A', c', e, hr⟩ := h.rd
  injection e with h1 h2 h3
  subst h1 h3
  exact hr
theorem Lst.nil (w : World) (r : Nat) : Lst w r (.slice none 0 0) [] := ⟨World.ownsRow_nil _ _ _ _, by simp [Value.ownBlock]⟩
theorem own_lst {w : World} {r base m : Nat} {v : Value} {ys : List Int} (h : w.ownsRow base 3 1 v m (ys.map (Value.int .i64))) (hn : ys.length = m) (hr : r < base) : Lst w r v ys := by
  subst hn
  refine ⟨⟨h.1, ?_⟩, fun e => ?_⟩
  · rcases h.2 with h2 | ⟨g, cap, cur, h1, h2, h3⟩
    · exact .inl h2
    · exact .inr ⟨g, cap, cur, h1, Nat.zero_le _, h3⟩
  · have := own_base h _ e
    omega
theorem rd_own {w : World} {base n c : Nat} {A : Option Addr} {xs : List Int} (h : w.ownsRow base 3 1 (.slice A n c) n (ints xs)) : Rd w w.heap.size A n c xs := by
  obtain ⟨A', c', e, hr⟩ := Rd.of_own h
  injection e with h1 h2 h3
  subst h1 h3
  exact hr
theorem grown_below {a w : World} (h : a.grownBy w none) : Below a.heap.size a w := ⟨h.os, h.tape, h.output, h.size, fun k hk => h.block k hk (by simp)⟩
/-- A row that was made on the way counts as new. -/
theorem grown_new {a b c : World} {r : Nat} (h : a.grownBy b none) (k : b.grownBy c (some r)) (hr : a.heap.size ≤ r) : a.grownBy c none :=
  h.andThen k (fun j hj => .inl (by cases hj; exact hr))
theorem grown_then {a b c : World} {row : Option Nat} (h : a.grownBy b none) (k : b.grownBy c row) : a.grownBy c row :=
  ⟨k.os.trans h.os, k.tape.trans h.tape, k.output.trans h.output, Nat.le_trans h.size k.size, fun i hi hne => (k.block i (Nat.lt_of_lt_of_le hi h.size) hne).trans (h.block i hi (by simp))⟩
theorem grown_more {a b c : World} {row : Option Nat} (h : a.grownBy b row) (k : b.grownBy c none) : a.grownBy c row :=
  ⟨k.os.trans h.os, k.tape.trans h.tape, k.output.trans h.output, Nat.le_trans h.size k.size, fun i hi hne => (k.block i (Nat.lt_of_lt_of_le hi h.size) (by simp)).trans (h.block i hi hne)⟩
/-- What is appended to the call's own row leaves all else. -/
theorem grown_own {a b c : World} {base n : Nat} {v : Value} {xs : List Value} {t : TypeId} (h : a.grownBy b none) (ho : b.ownsRow base t 1 v n xs) (k : b.grownBy c v.ownBlock) (hr : a.heap.size ≤ base) : a.grownBy c none :=
  h.andThen k (fun j hj => .inl (Nat.le_trans hr (own_base ho j hj)))
/-- A list that was made. -/
def ListAns (xs : List Int) (w : World) (e : Ending) (w' : World) : Prop := ∃ A c, e = .returned (.slice A xs.length c) ∧ w'.ownsRow w.heap.size 3 1 (.slice A xs.length c) xs.length (ints xs) ∧ w.grownBy w' none
theorem info_int : (Try.prog.info? 3).map (fun i => (i.zero, i.size, i.bytes)) = some (some (.int .i64 0), 1, 8) := by kernel_rfl
theorem Rd.one (w : World) (x : Int) (t : TypeId) : Rd (w.alloc (.cells #[.int .i64 x] t)) (w.alloc (.cells #[.int .i64 x] t)).heap.size (some ⟨w.heap.size, 0, none⟩) 1 1 [x] := by
  refine ⟨rfl, fun e => (by cases e), fun ad e i hi => ?_⟩
  injection e with e
  subst e
  obtain rfl : i = 0 := by omega
  exact ⟨by simp, by simp [go_sem]⟩
theorem Rd.one_at (w : World) (x : Int) (t : TypeId) {b : Nat} (h : w.heap.size = b) : Rd (w.alloc (.cells #[.int .i64 x] t)) (w.alloc (.cells #[.int .i64 x] t)).heap.size (some ⟨b, 0, none⟩) 1 1 [x] := by
  subst h
  exact Rd.one w x t
theorem getD_mem {xs : List Int} {k : Nat} (h : k < xs.length) (d : Int) : xs.getD k d ∈ xs := by
  rw [List.getD_eq_getElem?_getD, List.getElem?_eq_getElem h]
  exact List.getElem_mem h
theorem take_more {xs : List Int} {k : Nat} (h : k < xs.length) (d : Int) : xs.take (k + 1) = xs.take k ++ [xs.getD k d] := by
  rw [List.take_succ_eq_append_getElem h, List.getD_eq_getElem?_getD, List.getElem?_eq_getElem h]
  rfl
theorem own_or {w : World} {base n c : Nat} {A : Option Addr} {t : TypeId} {xs : List Value} (h : w.ownsRow base t 1 (.slice A n c) n xs) : (A = none ∧ n = 0 ∧ c = 0) ∨ ∃ g, A = some ⟨g, 0, none⟩ ∧ n ≤ c ∧ c ≤ maxLen := by
  rcases h.2 with ⟨e, _⟩ | ⟨g, cap, cur, e, _, _, h1, h2, _⟩
  · injection e with e1 e2 e3
    exact .inl ⟨e1, e2, e3⟩
  · injection e with e1 e2 e3
    exact .inr ⟨g, e1, by omega, by omega⟩
theorem own_mono {w : World} {base base' n : Nat} {t : TypeId} {v : Value} {xs : List Value} (h : w.ownsRow base t 1 v n xs) (hb : base' ≤ base) : w.ownsRow base' t 1 v n xs := by
  refine ⟨h.1, ?_⟩
  rcases h.2 with h2 | ⟨g, cap, cur, h1, h2, h3⟩
  · exact .inl h2
  · exact .inr ⟨g, cap, cur, h1, Nat.le_trans hb h2, h3⟩
theorem Rd.take {w : World} {B n c a c' : Nat} {A : Option Addr} {xs : List Int} (h : Rd w B A n c xs) (ha : a ≤ n) (hc : A = none → c' = 0) : Rd w B A a c' (xs.take a) := by
  refine ⟨by rw [List.length_take, h.1]; omega, fun e => ⟨by have := (h.2.1 e).1; omega, hc e⟩, fun ad e i hi => ?_⟩
  have := h.2.2 ad e i (by omega)
  refine ⟨this.1, ?_⟩
  rw [this.2]
  simp [List.getD_eq_getElem?_getD, hi]
theorem Rd.drop {w : World} {B n c a m c' g : Nat} {A : Option Addr} {xs : List Int} (h : Rd w B (some ⟨g, 0, none⟩) n c xs) (ha : a + m = n) (hA : 0 < m → A = some ⟨g, a, none⟩) (hn : A = none → c' = 0) : Rd w B A m c' (xs.drop a) := by
  refine ⟨by rw [List.length_drop, h.1]; omega, fun e => ⟨?_, hn e⟩, fun ad e i hi => ?_⟩
  · rcases Nat.eq_zero_or_pos m with h0 | h0
    · exact h0
    · rw [hA h0] at e; cases e
  · have h0 := hA (by omega)
    rw [h0] at e
    injection e with e
    subst e
    have := h.2.2 _ rfl (a + i) (by omega)
    rw [Addr.add_lit, Nat.zero_add] at this
    rw [Addr.add_lit]
    refine ⟨this.1, ?_⟩
    rw [this.2]
    simp [List.getD_eq_getElem?_getD]
theorem Rd.none_of {w : World} {B n c a m c' : Nat} {A A' : Option Addr} {xs : List Int} (h : Rd w B A' n c xs) (ha : a + m = a) (hn : A = none → c' = 0) (hx : a = n := by rfl) : Rd w B A m c' (xs.drop a) := by
  obtain rfl : m = 0 := by omega
  subst hx
  refine ⟨by rw [List.length_drop, h.1]; omega, fun e => ⟨rfl, hn e⟩, fun ad e i hi => by omega⟩
theorem grown_one {w wr w2 : World} {base n : Nat} {v : Value} {xs : List Value} {t : TypeId} {o : Obj} (hg : w.grownBy wr none) (ho : wr.ownsRow base t 1 v n xs) (hb : w.heap.size ≤ base) (h : (wr.alloc o).grownBy w2 v.ownBlock) : w.grownBy w2 none :=
  grown_own (hg.trans (World.grownBy_alloc wr o none)) (ho.alloc _) h hb
end Go.Proofs.Ytnehhplflgcoiaa.li
