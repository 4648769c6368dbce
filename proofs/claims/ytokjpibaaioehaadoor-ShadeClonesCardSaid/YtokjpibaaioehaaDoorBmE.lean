/- Lists that are made: without, Rising; All of a set; New, Clone. -/
import Derived.Test.YtokjpibaaioehaaDoorBmL
namespace Go.Proofs.YtokjpibaaioehaaDoor.bm
open Go.ChangeShapes Go.WideShapes Go.ChangeAt Go.RowKit gen
set_option linter.unusedVariables false

theorem filter_more {xs : List Int} {k : Nat} (hk : k < xs.length) (p : Int → Bool) : (xs.take (k + 1)).filter p = (xs.take k).filter p ++ if p (xs.getD k 0) then [xs.getD k 0] else [] := by
  rw [take_more hk 0, List.filter_append, List.filter_cons, List.filter_nil]
theorem grown_one {w wr w2 : World} {base n : Nat} {v : Value} {xs : List Value} {t : TypeId} {o : Obj} (hg : w.grownBy wr none) (ho : wr.ownsRow base t 1 v n xs) (hb : w.heap.size ≤ base) (h : (wr.alloc o).grownBy w2 v.ownBlock) : w.grownBy w2 none :=
  grown_own (hg.trans (World.grownBy_alloc wr o none)) (ho.alloc _) h hb
theorem rising_more {xs : List Int} {k : Nat} (hk : k < xs.length) : rising (xs.take (k + 1)) = ins (rising (xs.take k)) (xs.getD k 0) := by
  rw [take_more hk 0]
  unfold rising
  rw [List.foldl_append]
  rfl
theorem fold_length : ∀ (l out : List Int), (l.foldl ins out).length ≤ out.length + l.length
  | [], _ => by simp
  | x :: l, out => by
    have h1 := fold_length l (ins out x)
    have h2 := ins_length out x
    rw [List.foldl_cons, List.length_cons]
    omega
theorem rising_length (l : List Int) : (rising l).length ≤ l.length := by
  have := fold_length l []
  simpa [rising] using this
/-- The numbers ahead of the place at which one is put in. -/
theorem take_stop : ∀ {out : List Int} {x : Int} {a : Nat}, a ≤ out.length → (∀ y ∈ out.take a, y < x) → (a < out.length → ¬ out.getD a 0 < x) →
    out.takeWhile (fun y => decide (y < x)) = out.take a ∧ out.dropWhile (fun y => decide (y < x)) = out.drop a
  | [], x, a, ha, _, _ => by simp
  | y :: out, x, 0, ha, h1, h2 => by
    have : ¬ y < x := h2 (by simp)
    rw [List.takeWhile_cons_of_neg (by simpa using this), List.dropWhile_cons_of_neg (by simpa using this)]
    exact ⟨rfl, rfl⟩
  | y :: out, x, a + 1, ha, h1, h2 => by
    have hy : y < x := h1 y (by simp)
    rw [List.takeWhile_cons_of_pos (by simpa using hy), List.dropWhile_cons_of_pos (by simpa using hy)]
    obtain ⟨e1, e2⟩ := take_stop (out := out) (x := x) (a := a) (by simpa using ha) (fun z hz => h1 z (by rw [List.take_succ_cons]; exact List.mem_cons_of_mem _ hz)) (fun h => by have := h2 (by simpa using h); simpa using this)
    rw [e1, e2]
    exact ⟨rfl, rfl⟩
theorem ins_at {out : List Int} {x : Int} {a : Nat} (hx : x ∉ out) (ha : a ≤ out.length) (h1 : ∀ y ∈ out.take a, y < x) (h2 : a < out.length → ¬ out.getD a 0 < x) : ins out x = out.take a ++ x :: out.drop a := by
  obtain ⟨e1, e2⟩ := take_stop ha h1 h2
  unfold ins
  rw [if_neg hx, e1, e2]
theorem own_or {w : World} {base n c : Nat} {A : Option Addr} {t : TypeId} {xs : List Value} (h : w.ownsRow base t 1 (.slice A n c) n xs) : (A = none ∧ n = 0 ∧ c = 0) ∨ ∃ g, A = some ⟨g, 0, none⟩ ∧ n ≤ c ∧ c ≤ maxLen := by
  rcases h.2 with ⟨e, _⟩ | ⟨g, cap, cur, e, _, _, h1, h2, _⟩
  · injection e with e1 e2 e3
    exact .inl ⟨e1, e2, e3⟩
  · injection e with e1 e2 e3
    exact .inr ⟨g, e1, by omega, by omega⟩
theorem own_mono {w : World} {base base' n : Nat} {t : TypeId} {v : Value} {xs : List Value} (h : w.ownsRow base t 1 v n xs) (hb : base' ≤ base) : w.ownsRow base' t 1 v n xs := by
  refine ⟨h.1, ?_⟩
  rcases h.2 with h2 | ⟨g, cap, cur, h1, h2, h3⟩
  · exact .inl h2
  · exact .inr ⟨g, cap, cur, h1, Nat.le_trans hb h2, h3⟩
theorem Rd.take {w : World} {B n c a c' : Nat} {A : Option Addr} {xs : List Int} (h : Rd w B A n c xs) (ha : a ≤ n) (hc : A = none → c' = 0) : Rd w B A a c' (xs.take a) := by
  refine ⟨by rw [List.length_take, h.1]; omega, fun e => ⟨by have := (h.2.1 e).1; omega, hc e⟩, fun ad e i hi => ?_⟩
  have := h.2.2 ad e i (by omega)
  refine ⟨this.1, ?_⟩
  rw [this.2]
  simp [List.getD_eq_getElem?_getD, hi]
theorem Rd.drop {w : World} {B n c a m c' g : Nat} {A : Option Addr} {xs : List Int} (h : Rd w B (some ⟨g, 0, none⟩) n c xs) (ha : a + m = n) (hA : 0 < m → A = some ⟨g, a, none⟩) (hn : A = none → c' = 0) : Rd w B A m c' (xs.drop a) := by
  refine ⟨by rw [List.length_drop, h.1]; omega, fun e => ⟨?_, hn e⟩, fun ad e i hi => ?_⟩
  · rcases Nat.eq_zero_or_pos m with h0 | h0
    · exact h0
    · rw [hA h0] at e; cases e
  · have h0 := hA (by omega)
    rw [h0] at e
    injection e with e
    subst e
    have := h.2.2 _ rfl (a + i) (by omega)
    rw [Addr.add_lit, Nat.zero_add] at this
    rw [Addr.add_lit]
    refine ⟨this.1, ?_⟩
    rw [this.2]
    simp [List.getD_eq_getElem?_getD]
theorem Rd.none_of {w : World} {B n c a m c' : Nat} {A A' : Option Addr} {xs : List Int} (h : Rd w B A' n c xs) (ha : a + m = a) (hn : A = none → c' = 0) (hx : a = n := by rfl) : Rd w B A m c' (xs.drop a) := by
  obtain rfl : m = 0 := by omega
  subst hx
  refine ⟨by rw [List.length_drop, h.1]; omega, fun e => ⟨rfl, hn e⟩, fun ad e i hi => by omega⟩
end Go.Proofs.YtokjpibaaioehaaDoor.bm
