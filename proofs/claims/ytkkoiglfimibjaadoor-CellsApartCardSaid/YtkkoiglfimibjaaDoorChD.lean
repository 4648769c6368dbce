/- Layer 8's All: what a chain's cells are, and what All does when it is called. -/
import Derived.Test.YtkkoiglfimibjaaDoorChC
import Derived.BigQuiet
namespace Go.Proofs.YtkkoiglfimibjaaDoor.ch
open Go.ChangeShapes Go.WideShapes Go.ChangeAt Go.RowKit gen calls cls geos mm
set_option linter.unusedVariables false

/-- The j-th cell of a chain that begins at f. -/
def sq (xs : List Int) (p k f : Int) : Nat → Int
  | 0 => f
  | j + 1 => lk xs p k (sq xs p k f j)
/-- The first n cells. -/
def outs (xs : List Int) (p k f : Int) (n : Nat) : List Int := (List.range n).map (sq xs p k f)
theorem outs_succ (xs : List Int) (p k f : Int) (n : Nat) : outs xs p k f (n + 1) = outs xs p k f n ++ [sq xs p k f n] := by simp [outs, List.range_succ]
theorem outs_length (xs : List Int) (p k f : Int) (n : Nat) : (outs xs p k f n).length = n := by simp [outs]
/-- So far all are cells, each once. -/
def Good (xs : List Int) (p k f : Int) (n : Nat) : Prop := (∀ x ∈ outs xs p k f n, 0 ≤ x ∧ x < cl k) ∧ (outs xs p k f n).Nodup
/-- A chain of n cells from f on is whole. -/
def Whole (xs : List Int) (p k f : Int) (n : Nat) : Prop := Good xs p k f n ∧ sq xs p k f n = cl k
theorem nodup_few : ∀ (n : Nat) (l : List Int), l.Nodup → (∀ x ∈ l, 0 ≤ x ∧ x < n) → l.length ≤ n
  | 0, l, _, h => by
    cases l with
    | nil => simp
    | cons x l => have := h x (by simp); omega
  | n + 1, l, hd, h => by
    by_cases hm : (n : Int) ∈ l
    · have h1 := nodup_few n (l.erase (n : Int)) (hd.erase _) (fun x hx => by
        have h2 := (hd.mem_erase_iff).1 hx
        have h3 := h x h2.2
        have := h2.1
        omega)
      rw [List.length_erase_of_mem hm] at h1
      omega
    · have h1 := nodup_few n l hd (fun x hx => by
        have h3 := h x hx
        have : x ≠ n := fun e => hm (e ▸ hx)
        omega)
      omega
theorem Good.few {xs : List Int} {p k f : Int} {n : Nat} (h : Good xs p k f n) : n ≤ 16 := by
  have := nodup_few 16 _ h.2 (fun x hx => by have := h.1 x hx; have := cl_wide k; omega)
  rw [outs_length] at this
  exact this
theorem Good.zero (xs : List Int) (p k f : Int) : Good xs p k f 0 := ⟨by simp [outs], by simp [outs]⟩
theorem Good.succ {xs : List Int} {p k f : Int} {n : Nat} : Good xs p k f (n + 1) ↔ (Good xs p k f n ∧ (0 ≤ sq xs p k f n ∧ sq xs p k f n < cl k) ∧ sq xs p k f n ∉ outs xs p k f n) := by
  unfold Good
  rw [outs_succ]
  constructor
  · rintro ⟨h1, h2⟩
    rw [List.nodup_append] at h2
    exact ⟨⟨fun x hx => h1 x (List.mem_append_left _ hx), h2.1⟩, h1 _ (by simp), fun hm => h2.2.2 _ hm _ (by simp) rfl⟩
  · rintro ⟨⟨h1, h2⟩, h3, h4⟩
    refine ⟨fun x hx => ?_, ?_⟩
    · rcases List.mem_append.1 hx with h | h
      · exact h1 x h
      · rw [List.mem_singleton.1 h]; exact h3
    · rw [List.nodup_append]
      exact ⟨h2, by simp, fun x hx y hy e => h4 (by rw [List.mem_singleton.1 hy] at e; exact e ▸ hx)⟩
theorem Good.less {xs : List Int} {p k f : Int} {n : Nat} (h : Good xs p k f n) : ∀ m, m ≤ n → Good xs p k f m := by
  induction n with
  | zero => intro m hm; obtain rfl : m = 0 := by omega
            exact h
  | succ n ih =>
    intro m hm
    by_cases e : m = n + 1
    · subst e; exact h
    · exact ih (Good.succ.1 h).1 m (by omega)
/-- Each of them but the last one tells the next. -/
theorem whole_tells {xs : List Int} {p k f : Int} {n j : Nat} (h : Whole xs p k f n) (hj : j < n) : 0 ≤ lk xs p k (sq xs p k f j) := by
  have e : lk xs p k (sq xs p k f j) = sq xs p k f (j + 1) := rfl
  rw [e]
  by_cases h1 : j + 1 = n
  · rw [h1, h.2]; exact (cl_wide k).1
  · exact ((Good.succ.1 (h.1.less (j + 2) (by omega))).2.1).1

/-- The box of a chain. -/
def Box (w : World) (B : Nat) (a b : Int) : Prop := w.heap[B]? = some (.cells #[.int .i64 a, .int .i64 b] 60 (0, 0))
theorem Box.new (w : World) (a b : Int) {B : Nat} (h : w.heap.size = B) : Box (w.alloc (.cells #[.int .i64 a, .int .i64 b] 60)) B a b := by
  subst h
  exact heap_alloc_new _ _
theorem Box.kept {w w' : World} {B : Nat} {a b : Int} {row : Option Nat} (h : Box w B a b) (hg : w.grownBy w' row) (hr : some B ≠ row) : Box w' B a b := (hg.block B (lt_of_heap h) hr).trans h
theorem Box.two {w : World} {B : Nat} {a b : Int} (h : Box w B a b) : Two w B a b := by
  refine ⟨?_, ?_, frozen_of_row w B 0 _ _ h, frozen_of_row w B 1 _ _ h⟩
  · rw [cell_of_row w B 0 _ _ _ h]; rfl
  · rw [cell_of_row w B 1 _ _ _ h]; rfl
theorem Box.set {w : World} {B : Nat} {a b : Int} (h : Box w B a b) (a' b' : Int) : Box ((w.setCell ⟨B, 0, none⟩ (.int .i64 a')).setCell ⟨B, 1, none⟩ (.int .i64 b')) B a' b' := by
  have h1 := heap_setCell_same w B 0 _ _ (.int .i64 a') h
  exact heap_setCell_same _ B 1 _ _ (.int .i64 b') h1
theorem Box.setc {w : World} {B C : Nat} {a b : Int} (h : Box w B a b) (hC : B ≠ C) (k : Nat) (v : Value) : Box (w.setCell ⟨C, k, none⟩ v) B a b := (heap_setCell_other w ⟨C, k, none⟩ B v hC).trans h
/-- Who was met. -/
def mets (l : List Int) : List Value := (List.range 32).map fun (i : Nat) => .bool (decide ((i : Int) ∈ l))
theorem own_lt {w : World} {base n : Nat} {e : TypeId} {size : Nat} {v : Value} {xs : List Value} (h : w.ownsRow base e size v n xs) : ∀ q, v.ownBlock = some q → q < w.heap.size := by
  intro q hq
  rcases h.2 with ⟨rfl, _⟩ | ⟨g, cap, cur, rfl, hb, hg, _⟩
  · cases hq
  · simp [Value.ownBlock] at hq
    subst hq
    exact lt_of_heap hg

/-- What All answers: the numbers, if the chain is whole; else none. -/
def AllAns (xs : List Int) (p k f : Int) (n : Nat) (w : World) (e : Ending) (w' : World) : Prop :=
  ((Whole xs p k f n ∧ ∃ A c, e = .returned (.tuple #[.slice A n c, .bool true]) ∧ w'.ownsRow w.heap.size 3 1 (.slice A n c) n ((outs xs p k f n).map (Value.int .i64))) ∨ (¬ Whole xs p k f n ∧ e = none2)) ∧ w.grownBy w' none

theorem grown_alloc {w w1 : World} {row : Option Nat} (h : w.grownBy w1 row) (o : Obj) : w.grownBy (w1.alloc o) row := h.trans (World.grownBy_alloc w1 o row)
theorem grown_row {w w1 : World} {B : Nat} (h : w.grownBy w1 (some B)) (k : Nat) (v : Value) : w.grownBy (w1.setCell ⟨B, k, none⟩ v) (some B) :=
  ⟨h.os, h.tape, h.output, by simpa using h.size, fun i hi hne => (heap_setCell_other w1 ⟨B, k, none⟩ i v (by simpa using hne)).trans (h.block i hi hne)⟩
end Go.Proofs.YtkkoiglfimibjaaDoor.ch
