/- Texts that this claim stands on. -/
import Derived.Test.YtfhebjkoojodiaaDoorQLiA
import Derived.Test.YtfhebjkoojodiaaDoorQGenC
namespace Go.Proofs.YtfhebjkoojodiaaDoor.gr
open Go.ChangeShapes Go.WideShapes Go.ChangeAt Go.RowKit gen li
set_option linter.unusedVariables false
structure Gr (L : List Nat) (w w' : World) : Prop where
  os : w'.os = w.os
  tape : w'.tape = w.tape
  output : w'.output = w.output
  size : w.heap.size ≤ w'.heap.size
  block : ∀ k, k < w.heap.size → k ∉ L → w'.heap[k]? = w.heap[k]?
section
variable {L M : List Nat} {a b w w' w'' : World}
theorem Gr.refl (L : List Nat) (w : World) : Gr L w w := ⟨rfl, rfl, rfl, Nat.le_refl _, fun _ _ _ => rfl⟩
theorem Gr.trans (h : Gr L w w') (k : Gr L w' w'') : Gr L w w'' :=
  ⟨k.os.trans h.os, k.tape.trans h.tape, k.output.trans h.output, Nat.le_trans h.size k.size, fun i h1 h2 => (k.block i (Nat.lt_of_lt_of_le h1 h.size) h2).trans (h.block i h1 h2)⟩
theorem Gr.of {row : Option Nat} (h : w.grownBy w' row) (hr : ∀ q, row = some q → q ∈ L) : Gr L w w' :=
  ⟨h.os, h.tape, h.output, h.size, fun k h1 h2 => h.block k h1 (fun e => h2 (hr k e.symm))⟩
theorem Gr.new (h : w.grownBy w' none) : Gr L w w' := .of h (fun _ e => by cases e)
theorem Gr.one {q : Nat} (h : w.grownBy w' (some q)) (hq : q ∈ L) : Gr L w w' := .of h (fun _ e => by injection e with e; subst e; exact hq)
theorem Gr.made (h : Gr L w w') (k : w'.grownBy w'' none) : Gr L w w'' := h.trans (.new k)
theorem Gr.mono (h : Gr L w w') (hL : ∀ k, k ∈ L → k ∈ M) : Gr M w w' := ⟨h.os, h.tape, h.output, h.size, fun k h1 h2 => h.block k h1 (fun e => h2 (hL k e))⟩
theorem Gr.own (h : Gr L w w') (k : Gr M w' w'') (hM : ∀ q, q ∈ M → q ∈ L ∨ w.heap.size ≤ q) : Gr L w w'' :=
  ⟨k.os.trans h.os, k.tape.trans h.tape, k.output.trans h.output, Nat.le_trans h.size k.size, fun i h1 h2 => (k.block i (Nat.lt_of_lt_of_le h1 h.size) (fun hm => by rcases hM i hm with e | e; (exact h2 e); omega)).trans (h.block i h1 h2)⟩
theorem Gr.heap (h : Gr L w w') {k : Nat} {o : Obj} (hk : w.heap[k]? = some o) (hn : k ∉ L) : w'.heap[k]? = some o := (h.block k (Array.getElem?_eq_some_iff.1 hk).1 hn).trans hk
theorem Gr.cell (h : Gr L w w') {p : Addr} {v : Value} (hc : w.cell? p = some v) (hn : p.block ∉ L) : w'.cell? p = some v :=
  (World.cell?_of_block (h.block _ (World.block_lt_of_cell? w p hc) hn)).trans hc
theorem Gr.grown (h : a.grownBy w none) (k : Gr L w w') (hL : ∀ q, q ∈ L → a.heap.size ≤ q) : a.grownBy w' none :=
  ⟨k.os.trans h.os, k.tape.trans h.tape, k.output.trans h.output, Nat.le_trans h.size k.size, fun i h1 _ => (k.block i (Nat.lt_of_lt_of_le h1 h.size) (fun e => by have := hL i e; omega)).trans (h.block i h1 (by simp))⟩
theorem own_lt {base n : Nat} {v : Value} {t : TypeId} {l : List Value} (h : w.ownsRow base t 1 v n l) : ∀ q, v.ownBlock = some q → base ≤ q ∧ q < w.heap.size := fun q e => by
  rcases h.2 with ⟨rfl, _⟩ | ⟨g, cap, cur, rfl, hb, hg, _⟩
  · cases e
  · injection e with e
    subst e
    exact ⟨hb, (Array.getElem?_eq_some_iff.1 hg).1⟩
theorem own_gr {base n : Nat} {v : Value} {t : TypeId} {l : List Value} (h : w.ownsRow base t 1 v n l) (hg : Gr L w w') (hL : ∀ q, v.ownBlock = some q → q ∉ L) : w'.ownsRow base t 1 v n l := by
  refine ⟨h.1, ?_⟩
  rcases h.2 with ⟨rfl, e⟩ | ⟨g, cap, cur, rfl, hb, hk, h1, h2, h3, h4⟩
  · exact .inl ⟨rfl, e⟩
  · exact .inr ⟨g, cap, cur, rfl, hb, hg.heap hk (hL g rfl), h1, h2, h3, h4⟩
theorem grown_set (w : World) (g o : Nat) (v : Value) : w.grownBy (w.setCell ⟨g, o, none⟩ v) (some g) := ⟨rfl, rfl, rfl, by simp, fun i _ hi => heap_setCell_other w ⟨g, o, none⟩ i _ (fun e => hi (by simp [e]))⟩
theorem grown_drew (w : World) (row : Option Nat) : w.grownBy w.drew row := ⟨rfl, rfl, rfl, Nat.le_refl _, fun _ _ _ => rfl⟩
end
theorem Gr.frozen {L : List Nat} {w w' : World} {p : Addr} {b : Bool} (h : Gr L w w') (hc : w.frozen? p = b) (hp : p.block < w.heap.size) (hn : p.block ∉ L) : w'.frozen? p = b := by
  have := h.block p.block hp hn
  unfold World.frozen? at hc ⊢
  rw [this]
  exact hc
end Go.Proofs.YtfhebjkoojodiaaDoor.gr
