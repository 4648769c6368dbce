/- Buffers in memory: a row of lists of numbers, each in a row of its own. What stands where, and what stays. -/
import Derived.Test.YtljahpjdkkennaaLiA
import Derived.RegionTactic
import Derived.Deep.RegionLaw
import Derived.Deep.AppendLies
import Derived.Deep.RegionHeld3
import Derived.Deep.RegionHeldLaw
import Derived.Laws.Cover3
import Derived.Laws.CopyOwn
import Derived.Laws.OwnMore
import Derived.Lib.SliceRun
namespace Go.Proofs.Ytljahpjdkkennaa.bf
open Go.ChangeShapes Go.WideShapes Go.ChangeAt Go.RowKit gen li
set_option linter.unusedVariables false
set_option maxHeartbeats 4000000
set_option maxRecDepth 100000

/-- All blocks but those of L stay as they were; none goes. -/
structure Gr (L : List Nat) (w w' : World) : Prop where
  os : w'.os = w.os
  tape : w'.tape = w.tape
  output : w'.output = w.output
  size : w.heap.size ≤ w'.heap.size
  block : ∀ k, k < w.heap.size → k ∉ L → w'.heap[k]? = w.heap[k]?
section
variable {L M : List Nat} {a b w w' w'' : World}
theorem Gr.refl (L : List Nat) (w : World) : Gr L w w := ⟨rfl, rfl, rfl, Nat.le_refl _, fun _ _ _ => rfl⟩
theorem Gr.trans (h : Gr L w w') (k : Gr L w' w'') : Gr L w w'' :=
  ⟨k.os.trans h.os, k.tape.trans h.tape, k.output.trans h.output, Nat.le_trans h.size k.size, fun i h1 h2 => (k.block i (Nat.lt_of_lt_of_le h1 h.size) h2).trans (h.block i h1 h2)⟩
theorem Gr.of {row : Option Nat} (h : w.grownBy w' row) (hr : ∀ q, row = some q → q ∈ L) : Gr L w w' :=
  ⟨h.os, h.tape, h.output, h.size, fun k h1 h2 => h.block k h1 (fun e => h2 (hr k e.symm))⟩
theorem Gr.new (h : w.grownBy w' none) : Gr L w w' := .of h (fun _ e => by cases e)
theorem Gr.one {q : Nat} (h : w.grownBy w' (some q)) (hq : q ∈ L) : Gr L w w' := .of h (fun _ e => by injection e with e; subst e; exact hq)
theorem Gr.made (h : Gr L w w') (k : w'.grownBy w'' none) : Gr L w w'' := h.trans (.new k)
theorem Gr.mono (h : Gr L w w') (hL : ∀ k, k ∈ L → k ∈ M) : Gr M w w' := ⟨h.os, h.tape, h.output, h.size, fun k h1 h2 => h.block k h1 (fun e => h2 (hL k e))⟩
/-- What was written lay in what is written, or is new. -/
theorem Gr.own (h : Gr L w w') (k : Gr M w' w'') (hM : ∀ q, q ∈ M → q ∈ L ∨ w.heap.size ≤ q) : Gr L w w'' :=
  ⟨k.os.trans h.os, k.tape.trans h.tape, k.output.trans h.output, Nat.le_trans h.size k.size, fun i h1 h2 => (k.block i (Nat.lt_of_lt_of_le h1 h.size) (fun hm => by rcases hM i hm with e | e; (exact h2 e); omega)).trans (h.block i h1 h2)⟩
theorem Gr.heap (h : Gr L w w') {k : Nat} {o : Obj} (hk : w.heap[k]? = some o) (hn : k ∉ L) : w'.heap[k]? = some o := (h.block k (Array.getElem?_eq_some_iff.1 hk).1 hn).trans hk
theorem Gr.cell (h : Gr L w w') {p : Addr} {v : Value} (hc : w.cell? p = some v) (hn : p.block ∉ L) : w'.cell? p = some v :=
  (World.cell?_of_block (h.block _ (World.block_lt_of_cell? w p hc) hn)).trans hc
/-- All that was written is new. -/
theorem Gr.grown (h : a.grownBy w none) (k : Gr L w w') (hL : ∀ q, q ∈ L → a.heap.size ≤ q) : a.grownBy w' none :=
  ⟨k.os.trans h.os, k.tape.trans h.tape, k.output.trans h.output, Nat.le_trans h.size k.size, fun i h1 _ => (k.block i (Nat.lt_of_lt_of_le h1 h.size) (fun e => by have := hL i e; omega)).trans (h.block i h1 (by simp))⟩
theorem own_lt {base n : Nat} {v : Value} {t : TypeId} {l : List Value} (h : w.ownsRow base t 1 v n l) : ∀ q, v.ownBlock = some q → base ≤ q ∧ q < w.heap.size := fun q e => by
  rcases h.2 with ⟨rfl, _⟩ | ⟨g, cap, cur, rfl, hb, hg, _⟩
  · cases e
  · injection e with e
    subst e
    exact ⟨hb, (Array.getElem?_eq_some_iff.1 hg).1⟩
theorem own_gr {base n : Nat} {v : Value} {t : TypeId} {l : List Value} (h : w.ownsRow base t 1 v n l) (hg : Gr L w w') (hL : ∀ q, v.ownBlock = some q → q ∉ L) : w'.ownsRow base t 1 v n l := by
  refine ⟨h.1, ?_⟩
  rcases h.2 with ⟨rfl, e⟩ | ⟨g, cap, cur, rfl, hb, hk, h1, h2, h3, h4⟩
  · exact .inl ⟨rfl, e⟩
  · exact .inr ⟨g, cap, cur, rfl, hb, hg.heap hk (hL g rfl), h1, h2, h3, h4⟩
theorem ty_ne {a b : Nat} {x y : Array Value} {t u : TypeId} {f k : Nat × Nat} (h1 : w.heap[a]? = some (.cells x t f)) (h2 : w.heap[b]? = some (.cells y u k)) (h : t ≠ u) : a ≠ b := by
  rintro rfl
  have := h1.symm.trans h2
  injection this with this
  injection this with _ e _
  exact h e
theorem grown_set (w : World) (g o : Nat) (v : Value) : w.grownBy (w.setCell ⟨g, o, none⟩ v) (some g) := ⟨rfl, rfl, rfl, by simp, fun i _ hi => heap_setCell_other w ⟨g, o, none⟩ i _ (fun e => hi (by simp [e]))⟩
theorem grown_drew (w : World) (row : Option Nat) : w.grownBy w.drew row := ⟨rfl, rfl, rfl, Nat.le_refl _, fun _ _ _ => rfl⟩
end
/-! ### Lists of numbers that may stand in a buffer -/
/-- Each number may be, and stands once. -/
def Wl (l : List Int) : Prop := l.Nodup ∧ ∀ x ∈ l, 0 ≤ x ∧ x < 2048
theorem Wl.nil : Wl [] := ⟨List.nodup_nil, fun x h => by cases h⟩
theorem Wl.put {l : List Int} {a : Int} (h : Wl l) (h1 : 0 ≤ a) (h2 : a < 2048) (h3 : a ∉ l) : Wl (l ++ [a]) := by
  refine ⟨List.nodup_append.2 ⟨h.1, by simp, fun x hx y hy e => ?_⟩, fun x hx => ?_⟩
  · rw [List.mem_singleton] at hy
    subst hy e
    exact h3 hx
  · rw [List.mem_append, List.mem_singleton] at hx
    rcases hx with hx | rfl
    · exact h.2 x hx
    · exact ⟨h1, h2⟩
/-- No more numbers, each once, than there are. -/
theorem room : ∀ (n : Nat) (l : List Int), l.Nodup → (∀ x ∈ l, 0 ≤ x ∧ x < (n : Int)) → l.length ≤ n
  | 0, l, _, h => by
    cases l with
    | nil => simp
    | cons x l => have := h x (by simp); omega
  | n + 1, l, hn, h => by
    have h1 : (l.erase (n : Int)).Nodup := hn.erase _
    have h2 := room n (l.erase (n : Int)) h1 (fun x hx => by
      have a := h x (List.mem_of_mem_erase hx)
      have b : x ≠ (n : Int) := fun e => by subst e; exact (List.Nodup.not_mem_erase hn) hx
      omega)
    have h3 : l.length ≤ (l.erase (n : Int)).length + 1 := by
      rw [List.length_erase]
      split <;> omega
    omega
theorem Wl.room {l : List Int} (h : Wl l) : l.length ≤ 2048 := bf.room 2048 l h.1 (fun x hx => by have := h.2 x hx; omega)
/-- So many threads, each with such a list. -/
def Ok (ls : List (List Int)) : Prop := ls.length ≤ 8 ∧ ∀ i, Wl (ls.getD i [])
theorem Ok.set {ls : List (List Int)} {l : List Int} (h : Ok ls) (k : Nat) (hl : Wl l) : Ok (ls.set k l) := by
  refine ⟨by simpa using h.1, fun i => ?_⟩
  rw [List.getD_eq_getElem?_getD, List.getElem?_set]
  split
  · split
    · exact hl
    · exact Wl.nil
  · rw [← List.getD_eq_getElem?_getD]
    exact h.2 i
theorem Ok.rep {k : Nat} (h : k ≤ 8) : Ok (List.replicate k []) := by
  refine ⟨by simpa using h, fun i => ?_⟩
  rw [List.getD_eq_getElem?_getD, List.getElem?_replicate]
  split <;> exact Wl.nil
theorem Ok.le {ls : List (List Int)} (h : Ok ls) (i : Nat) : (ls.getD i []).length ≤ 2048 := (h.2 i).room
/-! ### How many in all -/
def tot (ls : List (List Int)) : Nat := (ls.map List.length).sum
theorem take_more {ls : List (List Int)} {k : Nat} (h : k < ls.length) : ls.take (k + 1) = ls.take k ++ [ls.getD k []] := by
  rw [List.take_succ_eq_append_getElem h, List.getD_eq_getElem?_getD, List.getElem?_eq_getElem h]
  rfl
theorem tot_more {ls : List (List Int)} {k : Nat} (h : k < ls.length) : tot (ls.take (k + 1)) = tot (ls.take k) + (ls.getD k []).length := by
  rw [take_more h]
  simp [tot]
theorem tot_le {ls : List (List Int)} (h : Ok ls) : ∀ k, k ≤ ls.length → tot (ls.take k) ≤ 2048 * k
  | 0, _ => by simp [tot]
  | k + 1, hk => by
    have := tot_le h k (by omega)
    have h2 := h.le k
    rw [tot_more (by omega)]
    omega
theorem tot_all {ls : List (List Int)} {k : Nat} (h : ls.length ≤ k) : tot (ls.take k) = tot ls := by rw [List.take_of_length_le h]
theorem tot_rep (k : Nat) : tot (List.replicate k []) = 0 := by simp [tot]
theorem tot_zero {ls : List (List Int)} {k : Nat} (h : k < ls.length) (h1 : (ls.getD k []).length ≠ 0) : tot ls ≠ 0 := by
  have : ls = ls.take k ++ (ls.getD k [] :: ls.drop (k + 1)) := by
    rw [← List.singleton_append, ← List.append_assoc, ← take_more h, List.take_append_drop]
  rw [this]
  simp only [tot, List.map_append, List.sum_append, List.map_cons, List.sum_cons]
  omega
/-! ### A list of the call's own -/
/-- The value of no list. -/
abbrev nl : Value := .slice none 0 0
def Li (w : World) (v : Value) (m : List Int) : Prop := w.ownsRow 0 3 1 v m.length (ints m)
section
variable {w w' : World} {v : Value} {m : List Int} {L : List Nat}
theorem Li.kept {row : Option Nat} (h : Li w v m) (hg : w.grownBy w' row) (hr : v.ownBlock = none ∨ v.ownBlock ≠ row) : Li w' v m := World.ownsRow.kept h hg hr
theorem Li.new (h : Li w v m) (hg : w.grownBy w' none) : Li w' v m := h.kept hg (by cases v.ownBlock <;> simp)
theorem Li.gr (h : Li w v m) (hg : Gr L w w') (hL : ∀ q, v.ownBlock = some q → q ∉ L) : Li w' v m := own_gr h hg hL
theorem Li.nil (w : World) : Li w nl [] := World.ownsRow_nil _ _ _ _
theorem Li.off {k : Nat} {o : Obj} (h : Li w v m) (hk : w.heap[k]? = some o) (hn : ∀ cs z, o ≠ .cells cs 3 z) : v.ownBlock ≠ some k := fun e => by
  rcases h.2 with ⟨rfl, _⟩ | ⟨g, cap, cur, rfl, _, hg, _⟩
  · cases e
  · injection e with e
    subst e
    rw [hg] at hk
    injection hk with hk
    exact hn _ _ hk.symm
theorem Li.rd {A : Option Addr} {N c : Nat} (h : Li w (.slice A N c) m) (hN : N = m.length) : Rd w w.heap.size A N c m := by
  subst hN
  exact rd_own h
theorem Li.lt (h : Li w v m) : ∀ q, v.ownBlock = some q → q < w.heap.size := fun q e => (own_lt h q e).2
theorem Li.shape (h : Li w v m) : ∃ A c, v = .slice A m.length c := by
  rcases h.2 with ⟨rfl, e⟩ | ⟨g, cap, cur, rfl, _⟩
  · rw [e]; exact ⟨none, 0, rfl⟩
  · exact ⟨_, _, rfl⟩
end
/-! ### Buffers -/
structure Bi (w : World) (g R : Nat) (us : List Value) (ls : List (List Int)) : Prop where
  box : w.heap[g]? = some (.cells #[.slice (some ⟨R, 0, none⟩) ls.length ls.length] 41 (0, 0))
  row : w.heap[R]? = some (.cells us.toArray 32 (0, 0))
  len : us.length = ls.length
  ok : Ok ls
  each : ∀ i, i < ls.length → Li w (us.getD i nl) (ls.getD i [])
  apart : ∀ i j, i < ls.length → j < ls.length → i ≠ j → ∀ b, (us.getD i nl).ownBlock = some b → (us.getD j nl).ownBlock ≠ some b
/-- The blocks in which they lie. -/
def ks (g R : Nat) (us : List Value) : List Nat := g :: R :: us.filterMap Value.ownBlock
theorem getD_mem' {us : List Value} {i : Nat} (h : i < us.length) : us.getD i nl ∈ us := by
  rw [List.getD_eq_getElem?_getD, List.getElem?_eq_getElem h]
  exact List.getElem_mem h
theorem ks_at {g R i b : Nat} {us : List Value} (h : i < us.length) (hb : (us.getD i nl).ownBlock = some b) : b ∈ ks g R us := by
  refine List.mem_cons_of_mem _ (List.mem_cons_of_mem _ (List.mem_filterMap.2 ⟨_, getD_mem' h, hb⟩))
theorem ks_of {g R b : Nat} {us : List Value} (h : b ∈ ks g R us) : b = g ∨ b = R ∨ ∃ i, i < us.length ∧ (us.getD i nl).ownBlock = some b := by
  rcases List.mem_cons.1 h with h | h
  · exact .inl h
  rcases List.mem_cons.1 h with h | h
  · exact .inr (.inl h)
  obtain ⟨u, hu, hb⟩ := List.mem_filterMap.1 h
  obtain ⟨i, hi, rfl⟩ := List.getElem_of_mem hu
  exact .inr (.inr ⟨i, hi, by rw [List.getD_eq_getElem?_getD, List.getElem?_eq_getElem hi]; exact hb⟩)
section
variable {w w' : World} {g R : Nat} {us : List Value} {ls : List (List Int)} {L : List Nat}
theorem Bi.g_lt (h : Bi w g R us ls) : g < w.heap.size := (Array.getElem?_eq_some_iff.1 h.box).1
theorem Bi.R_lt (h : Bi w g R us ls) : R < w.heap.size := (Array.getElem?_eq_some_iff.1 h.row).1
theorem Bi.lt (h : Bi w g R us ls) : ∀ k, k ∈ ks g R us → k < w.heap.size := fun k hk => by
  rcases ks_of hk with rfl | rfl | ⟨i, hi, hb⟩
  · exact h.g_lt
  · exact h.R_lt
  · exact (h.each i (by rw [← h.len]; exact hi)).lt _ hb
theorem Bi.gr (h : Bi w g R us ls) (hg : Gr L w w') (hL : ∀ k, k ∈ ks g R us → k ∉ L) : Bi w' g R us ls :=
  ⟨hg.heap h.box (hL _ (by simp [ks])), hg.heap h.row (hL _ (by simp [ks])), h.len, h.ok,
    fun i hi => (h.each i hi).gr hg (fun q e => hL q (ks_at (by rw [h.len]; exact hi) e)), h.apart⟩
theorem Bi.new (h : Bi w g R us ls) (hg : w.grownBy w' none) : Bi w' g R us ls := h.gr (L := []) (.new hg) (fun _ _ => by simp)
theorem Bi.drewN (h : Bi w g R us ls) (n : Nat) : Bi (w.drewN n) g R us ls := h.new (li.grown_drewN _ _ _)
theorem Bi.c0 (h : Bi w g R us ls) : w.cell? ⟨g, 0, none⟩ = some (.slice (some ⟨R, 0, none⟩) ls.length ls.length) := by rw [cell_of_row w g 0 _ _ _ h.box]; rfl
theorem Bi.at_ (h : Bi w g R us ls) {i : Nat} (hi : i < ls.length) : w.cell? ⟨R, i, none⟩ = some (us.getD i nl) := by
  rw [cell_of_row w R i _ _ _ h.row]
  have : i < us.length := by rw [h.len]; exact hi
  simp [List.getD_eq_getElem?_getD, this]
theorem Bi.free (h : Bi w g R us ls) (i : Nat) : w.frozen? ⟨R, i, none⟩ = false := frozen_of_row w R i _ _ h.row
theorem Bi.off (h : Bi w g R us ls) {i : Nat} (hi : i < ls.length) : (us.getD i nl).ownBlock ≠ some g ∧ (us.getD i nl).ownBlock ≠ some R :=
  ⟨(h.each i hi).off h.box (fun cs z => by simp), (h.each i hi).off h.row (fun cs z => by simp)⟩
theorem Bi.ne (h : Bi w g R us ls) : g ≠ R := ty_ne h.box h.row (by decide)
theorem set_same {us : List Value} {k : Nat} (v : Value) (h : k < us.length) : (us.set k v).getD k nl = v := by
  rw [List.getD_eq_getElem?_getD, List.getElem?_set]
  simp [h]
theorem set_else {us : List Value} {k i : Nat} (v : Value) (h : k ≠ i) : (us.set k v).getD i nl = us.getD i nl := by
  rw [List.getD_eq_getElem?_getD, List.getElem?_set, if_neg h, ← List.getD_eq_getElem?_getD]
theorem lset_same {ls : List (List Int)} {k : Nat} (v : List Int) (h : k < ls.length) : (ls.set k v).getD k [] = v := by
  rw [List.getD_eq_getElem?_getD, List.getElem?_set]
  simp [h]
theorem lset_else {ls : List (List Int)} {k i : Nat} (v : List Int) (h : k ≠ i) : (ls.set k v).getD i [] = ls.getD i [] := by
  rw [List.getD_eq_getElem?_getD, List.getElem?_set, if_neg h, ← List.getD_eq_getElem?_getD]
/-- One thread's list is another one now: what changed is the row, its old list, and what is new. -/
theorem Bi.put {W : World} (h : Bi w g R us ls) {k : Nat} (hk : k < ls.length) {v : Value} {l : List Int} (hl : Li W v l) (hg : w.grownBy W (us.getD k nl).ownBlock)
    (hb : ∀ b, v.ownBlock = some b → (us.getD k nl).ownBlock = some b ∨ w.heap.size ≤ b) (hw : Wl l) :
    Bi (W.setCell ⟨R, k, none⟩ v) g R (us.set k v) (ls.set k l) := by
  obtain ⟨o1, o2⟩ := h.off hk
  have e1 : W.heap[g]? = _ := (hg.block g h.g_lt (Ne.symm o1)).trans h.box
  have e2 : W.heap[R]? = _ := (hg.block R h.R_lt (Ne.symm o2)).trans h.row
  have e3 := heap_setCell_same W R k _ _ v e2
  have e4 : (W.setCell ⟨R, k, none⟩ v).heap[g]? = _ := (heap_setCell_other W ⟨R, k, none⟩ g v (fun e => h.ne (by simpa using e))).trans e1
  refine ⟨by rw [e4, List.length_set], by rw [e3, List.setIfInBounds_toArray], by simpa using h.len, h.ok.set k hw, fun i hi => ?_, fun i j hi hj hij b => ?_⟩
  · rw [List.length_set] at hi
    have GS := grown_set W R k v
    by_cases e : k = i
    · subst e
      rw [set_same v (by rw [h.len]; exact hk), lset_same l hk]
      exact hl.kept GS (.inr (hl.off e2 (fun cs z => by simp)))
    · rw [set_else v e, lset_else l e]
      have a := (h.each i hi).kept hg (by
        rcases hq : (us.getD i nl).ownBlock with _ | q
        · exact .inl rfl
        · exact .inr fun e' => h.apart i k hi hk (Ne.symm e) q hq e'.symm)
      exact a.kept GS (.inr (h.off hi).2)
  · rw [List.length_set] at hi hj
    have lt : ∀ i, i < ls.length → ∀ b, (us.getD i nl).ownBlock = some b → b < w.heap.size := fun i hi b e => (h.each i hi).lt b e
    by_cases e : k = i
    · subst e
      rw [set_same v (by rw [h.len]; exact hk), set_else v hij]
      intro hb1 hb2
      rcases hb b hb1 with h1 | h1
      · exact h.apart k j hi hj hij b h1 hb2
      · have := lt j hj b hb2
        omega
    · by_cases e' : k = j
      · subst e'
        rw [set_same v (by rw [h.len]; exact hk), set_else v e]
        intro hb1 hb2
        rcases hb b hb2 with h1 | h1
        · exact h.apart i k hi hj hij b hb1 h1
        · have := lt i hi b hb1
          omega
      · rw [set_else v e, set_else v e']
        exact h.apart i j hi hj hij b
theorem Bi.put_ks (h : Bi w g R us ls) {k : Nat} (hk : k < ls.length) {v : Value} (hb : ∀ b, v.ownBlock = some b → (us.getD k nl).ownBlock = some b ∨ w.heap.size ≤ b) :
    ∀ q, q ∈ ks g R (us.set k v) → q ∈ ks g R us ∨ w.heap.size ≤ q := fun q hq => by
  rcases ks_of hq with rfl | rfl | ⟨i, hi, e⟩
  · exact .inl (by simp [ks])
  · exact .inl (by simp [ks])
  · rw [List.length_set] at hi
    by_cases e' : k = i
    · subst e'
      rw [set_same v hi] at e
      rcases hb q e with h1 | h1
      · exact .inl (ks_at hi h1)
      · exact .inr h1
    · rw [set_else v e'] at e
      exact .inl (ks_at hi e)
theorem Bi.put_gr {W : World} (h : Bi w g R us ls) {k : Nat} (hk : k < ls.length) (v : Value) (hg : w.grownBy W (us.getD k nl).ownBlock) : Gr (ks g R us) w (W.setCell ⟨R, k, none⟩ v) :=
  (Gr.of hg (fun q e => ks_at (by rw [h.len]; exact hk) e)).trans (.one (grown_set W R k v) (by simp [ks]))
end
/-- Buffers at g, in the blocks K. -/
def Bf (w : World) (K : List Nat) (g : Nat) (ls : List (List Int)) : Prop := ∃ R us, Bi w g R us ls ∧ K = ks g R us
section
variable {w w' : World} {g : Nat} {ls : List (List Int)} {K L : List Nat}
theorem Bf.lt (h : Bf w K g ls) : ∀ k, k ∈ K → k < w.heap.size := by obtain ⟨R, us, h, rfl⟩ := h; exact h.lt
theorem Bf.gr (h : Bf w K g ls) (hg : Gr L w w') (hL : ∀ k, k ∈ K → k ∉ L) : Bf w' K g ls := by obtain ⟨R, us, h, rfl⟩ := h; exact ⟨R, us, h.gr hg hL, rfl⟩
theorem Bf.new (h : Bf w K g ls) (hg : w.grownBy w' none) : Bf w' K g ls := by obtain ⟨R, us, h, rfl⟩ := h; exact ⟨R, us, h.new hg, rfl⟩
theorem Bf.ok (h : Bf w K g ls) : Ok ls := by obtain ⟨R, us, h, _⟩ := h; exact h.ok
theorem Bf.pos (h : Bf w K g ls) : g ∈ K := by obtain ⟨R, us, h, rfl⟩ := h; simp [ks]
end
end Go.Proofs.Ytljahpjdkkennaa.bf
