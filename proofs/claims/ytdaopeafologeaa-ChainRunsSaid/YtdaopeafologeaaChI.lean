/- The walk of the law ChainRuns: its setting; the ways of a step. -/
import Derived.Test.YtdaopeafologeaaChH
namespace Go.Proofs.Ytdaopeafologeaa.ch
open Go.ChangeShapes Go.WideShapes Go.ChangeAt Go.RowKit gen calls cls geos mm
set_option linter.unusedVariables false

/-- A list of numbers of the call's own, from block b0 on. -/
def Fr (w : World) (b0 : Nat) (A : Option Addr) (n c : Nat) (l : List Int) : Prop := Rd w w.heap.size A n c l ∧ (∀ ad, A = some ad → 0 < n → b0 ≤ ad.block) ∧ n ≤ c ∧ c ≤ maxLen
theorem Fr.rd {w : World} {b0 : Nat} {A : Option Addr} {n c : Nat} {l : List Int} (h : Fr w b0 A n c l) : Rd w w.heap.size A n c l := h.1
theorem Fr.kept {w w' : World} {b0 n c : Nat} {A : Option Addr} {l : List Int} {row : Option Nat} (h : Fr w b0 A n c l) (hg : w.grownBy w' row) (hr : ∀ q, row = some q → q < b0) : Fr w' b0 A n c l := by
  refine ⟨⟨h.1.1, h.1.2.1, fun ad e i hi => ?_⟩, h.2⟩
  have h1 := h.1.2.2 ad e i hi
  have h2 := h.2.1 ad e (by omega)
  refine ⟨Nat.lt_of_lt_of_le h1.1 hg.size, hg.cell h1.2 ?_⟩
  rw [block_of_add]
  intro e2
  have := hr _ e2.symm
  omega
theorem Fr.own {w : World} {b0 base n c : Nat} {A : Option Addr} {t : TypeId} {l : List Int} (h : w.ownsRow base t 1 (.slice A n c) n (l.map (Value.int .i64))) (hb : b0 ≤ base) : Fr w b0 A n c l := by
  refine ⟨rd_any h, fun ad e hn => ?_, ?_⟩
  · subst e
    have h1 := own_base h
    rcases h.2 with ⟨e, _⟩ | ⟨g, cap, cur, e, h2, _⟩
    · cases e
    · injection e with e1 e2 e3
      injection e1 with e1
      subst e1
      exact Nat.le_trans hb h2
  · rcases li.own_or h with ⟨_, h1, h2⟩ | ⟨_, _, h1, h2⟩
    · subst h1; subst h2; exact ⟨Nat.le_refl _, by unfold maxLen; omega⟩
    · exact ⟨h1, h2⟩
/-- Without the first one. -/
theorem Fr.rest {w : World} {b0 b o m c c' : Nat} {A : Option Addr} {x : Int} {l : List Int} (h : Fr w b0 (some ⟨b, o, none⟩) (m + 1) c (x :: l)) (hA : 0 < m → A = some ⟨b, o + 1, none⟩) (hn : A = none → c' = 0) (h1 : m ≤ c') (h2 : c' ≤ maxLen) : Fr w b0 A m c' l := by
  have hl : l.length = m := by have := h.1.1; simpa using this
  refine ⟨⟨hl, fun e => ?_, fun ad e i hi => ?_⟩, fun ad e hm => ?_, h1, h2⟩
  · rcases Nat.eq_zero_or_pos m with h0 | h0
    · exact ⟨h0, hn e⟩
    · rw [hA h0] at e; cases e
  · rw [hA (by omega)] at e
    injection e with e
    subst e
    have := h.1.2.2 _ rfl (i + 1) (by omega)
    rw [Addr.add_lit] at this ⊢
    refine ⟨this.1, ?_⟩
    rw [show o + 1 + i = o + (i + 1) by omega, this.2]
    simp [List.getD_eq_getElem?_getD]
  · rw [hA hm] at e
    injection e with e
    subst e
    exact h.2.1 ⟨b, o, none⟩ rfl (by omega)
/-- All that stays through a script's steps. -/
structure St (w : World) (g r b0 B9 P L B : Nat) (k : Int) (D : Option Addr) (ops : Nat → Nat → Int) (A : Option Addr) (n c : Nat) (xs : List Int) (f : Int) (l : List Int) (w' : World) : Prop where
  fr : Fr w' b0 A n c l
  mem : MemAt w' g r xs
  len : xs.length = 128
  bd : Bd xs
  ch : Ch xs P k f l
  num : l.length = n
  grown : w.grownBy w' none
  box : Box w' B9 f n
  rws : Rws w' B D L 2 ops
theorem St.kept {w w' w'' : World} {g r b0 B9 P L B n c : Nat} {k f : Int} {D A : Option Addr} {ops : Nat → Nat → Int} {xs l : List Int} (h : St w g r b0 B9 P L B k D ops A n c xs f l w') (hg : w'.grownBy w'' none) : St w g r b0 B9 P L B k D ops A n c xs f l w'' :=
  ⟨h.fr.kept hg (fun _ e => by cases e), h.mem.kept hg (by simp) (by simp), h.len, h.bd, h.ch, h.num, h.grown.trans hg, h.box.kept hg (by simp), h.rws.kept hg (fun _ e => by cases e)⟩
theorem St.drewN {w w' : World} {g r b0 B9 P L B n c : Nat} {k f : Int} {D A : Option Addr} {ops : Nat → Nat → Int} {xs l : List Int} (h : St w g r b0 B9 P L B k D ops A n c xs f l w') (q : Nat) : St w g r b0 B9 P L B k D ops A n c xs f l (w'.drewN q) := h.kept (grown_drewN _ _ _)
/-- The words of the call's own lie apart from its boxes. -/
def Lies (w : World) (g r b0 B9 B : Nat) : Prop := g < B9 ∧ r < B9 ∧ B9 < b0 ∧ w.heap.size ≤ g ∧ w.heap.size ≤ r ∧ B ≤ w.heap.size
/-- One word written. -/
theorem St.write {w w' w'' : World} {g r b0 B9 P L B n c : Nat} {k f : Int} {D A : Option Addr} {ops : Nat → Nat → Int} {xs xs' l : List Int} (hL : Lies w g r b0 B9 B) (h : St w g r b0 B9 P L B k D ops A n c xs f l w') (hm : MemAt w'' g r xs') (hg : w'.grownBy w'' (some r)) (hl : xs'.length = 128) (hb : Bd xs') (hc : Ch xs' P k f l) : St w g r b0 B9 P L B k D ops A n c xs' f l w'' := by
  obtain ⟨l1, l2, l3, l4, l5, l6⟩ := hL
  exact ⟨h.fr.kept hg (fun _ e => by cases e; omega), hm, hl, hb, hc, h.num, grown_new h.grown hg l5, h.box.kept hg (by simp; omega), h.rws.kept hg (fun _ e => by cases e; omega)⟩
/-- The chain's box set anew, and the list with it. -/
theorem St.put {w w' : World} {g r b0 B9 P L B n c n' c' : Nat} {k f f' : Int} {D A A' : Option Addr} {ops : Nat → Nat → Int} {xs l l' : List Int} (hL : Lies w g r b0 B9 B) (h : St w g r b0 B9 P L B k D ops A n c xs f l w') (hf : Fr w' b0 A' n' c' l') (hc : Ch xs P k f' l') (hn : l'.length = n') (z : Int) (hz : z = n') :
    St w g r b0 B9 P L B k D ops A' n' c' xs f' l' ((w'.setCell ⟨B9, 0, none⟩ (.int .i64 f')).setCell ⟨B9, 1, none⟩ (.int .i64 z)) := by
  obtain ⟨l1, l2, l3, l4, l5, l6⟩ := hL
  subst hz
  have hg := grown_box w' B9 (.int .i64 f') (.int .i64 n')
  exact ⟨hf.kept hg (fun _ e => by cases e; omega), h.mem.kept hg (by simp; omega) (by simp; omega), h.len, h.bd, hc, hn, grown_new h.grown hg (by omega), h.box.set _ _, h.rws.kept hg (fun _ e => by cases e; omega)⟩
/-- What is written into the call's own newer rows leaves all that. -/
theorem St.own {w wr w' w'' : World} {g r b0 B9 P L B n c : Nat} {k f : Int} {D A : Option Addr} {ops : Nat → Nat → Int} {xs xs0 l : List Int} {row : Option Nat} (hL : Lies w g r b0 B9 B) (h0 : St w g r b0 B9 P L B k D ops A n c xs0 f l wr) (h : St w g r b0 B9 P L B k D ops A n c xs f l w') (hg : w'.grownBy w'' row) (hq : ∀ q, row = some q → wr.heap.size ≤ q) : St w g r b0 B9 P L B k D ops A n c xs f l w'' := by
  obtain ⟨l1, l2, l3, l4, l5, l6⟩ := hL
  have ml := h0.mem.lt
  have bl := lt_of_heap h0.box
  have gs := h0.grown.size
  refine ⟨⟨⟨h.fr.1.1, h.fr.1.2.1, fun ad e i hi => ?_⟩, h.fr.2⟩, h.mem.kept hg (fun e => by have := hq _ e.symm; omega) (fun e => by have := hq _ e.symm; omega), h.len, h.bd, h.ch, h.num, h.grown.andThen hg (fun q e => .inl (by have := hq _ e; omega)), h.box.kept hg (fun e => by have := hq _ e.symm; omega), h.rws.kept hg (fun q e => by have := hq _ e; omega)⟩
  have h1 := h.fr.1.2.2 ad e i hi
  have h2 := (h0.fr.1.2.2 ad e i hi).1
  refine ⟨Nat.lt_of_lt_of_le h1.1 hg.size, hg.cell h1.2 ?_⟩
  rw [block_of_add]
  intro e2
  have := hq _ e2.symm
  omega
end Go.Proofs.Ytdaopeafologeaa.ch
