/- A stack in memory: an object of its room, its note and a list of entries. What its small calls answer. -/
import Derived.Test.YtokjpibaaioehaaDoorEnA
import Derived.Test.YtokjpibaaioehaaDoorGrA
import Derived.Lib.SliceRun
import Derived.RegionTactic
import Derived.Deep.RegionLaw
import Derived.Deep.AppendLies
import Derived.Deep.RegionHeld3
import Derived.Deep.RegionHeldLaw
namespace Go.Proofs.YtokjpibaaioehaaDoor.sk
open Go.ChangeShapes Go.WideShapes Go.ChangeAt Go.RowKit gen li en gr
set_option linter.unusedVariables false
set_option maxHeartbeats 4000000
set_option maxRecDepth 100000

/-- No list. -/
abbrev nl : Value := .slice none 0 0
/-- A stack at g: its room r, whether a loss is noted, its list, which lies in v. (The one that New did not make has no room.) -/
structure Ob (w : World) (g r : Nat) (b : Bool) (v : Value) (m : List Va) : Prop where
  ob : w.heap[g]? = some (.cells #[.int .i64 r, .bool b, v] 71 (0, 0))
  li : Lv w 0 v m
  hi : r ≤ 256
  fit : m.length ≤ r
/-- The blocks of a stack. -/
def ks (g : Nat) (v : Value) : List Nat := g :: v.ownBlock.toList
theorem ks_of {g q : Nat} {v : Value} : q ∈ ks g v ↔ q = g ∨ v.ownBlock = some q := by
  unfold ks
  rw [List.mem_cons]
  cases v.ownBlock <;> simp [eq_comm]
/-- A stack in the blocks K. -/
def Sk (w : World) (K : List Nat) (g r : Nat) (b : Bool) (m : List Va) : Prop := ∃ v, Ob w g r b v m ∧ K = ks g v
section
variable {w w' : World} {g r : Nat} {b : Bool} {v : Value} {m : List Va} {K L : List Nat}
theorem Ob.lt (h : Ob w g r b v m) : g < w.heap.size := (Array.getElem?_eq_some_iff.1 h.ob).1
theorem Ob.c0 (h : Ob w g r b v m) : w.cell? ⟨g, 0, none⟩ = some (.int .i64 r) := by rw [cell_of_row w g 0 _ _ _ h.ob]; rfl
theorem Ob.c1 (h : Ob w g r b v m) : w.cell? ⟨g, 1, none⟩ = some (.bool b) := by rw [cell_of_row w g 1 _ _ _ h.ob]; rfl
theorem Ob.c2 (h : Ob w g r b v m) : w.cell? ⟨g, 2, none⟩ = some v := by rw [cell_of_row w g 2 _ _ _ h.ob]; rfl
theorem Ob.free (h : Ob w g r b v m) (k : Nat) : w.frozen? ⟨g, k, none⟩ = false := frozen_of_row w g k _ _ h.ob
theorem Ob.off (h : Ob w g r b v m) : v.ownBlock ≠ some g := h.li.off h.ob (fun cs z => by simp)
theorem Ob.gr (h : Ob w g r b v m) (hg : Gr L w w') (h1 : g ∉ L) (h2 : ∀ q, v.ownBlock = some q → q ∉ L) : Ob w' g r b v m :=
  ⟨hg.heap h.ob h1, own_gr_any h.li hg h2, h.hi, h.fit⟩
theorem Ob.new (h : Ob w g r b v m) (hg : w.grownBy w' none) : Ob w' g r b v m := h.gr (Gr.new (L := []) hg) (by simp) (by simp)
theorem Sk.gr (h : Sk w K g r b m) (hg : Gr L w w') (hL : ∀ q, q ∈ K → q ∉ L) : Sk w' K g r b m := by
  obtain ⟨v, h, rfl⟩ := h
  exact ⟨v, h.gr hg (hL g (ks_of.2 (.inl rfl))) (fun q e => hL q (ks_of.2 (.inr e))), rfl⟩
theorem Sk.new (h : Sk w K g r b m) (hg : w.grownBy w' none) : Sk w' K g r b m := h.gr (Gr.new (L := []) hg) (by simp)
theorem Sk.lt (h : Sk w K g r b m) : ∀ q, q ∈ K → q < w.heap.size := fun q hq => by
  obtain ⟨v, h, rfl⟩ := h
  rcases ks_of.1 hq with rfl | e
  · exact h.lt
  · exact h.li.lt q e
theorem Sk.hi (h : Sk w K g r b m) : r ≤ 256 := by obtain ⟨v, h, rfl⟩ := h; exact h.hi
theorem Sk.fit (h : Sk w K g r b m) : m.length ≤ r := by obtain ⟨v, h, rfl⟩ := h; exact h.fit
theorem Sk.le (h : Sk w K g r b m) : m.length ≤ 256 := Nat.le_trans h.fit h.hi
theorem Sk.g_in (h : Sk w K g r b m) : g ∈ K := by obtain ⟨v, h, rfl⟩ := h; exact ks_of.2 (.inl rfl)
/-- What is of another type is none of a stack's. -/
theorem Sk.off (h : Sk w K g r b m) {B : Nat} {cs : Array Value} {t : TypeId} {z : Nat × Nat} (hb : w.heap[B]? = some (.cells cs t z)) (h1 : t ≠ 71) (h2 : t ≠ 43) : B ∉ K := fun hB => by
  obtain ⟨v, h, rfl⟩ := h
  rcases ks_of.1 hB with rfl | e
  · exact ty_ne hb h.ob h1 rfl
  · exact h.li.off hb (fun cs z e => by injection e with _ e _; exact h2 e) e
/-- One that New did not make. -/
theorem Ob.zero (w : World) : Ob (w.alloc (.cells #[.int .i64 0, .bool false, .slice none 0 0] 71)) w.heap.size 0 false nl [] := ⟨heap_alloc_new _ _, Lv.nil _ _, by omega, by simp⟩
theorem Sk.zero (w : World) : Sk (w.alloc (.cells #[.int .i64 0, .bool false, .slice none 0 0] 71)) [w.heap.size] w.heap.size 0 false [] := ⟨nl, Ob.zero w, rfl⟩
end
/-! ### there -/
/-- What stands where nil's stack is asked. -/
def ThA (w : World) (e : Ending) (w' : World) : Prop := e = .returned (.pointer (some ⟨w.heap.size, 0, none⟩)) ∧ Sk w' [w.heap.size] w.heap.size 0 false [] ∧ w.grownBy w' none
theorem there_nil (w : World) : Calls Tryd.prog 55 #[.pointer none] w (ThA w) := by
  have Z := Lib.hid (Sk.zero w)
  go_enter Tryd.func55, Tryd.ntmps55
  go_wp2
  go_ret
  exact ⟨rfl, Z.out, World.grownBy_alloc _ _ _⟩
theorem there_any (g : Nat) (w : World) : Calls Tryd.prog 55 #[.pointer (some ⟨g, 0, none⟩)] w fun e w' => e = .returned (.pointer (some ⟨g, 0, none⟩)) ∧ w = w' := by
  go_enter Tryd.func55, Tryd.ntmps55
  go_wp2
  go_ret
  exact ⟨rfl, rfl⟩
/-! ### The pile's own calls that change nothing -/
section
variable {w w' : World} {g r : Nat} {b : Bool} {v : Value} {m : List Va} {K L : List Nat}
theorem made_any (h : Sk w K g r b m) : Calls Tryd.prog 56 #[.pointer (some ⟨g, 0, none⟩)] w fun e w' => e = .returned (.bool (decide (0 < r))) ∧ w = w' := by
  obtain ⟨v, h, _⟩ := h
  have c0 := h.c0
  have l1 := h.hi
  clear h
  by_cases h0 : 0 < r
  all_goals
    go_enter Tryd.func56, Tryd.ntmps56
    go_wp2
    go_ret
    exact ⟨by simp [h0], rfl⟩
theorem count_any (h : Sk w K g r b m) : Calls Tryd.prog 60 #[.pointer (some ⟨g, 0, none⟩)] w fun e w' => e = .returned (.int .i64 m.length) ∧ w = w' := by
  have l1 := h.le
  obtain ⟨v, h, _⟩ := h
  obtain ⟨A, N, c, rfl, hN, _, _⟩ := h.li.shape
  have c2 := h.c2
  rw [← hN] at l1 ⊢
  clear h hN
  go_enter Tryd.func60, Tryd.ntmps60
  go_wp2
  go_ret
  exact ⟨rfl, rfl⟩
theorem over_any (h : Sk w K g r b m) : Calls Tryd.prog 61 #[.pointer (some ⟨g, 0, none⟩)] w fun e w' => e = .returned (.bool b) ∧ w = w' := by
  obtain ⟨v, h, _⟩ := h
  have c1 := h.c1
  clear h
  go_enter Tryd.func61, Tryd.ntmps61
  go_wp2
  go_ret
  exact ⟨rfl, rfl⟩
/-! ### slices.Clone, all -/
theorem eql_nil : ∀ (w : World) (a : Option Addr) (n c : Nat), (binOp .eql 67 (.slice a n c) (.slice none 0 0)).run Tryd.prog w = .ok (.bool a.isNone) w := fun w a n c => Lib.run_eql_slice_nil w _ _ a n c 0 0 Tryd.underlying67
theorem sclone_any (h : Lv w 0 v m) (hm : m.length ≤ 4096) : Calls Tryd.prog 65 #[v] w (VasAns m w) := by
  obtain ⟨A, n, c, rfl, hn, _, _⟩ := h.shape
  have Q := eql_nil
  have H := Lib.hid (h.rv hn)
  have HN := Lib.hid hn
  rw [← hn] at hm
  clear h
  rcases A with _ | A
  · have h0 : n = 0 := by
      rcases Nat.eq_zero_or_pos n with e | e
      · exact e
      · obtain ⟨b, off, e, _⟩ := H.out.at_ e
        cases e
    subst h0
    have hl : m = [] := List.eq_nil_of_length_eq_zero hn.symm
    subst hl
    clear hn
    go_enter Tryd.func65, Tryd.ntmps65
    go_wp2
    go_ret
    exact ⟨none, 0, rfl, Lv.nil _ _, World.grownBy.refl _ _⟩
  · have O := Lib.hid (Lv.whole (w := w.alloc (.cells #[] 43)) (m := []) (base := w.heap.size) (heap_alloc_new _ _) (Nat.le_refl _) (by simp))
    have G := Lib.hid (World.grownBy_alloc w (.cells #[] 43) none)
    clear hn
    go_enter Tryd.func65, Tryd.ntmps65
    go_wp2_with (refine append_vas rfl (.tmp 5) (.tmp 6) rfl w.heap.size _ [] rfl O.out (some A) n c w.heap.size m rfl (fun e => by cases e) (H.out.made G.out) (by simp; omega) (by simp) ?_; intro A3 N3 c3 w2 hn3 hl3 hg3; have HN3 := Lib.hid hn3; have L3 := Lib.hid hl3; have G3 := Lib.hid hg3; clear hn3 hl3 hg3)
    go_ret
    have e : N3 = m.length := HN3.out
    subst e
    exact ⟨A3, c3, rfl, L3.out, li.grown_new G.out G3.out (Nat.le_refl _)⟩
theorem pall_any (h : Sk w K g r b m) : Calls Tryd.prog 64 #[.pointer (some ⟨g, 0, none⟩)] w (VasAns m w) := by
  have l1 := h.le
  obtain ⟨v, h, _⟩ := h
  have c2 := h.c2
  have SC := Lib.hid (sclone_any h.li (by omega))
  clear h
  go_enter Tryd.func64, Tryd.ntmps64
  go_wp2_with (go_at_call 65; (with_reducible refine SC.out.mono ?_); rintro e w' ⟨A, c, rfl, hl, hg⟩; have L := Lib.hid hl; have G := Lib.hid hg; clear hl hg)
  go_ret
  exact ⟨A, c, rfl, L.out, G.out⟩
end
end Go.Proofs.YtokjpibaaioehaaDoor.sk
