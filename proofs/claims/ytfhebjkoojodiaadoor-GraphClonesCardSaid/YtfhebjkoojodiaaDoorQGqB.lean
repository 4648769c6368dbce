/- Texts that this claim stands on. -/
import Derived.Test.YtfhebjkoojodiaaDoorQGqA
namespace Go.Proofs.YtfhebjkoojodiaaDoor.gq
open Go.ChangeShapes Go.WideShapes Go.ChangeAt Go.RowKit gen va cd gp
set_option linter.unusedVariables false
set_option maxHeartbeats 1000000
set_option maxRecDepth 100000
def Tc (cs : Array Value) (o : Nat) (m : List Va) (b : Bool) : Prop := cs[o]? = some (.int .i64 (m.length : Int)) ∧ cs[o + 33]? = some (.bool b) ∧
  ∀ j, j < 16 → ∃ x y, cs[o + 1 + j * 2]? = some (.int .i64 x) ∧ cs[o + 1 + j * 2 + 1]? = some (.int .i64 y) ∧ (j < m.length → m.getD j (0, 0) = (x, y))
def Tw (w : World) (R o : Nat) (m : List Va) (b : Bool) : Prop := ∃ cs : Array Value, w.heap[R]? = some (.cells cs 84 (0, 0)) ∧ Tc cs o m b
def Tset (w : World) (R o : Nat) (m : List Va) (b : Bool) (w' : World) : Prop := gr.Gr [R] w w' ∧ ∀ cs : Array Value, w.heap[R]? = some (.cells cs 84 (0, 0)) → ∃ cs' : Array Value, w'.heap[R]? = some (.cells cs' 84 (0, 0)) ∧ Tc cs' o m b ∧ ∀ j, (j < o ∨ o + 34 ≤ j) → cs'[j]? = cs[j]?
section
variable {w w' : World} {R o : Nat} {m : List Va} {b b' : Bool}
theorem Tw.gr {L : List Nat} (h : Tw w R o m b) (hg : gr.Gr L w w') (hL : R ∉ L) : Tw w' R o m b := by
  obtain ⟨cs, h1, h2⟩ := h
  exact ⟨cs, hg.heap h1 hL, h2⟩
theorem Tw.new (h : Tw w R o m b) (hg : w.grownBy w' none) : Tw w' R o m b := h.gr (L := []) (.new hg) (by simp)
theorem Tw.lt (h : Tw w R o m b) : R < w.heap.size := by
  obtain ⟨cs, h1, h2⟩ := h
  exact (Array.getElem?_eq_some_iff.1 h1).1
theorem Tw.free (h : Tw w R o m b) (j : Nat) : w.frozen? ⟨R, j, none⟩ = false := by
  obtain ⟨cs, h1, h2⟩ := h
  exact frozen_of_row w R j _ _ h1
theorem Tw.c0 (h : Tw w R o m b) : w.cell? ⟨R, o, none⟩ = some (.int .i64 (m.length : Int)) := by
  obtain ⟨cs, h1, h2⟩ := h
  rw [cell_of_row w R _ _ _ _ h1]
  exact h2.1
theorem Tw.c33 (h : Tw w R o m b) : w.cell? ⟨R, o + 33, none⟩ = some (.bool b) := by
  obtain ⟨cs, h1, h2⟩ := h
  rw [cell_of_row w R _ _ _ _ h1]
  exact h2.2.1
theorem Tw.val (h : Tw w R o m b) {j : Nat} (hj : j < m.length) (h16 : m.length ≤ 16) {v1 v2 : Int} (hv : m.getD j (0, 0) = (v1, v2)) : w.cell? ⟨R, o + 1 + j * 2, none⟩ = some (.int .i64 v1) ∧ w.cell? ⟨R, o + 1 + j * 2 + 1, none⟩ = some (.int .i64 v2) := by
  obtain ⟨cs, h1, h2⟩ := h
  obtain ⟨x, y, e1, e2, e3⟩ := h2.2.2 j (by omega)
  have := e3 hj
  rw [hv] at this
  obtain ⟨rfl, rfl⟩ : v1 = x ∧ v2 = y := by simpa using this
  exact ⟨(cell_of_row w R _ _ _ _ h1).trans e1, (cell_of_row w R _ _ _ _ h1).trans e2⟩
theorem Tw.any (h : Tw w R o m b) {j : Nat} (hj : j < 16) : ∃ x y, w.cell? ⟨R, o + 1 + j * 2, none⟩ = some (.int .i64 x) ∧ w.cell? ⟨R, o + 1 + j * 2 + 1, none⟩ = some (.int .i64 y) := by
  obtain ⟨cs, h1, h2⟩ := h
  obtain ⟨x, y, e1, e2, e3⟩ := h2.2.2 j hj
  exact ⟨x, y, (cell_of_row w R _ _ _ _ h1).trans e1, (cell_of_row w R _ _ _ _ h1).trans e2⟩
theorem full_any (h : Tw w R o m b) {d : Bool} (hd : ((m.length : Int) == 16) = d) : Calls Tryd.prog 63 #[.pointer (some ⟨R, o, none⟩)] w fun e w' => e = .returned (.bool d) ∧ w = w' := by
  have c0 := h.c0
  clear h
  cases d with
  | true =>
    go_enter Tryd.func63, Tryd.ntmps63
    go_wp2
    go_ret
    exact ⟨rfl, rfl⟩
  | false =>
    go_enter Tryd.func63, Tryd.ntmps63
    go_wp2
    go_ret
    exact ⟨rfl, rfl⟩
theorem get_no (h : Tw w R o m b) {i : Int} (hi : i < 0 ∨ (m.length : Int) ≤ i) : Calls Tryd.prog 66 #[.pointer (some ⟨R, o, none⟩), .int .i64 i] w
    fun e w' => e = .returned (.tuple #[.agg #[.int .i64 0, .int .i64 0], .int .i64 4]) ∧ w.grownBy w' none := by
  have G0 := Lib.hid (grown_alloc w (.cells #[.int .i64 0, .int .i64 0] 57))
  have c0 := (h.new G0.out).c0
  have lt := h.lt
  clear h
  by_cases h1 : i < 0
  · have d1 : decide (i < 0) = true := decide_eq_true h1
    go_enter Tryd.func66, Tryd.ntmps66
    go_wp2
    refine bodyPost_ret (v := .tuple #[.agg #[.int .i64 0, .int .i64 0], .int .i64 4]) (by simp [results, Tryd.results66, go_sem, *]) rfl ⟨rfl, ?_⟩
    exact G0.out
  · have d1 : decide (i < 0) = false := decide_eq_false h1
    have d2 : decide ((m.length : Int) ≤ i) = true := decide_eq_true (by omega)
    go_enter Tryd.func66, Tryd.ntmps66
    go_wp2
    refine bodyPost_ret (v := .tuple #[.agg #[.int .i64 0, .int .i64 0], .int .i64 4]) (by simp [results, Tryd.results66, go_sem, *]) rfl ⟨rfl, ?_⟩
    exact G0.out
theorem get_yes (h : Tw w R o m b) {i : Nat} (hi : i < m.length) (h16 : m.length ≤ 16) {v1 v2 : Int} (hv : m.getD i (0, 0) = (v1, v2)) : Calls Tryd.prog 66 #[.pointer (some ⟨R, o, none⟩), .int .i64 (i : Int)] w
    fun e w' => e = .returned (.tuple #[.agg #[.int .i64 v1, .int .i64 v2], .int .i64 0]) ∧ w.grownBy w' none := by
  have G0 := Lib.hid (grown_alloc w (.cells #[.int .i64 0, .int .i64 0] 57))
  have c0 := (h.new G0.out).c0
  obtain ⟨c1, c2⟩ := (h.new G0.out).val hi h16 hv
  have lt := h.lt
  have d1 : decide ((i : Int) < 0) = false := decide_eq_false (by omega)
  have d2 : decide ((m.length : Int) ≤ (i : Int)) = false := decide_eq_false (by omega)
  have l1 : (0 : Int) ≤ (i : Int) := by omega
  have l2 : (i : Int) < 16 := by omega
  clear h hv
  go_enter Tryd.func66, Tryd.ntmps66
  go_wp2
  refine bodyPost_ret (v := .tuple #[.agg #[.int .i64 v1, .int .i64 v2], .int .i64 0]) (by simp [results, Tryd.results66, go_sem, *]) rfl ⟨rfl, ?_⟩
  exact grown_alloc _ _
theorem Tset.one {w1 : World} {m' : List Va} (h : Tw w R o m b) (hg : w.grownBy w1 none) (h2 : ∀ cs : Array Value, w1.heap[R]? = some (.cells cs 84 (0, 0)) → Tc cs o m b → Tset w1 R o m' b' w') : Tset w R o m' b' w' := by
  obtain ⟨cs, h1, hc⟩ := h
  have h3 := gr.Gr.heap (L := []) (.new hg) h1 (by simp)
  obtain ⟨g1, g2⟩ := h2 cs h3 hc
  refine ⟨(gr.Gr.new hg).trans g1, fun cs' e => ?_⟩
  rw [h1] at e
  injection e with e
  injection e with e
  subst e
  exact g2 _ h3
theorem Tset.new {w'' : World} (h : Tset w R o m b w') (hg : w'.grownBy w'' none) : Tset w R o m b w'' := by
  refine ⟨h.1.made hg, fun cs e => ?_⟩
  obtain ⟨cs', h1, h2⟩ := h.2 cs e
  exact ⟨cs', gr.Gr.heap (L := []) (.new hg) h1 (by simp), h2⟩
theorem Tset.pushed (h : Tw w R o m b) (h16 : m.length < 16) {w1 : World} (hg : w.grownBy w1 none) (v1 v2 : Int) :
    Tset w R o (m ++ [(v1, v2)]) b (((w1.setCell ⟨R, o + 1 + m.length * 2, none⟩ (.int .i64 v1)).setCell ⟨R, o + 1 + m.length * 2 + 1, none⟩ (.int .i64 v2)).setCell ⟨R, o, none⟩ (.int .i64 ((m.length : Int) + 1))) := by
  refine Tset.one h hg (fun cs h1 hc => ⟨((gr.Gr.one (gr.grown_set _ _ _ _) (by simp)).trans (.one (gr.grown_set _ _ _ _) (by simp))).trans (.one (gr.grown_set _ _ _ _) (by simp)), fun cs' e => ?_⟩)
  rw [h1] at e
  injection e with e
  injection e with e
  subst e
  obtain ⟨t1, t2, t3⟩ := hc
  have e1 := heap_setCell_same _ R (o + 1 + m.length * 2) _ _ (.int .i64 v1) h1
  have e2 := heap_setCell_same _ R (o + 1 + m.length * 2 + 1) _ _ (.int .i64 v2) e1
  have e3 := heap_setCell_same _ R o _ _ (.int .i64 ((m.length : Int) + 1)) e2
  obtain ⟨x0, y0, u1, u2, _⟩ := t3 m.length h16
  have s0 := (Array.getElem?_eq_some_iff.1 t1).1
  have s1 := (Array.getElem?_eq_some_iff.1 u1).1
  have s2 := (Array.getElem?_eq_some_iff.1 u2).1
  refine ⟨_, e3, ⟨?_, ?_, fun j hj => ?_⟩, fun j hj => ?_⟩
  · rw [Array.getElem?_setIfInBounds_self_of_lt (by simpa using s0)]
    simp
  · rw [Array.getElem?_setIfInBounds_ne (by omega), Array.getElem?_setIfInBounds_ne (by omega), Array.getElem?_setIfInBounds_ne (by omega)]
    exact t2
  · by_cases ej : j = m.length
    · subst ej
      refine ⟨v1, v2, ?_, ?_, fun _ => by simp [List.getD_eq_getElem?_getD]⟩
      · rw [Array.getElem?_setIfInBounds_ne (by omega), Array.getElem?_setIfInBounds_ne (by omega), Array.getElem?_setIfInBounds_self_of_lt (by simpa using s1)]
      · rw [Array.getElem?_setIfInBounds_ne (by omega), Array.getElem?_setIfInBounds_self_of_lt (by simpa using s2)]
    · obtain ⟨x, y, q1, q2, q3⟩ := t3 j hj
      refine ⟨x, y, ?_, ?_, fun hl => ?_⟩
      · rw [Array.getElem?_setIfInBounds_ne (by omega), Array.getElem?_setIfInBounds_ne (by omega), Array.getElem?_setIfInBounds_ne (by omega)]
        exact q1
      · rw [Array.getElem?_setIfInBounds_ne (by omega), Array.getElem?_setIfInBounds_ne (by omega), Array.getElem?_setIfInBounds_ne (by omega)]
        exact q2
      · have hl' : j < m.length := by simp at hl; omega
        rw [← q3 hl', List.getD_eq_getElem?_getD, List.getElem?_append_left hl', ← List.getD_eq_getElem?_getD]
  · rw [Array.getElem?_setIfInBounds_ne (by omega), Array.getElem?_setIfInBounds_ne (by omega), Array.getElem?_setIfInBounds_ne (by omega)]
theorem Tset.popped (h : Tw w R o m b) (h0 : 0 < m.length) {w1 : World} (hg : w.grownBy w1 none) :
    Tset w R o (m.take (m.length - 1)) b (w1.setCell ⟨R, o, none⟩ (.int .i64 ((m.length : Int) - 1))) := by
  refine Tset.one h hg (fun cs h1 hc => ⟨.one (gr.grown_set _ _ _ _) (by simp), fun cs' e => ?_⟩)
  rw [h1] at e
  injection e with e
  injection e with e
  subst e
  obtain ⟨t1, t2, t3⟩ := hc
  have e1 := heap_setCell_same _ R o _ _ (.int .i64 ((m.length : Int) - 1)) h1
  have s0 := (Array.getElem?_eq_some_iff.1 t1).1
  refine ⟨_, e1, ⟨?_, ?_, fun j hj => ?_⟩, fun j hj => ?_⟩
  · rw [Array.getElem?_setIfInBounds_self_of_lt (by simpa using s0), List.length_take]
    congr 2
    omega
  · rw [Array.getElem?_setIfInBounds_ne (by omega)]
    exact t2
  · obtain ⟨x, y, q1, q2, q3⟩ := t3 j hj
    refine ⟨x, y, ?_, ?_, fun hl => ?_⟩
    · rw [Array.getElem?_setIfInBounds_ne (by omega)]
      exact q1
    · rw [Array.getElem?_setIfInBounds_ne (by omega)]
      exact q2
    · rw [List.length_take] at hl
      rw [← q3 (by omega)]
      have h5 : j < m.length - 1 := by omega
      rw [List.getD_eq_getElem?_getD, List.getD_eq_getElem?_getD, List.getElem?_take, if_pos h5]
  · rw [Array.getElem?_setIfInBounds_ne (by omega)]
theorem push_yes (h : Tw w R o m b) (h16 : m.length < 16) (v1 v2 : Int) : Calls Tryd.prog 64 #[.pointer (some ⟨R, o, none⟩), .agg #[.int .i64 v1, .int .i64 v2]] w
    fun e w' => e = .returned (.int .i64 0) ∧ Tset w R o (m ++ [(v1, v2)]) b w' := by
  have G0 := Lib.hid (grown_alloc w (.cells #[.int .i64 v1, .int .i64 v2] 57))
  have h0 := h.new G0.out
  have c0 := h0.c0
  obtain ⟨x, y, c1, c2⟩ := h0.any h16
  have z0 := h0.free o
  have z1 := h0.free (o + 1 + m.length * 2)
  have z2 := h0.free (o + 1 + m.length * 2 + 1)
  have lt := h.lt
  have FU := Lib.hid (fun W (hg : w.grownBy W none) => full_any (h.new hg) (d := false) (by simp; omega))
  have TS := Lib.hid (fun W (hg : w.grownBy W none) => Tset.pushed h h16 hg v1 v2)
  have l1 : (0 : Int) ≤ (m.length : Int) := by omega
  have l2 : (m.length : Int) < 16 := by omega
  clear h h0 lt
  generalize m.length = n at *
  go_enter Tryd.func64, Tryd.ntmps64
  go_wp2_with (first | (go_at_call 63; (with_reducible refine (FU.out _ G0.out).mono ?_); rintro e w1 ⟨rfl, hw⟩; subst hw))
  go_region
  all_goals go_wp2
  all_goals go_ret
  all_goals exact ⟨rfl, (TS.out _ G0.out).new (gr.grown_drew _ _)⟩
theorem zero2 (w : World) : ∀ j, j < 2 → (w.alloc (.cells #[.int .i64 0, .int .i64 0] 57)).cell? ⟨w.heap.size, j, none⟩ = some (.int .i64 0) ∧ (w.alloc (.cells #[.int .i64 0, .int .i64 0] 57)).frozen? ⟨w.heap.size, j, none⟩ = false := fun j hj => by
  have : j = 0 ∨ j = 1 := by omega
  rcases this with rfl | rfl <;> simp [go_sem]
def Z2 (w : World) (B : Nat) : Prop := ∀ j, j < 2 → w.cell? ⟨B, j, none⟩ = some (.int .i64 0) ∧ w.frozen? ⟨B, j, none⟩ = false
theorem Z2.at_ {B : Nat} (h : Z2 w B) : w.cell? ⟨B, 0, none⟩ = some (.int .i64 0) ∧ w.cell? ⟨B, 1, none⟩ = some (.int .i64 0) ∧ w.frozen? ⟨B, 0, none⟩ = false ∧ w.frozen? ⟨B, 1, none⟩ = false := ⟨(h 0 (by omega)).1, (h 1 (by omega)).1, (h 0 (by omega)).2, (h 1 (by omega)).2⟩
theorem Z2.gr {L : List Nat} {B : Nat} (h : Z2 w B) (hg : gr.Gr L w w') (hB : B < w.heap.size) (hL : B ∉ L) : Z2 w' B := fun j hj => ⟨hg.cell (h j hj).1 hL, hg.frozen (h j hj).2 hB hL⟩
theorem Z2.new {B : Nat} (h : Z2 w B) (hg : w.grownBy w' none) (hB : B < w.heap.size) : Z2 w' B := h.gr (L := []) (.new hg) hB (by simp)
theorem Z2.made {w0 : World} (hw : w0.heap.size = w.heap.size) : Z2 (w0.alloc (.cells #[.int .i64 0, .int .i64 0] 57)) w.heap.size := by
  rw [← hw]
  exact zero2 w0
theorem pop_no (h : Tw w R o m b) (h0 : m.length = 0) : Calls Tryd.prog 55 #[.pointer (some ⟨R, o, none⟩)] w
    fun e w' => e = .returned (.tuple #[.agg #[.int .i64 0, .int .i64 0], .int .i64 4]) ∧ w.grownBy w' none := by
  have G0 := Lib.hid (grown_alloc w (.cells #[.int .i64 0, .int .i64 0] 57))
  have c0 := (h.new G0.out).c0
  have GE := Lib.hid (fun W (hg : w.grownBy W none) => get_no (h.new hg) (i := -1) (.inl (by omega)))
  have ZZ := Lib.hid (Z2.made (w := w) (w0 := w) rfl)
  rw [h0] at c0
  clear h h0
  go_enter Tryd.func55, Tryd.ntmps55
  go_wp2_with (first
    | (go_at_call 66; (with_reducible refine (GE.out _ G0.out).mono ?_); rintro e w1 ⟨rfl, hg⟩; have G1 := Lib.hid (G0.out.trans hg); have S1 := Lib.hid hg.size; obtain ⟨a0, a1, f0, f1⟩ := ((ZZ.out.new hg (by simp)).new (grown_alloc w1 (.cells #[.int .i64 0, .int .i64 0] 57)) (by have q := S1.out; simp at q; show w.heap.size < w1.heap.size; omega)).at_; clear hg))
  refine bodyPost_ret (v := .tuple #[.agg #[.int .i64 0, .int .i64 0], .int .i64 4]) (by simp [results, Tryd.results55, go_sem, *]) rfl ⟨rfl, ?_⟩
  exact li.grown_new (G1.out.trans (grown_alloc _ _)) (gp.set2 _ _ _ _) (Nat.le_refl _)
theorem Tset.after {w0 : World} {B : Nat} (h : Tset w R o m b w') (hg : w.grownBy w0 none) (hB : w.heap.size ≤ B) (hR : R < w.heap.size) {w'' : World} (hw : gr.Gr [B] w' w'') : Tset w R o m b w'' := by
  refine ⟨h.1.own hw (fun q hq => .inr (by simp at hq; omega)), fun cs e => ?_⟩
  obtain ⟨cs', h1, h2⟩ := h.2 cs e
  exact ⟨cs', hw.heap h1 (by simp; omega), h2⟩
theorem pop_yes (h : Tw w R o m b) (h0 : 0 < m.length) (h16 : m.length ≤ 16) {v1 v2 : Int} (hv : m.getD (m.length - 1) (0, 0) = (v1, v2)) : Calls Tryd.prog 55 #[.pointer (some ⟨R, o, none⟩)] w
    fun e w' => e = .returned (.tuple #[.agg #[.int .i64 v1, .int .i64 v2], .int .i64 0]) ∧ Tset w R o (m.take (m.length - 1)) b w' := by
  have G0 := Lib.hid (grown_alloc w (.cells #[.int .i64 0, .int .i64 0] 57))
  have c0 := (h.new G0.out).c0
  have GE := Lib.hid (fun W (hg : w.grownBy W none) => get_yes (h.new hg) (i := m.length - 1) (by omega) h16 hv)
  have ZZ := Lib.hid (Z2.made (w := w) (w0 := w) rfl)
  have TP := Lib.hid (fun W (hg : w.grownBy W none) => Tset.popped h h0 hg)
  have CX := Lib.hid (fun W (hg : w.grownBy W none) => And.intro (h.new hg).c0 ((h.new hg).free o))
  have LT := Lib.hid h.lt
  have ne : R ≠ w.heap.size := Nat.ne_of_lt h.lt
  have ne' : w.heap.size ≠ R := fun e => ne e.symm
  have e1 : ((m.length - 1 : Nat) : Int) = (m.length : Int) - 1 := by omega
  rw [e1] at GE
  have l1 : (0 : Int) < (m.length : Int) := by omega
  have l2 : (m.length : Int) ≤ 16 := by omega
  have MM := Lib.hid (rfl : m.take (m.length - 1) = m.take (m.length - 1))
  clear h hv e1
  generalize hmm : m.take (m.length - 1) = m' at *
  generalize m.length = n at *
  go_enter Tryd.func55, Tryd.ntmps55
  go_wp2_with (first
    | (go_at_call 66; (with_reducible refine (GE.out _ G0.out).mono ?_); rintro e w1 ⟨rfl, hg⟩; have G1 := Lib.hid (G0.out.trans hg); have S1 := Lib.hid hg.size; have Z1 := Lib.hid ((ZZ.out.new hg (by simp)).new (grown_alloc w1 (.cells #[.int .i64 v1, .int .i64 v2] 57)) (by have q := S1.out; simp at q; show w.heap.size < w1.heap.size; omega)); obtain ⟨a0, a1, f0, f1⟩ := Z1.out.at_; obtain ⟨c1, z0⟩ := CX.out _ G1.out; obtain ⟨c2, z2⟩ := CX.out _ (G1.out.trans (grown_alloc w1 (.cells #[.int .i64 v1, .int .i64 v2] 57))); obtain ⟨b0, b1, h0, h1⟩ := (ZZ.out.new hg (by simp)).at_; have ne1 : R ≠ w1.heap.size := (by have q := S1.out; simp at q; have := LT.out; omega); have ne2 : w.heap.size ≠ w1.heap.size := (by have q := S1.out; simp at q; omega); clear hg))
  refine bodyPost_ret (v := .tuple #[.agg #[.int .i64 v1, .int .i64 v2], .int .i64 0]) (by simp [results, Tryd.results55, go_sem, *]) rfl ⟨rfl, ?_⟩
  exact (TP.out _ (G1.out.trans (grown_alloc _ _))).after (World.grownBy.refl _ none) (Nat.le_refl _) LT.out (.one (gp.set2 _ _ _ _) (by simp))
end
end Go.Proofs.YtfhebjkoojodiaaDoor.gq
