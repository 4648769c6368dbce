/- Texts that this claim stands on. -/
import Derived.Test.YtfhebjkoojodiaaDoorQGpN
namespace Go.Proofs.YtfhebjkoojodiaaDoor.gp
open Go.ChangeShapes Go.WideShapes Go.ChangeAt Go.RowKit gen va cd
set_option linter.unusedVariables false
set_option maxHeartbeats 2000000
set_option maxRecDepth 100000
theorem info_b1 : (Tryd.prog.info? 4).map (fun i => (i.zero, i.size, i.bytes)) = some (some (.bool false), 1, 1) := by kernel_rfl
theorem info_i64 : (Tryd.prog.info? 2).map (fun i => (i.zero, i.size, i.bytes)) = some (some (.int .i64 0), 1, 8) := by kernel_rfl
def bm (M : Nat) (m : Nat → Bool) : List Value := (List.range M).map fun n => .bool (m n)
def Bb (w : World) (b M : Nat) (m : Nat → Bool) : Prop := w.heap[b]? = some (.cells (bm M m).toArray 4 (0, 0))
theorem Bb.at_ {w : World} {b M n : Nat} {m : Nat → Bool} (h : Bb w b M m) (hn : n < M) : w.cell? ⟨b, n, none⟩ = some (.bool (m n)) := by
  rw [cell_of_row w b n _ _ _ h]
  simp [bm, hn]
theorem Bb.free {w : World} {b M : Nat} {m : Nat → Bool} (h : Bb w b M m) (n : Nat) : w.frozen? ⟨b, n, none⟩ = false := frozen_of_row w b n _ _ h
theorem Bb.set {w : World} {b M n : Nat} {m : Nat → Bool} (h : Bb w b M m) (hn : n < M) : Bb (w.setCell ⟨b, n, none⟩ (.bool true)) b M (upd m n true) := by
  have e := heap_setCell_same w b n _ _ (.bool true) h
  unfold Bb
  rw [e]
  congr 2
  apply Array.ext'
  apply List.ext_getElem?
  intro i
  simp only [bm, List.setIfInBounds_toArray, List.getElem?_set, List.getElem?_map]
  by_cases ei : n = i
  · subst ei
    simp [hn, upd_same]
  · rw [if_neg ei]
    by_cases hi : i < M
    · simp [hi, upd_else m true (Ne.symm ei)]
    · simp [hi]
theorem Bb.kept {w w' : World} {b M : Nat} {m : Nat → Bool} {row : Option Nat} (h : Bb w b M m) (hg : w.grownBy w' row) (hr : row ≠ some b) : Bb w' b M m := (hg.block b (Array.getElem?_eq_some_iff.1 h).1 (fun e => hr e.symm)).trans h
theorem make_bs (n : Nat) (hn : n ≤ 100000) (w : World) :
    (Instr.makeSlice 77 (.int .i64 (n : Int)) (.int .i64 (n : Int))).run Tryd.prog w = .ok (.slice (some ⟨w.heap.size, 0, none⟩) n n) (w.alloc (.cells (bm n (fun _ => false)).toArray 4)) := by
  obtain ⟨i0, hi, hz0, hz1, hz2⟩ := info_parts info_b1
  have h := run_make (P := Tryd.prog) w 77 4 i0 _ Tryd.underlying77 hi hz0 .i64 .i64 n n (by omega) (Int.le_refl _) (by rw [hz2]; omega) (by omega)
  rw [h]
  simp only [Int.toNat_natCast, hz1, Nat.mul_one]
  have e : madeCells (Value.bool false).cells n = (bm n (fun _ => false)).toArray := by
    apply Array.ext'
    rw [show (Value.bool false).cells = #[.bool false] from rfl, toList_madeCells_one]
    apply List.ext_getElem?
    intro i
    by_cases hi : i < n
    · simp [bm, hi]
    · simp [bm, hi]
  rw [e]
def Nx (w : World) (base : Nat) (v : Value) (L : List Int) : Prop := ∃ A n c, v = .slice A n c ∧ n = L.length ∧ w.ownsRow base 2 1 (.slice A n c) n (L.map (Value.int .i64)) ∧ Rd w w.heap.size A n c L
theorem Nx.kept {w w' : World} {base : Nat} {v : Value} {L : List Int} {row : Option Nat} (h : Nx w base v L) (hg : w.grownBy w' row) (hr : ∀ q, row = some q → q < base) : Nx w' base v L := by
  obtain ⟨A, n, c, rfl, hn, ho, _⟩ := h
  have ho' := World.ownsRow.kept ho hg (by
    cases e : (Value.slice A n c).ownBlock with
    | none => exact .inl rfl
    | some q =>
      refine .inr (fun e2 => ?_)
      have h1 := (gr.own_lt ho q e).1
      have h2 := hr q e2.symm
      omega)
  obtain ⟨A', c', e, hr'⟩ := Rd.of_own ho'
  injection e with e1 e2 e3
  subst e1 e3
  exact ⟨A, n, c, rfl, hn, ho', hr'⟩
theorem Nx.split {w : World} {base : Nat} {v : Value} {L : List Int} (h : Nx w base v L) : ∃ A n c, v = .slice A n c ∧ n = L.length ∧ Rd w w.heap.size A n c L := by
  obtain ⟨A, n, c, e, hn, _, hr⟩ := h
  exact ⟨A, n, c, e, hn, hr⟩
theorem append_nx {w : World} {ops : Array Oper} {rest : List Oper} {o : Oper} {a : Act} {Q : Exit → Act → World → Prop} (hgd : o.guard = none) (s x : Operand) (ho : o.op = .call { callee := .builtin .append, args := #[s, x], argTypes := #[98, 98] })
    (base : Nat) (v : Value) (L : List Int) (hs : a.eval s = v) (hN : Nx w base v L) (b : Nat) (z : Int) (hx : a.eval x = .slice (some ⟨b, 0, none⟩) 1 1) (hz : w.cell? ⟨b, 0, none⟩ = some (.int .i64 z)) (hm : L.length ≤ 1048575) (hbase : base ≤ w.heap.size)
    (h : ∀ A' n' c' w', Nx w' base (.slice A' n' c') (L ++ [z]) → w.grownBy w' v.ownBlock → (∀ q, v.ownBlock = some q → base ≤ q) → wpList Tryd.prog ops Q rest (a.put o.dst (.slice A' n' c')) w') : wpList Tryd.prog ops Q (o :: rest) a w := by
  obtain ⟨A, n, c, rfl, hn, hown, hrd⟩ := hN
  obtain ⟨i0, hi, hz0, hz1, hz2⟩ := info_parts info_i64
  subst hn
  refine wpList_append_rd hgd s x 98 ho base 2 i0 (.int .i64 0) 8 Tryd.underlying98 hi hz0 hz1 hz2 rfl _ _ L hs hown (some ⟨b, 0, none⟩) 1 1 w.heap.size [z] hx ⟨rfl, fun e => (by cases e), fun ad e i hi => ?_⟩ (by unfold maxLen; omega) (by omega) hbase (fun A' c' w' k1 k2 k3 => ?_)
  · injection e with e
    subst e
    obtain rfl : i = 0 := by omega
    exact ⟨World.block_lt_of_cell? _ _ hz, by simpa [Addr.add] using hz⟩
  · exact h A' _ c' w' ⟨A', _, c', rfl, by simp, k1, k2⟩ k3 (fun q hq => (gr.own_lt hown q hq).1)
section
variable {w : World} {K : List Nat} {g : Nat} {cf : Nat → Int} {σ : Gs}
end
end Go.Proofs.YtfhebjkoojodiaaDoor.gp
