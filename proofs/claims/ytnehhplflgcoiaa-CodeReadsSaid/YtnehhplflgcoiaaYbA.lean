/- Lists of octets in memory: those of the call's own, those that are read, whole rows; an append onto them; what they are as a string. -/
import Derived.Test.YtnehhplflgcoiaaGrA
import Derived.Deep.AppendLies
import Derived.Lib.SliceRun
import Derived.Laws.IdiomStrings
namespace Go.Proofs.Ytnehhplflgcoiaa.yb
open Go.ChangeShapes Go.WideShapes Go.ChangeAt Go.RowKit gen
set_option linter.unusedVariables false
set_option maxHeartbeats 1000000
set_option maxRecDepth 100000

/-- An octet's cell. -/
def u8 (b : UInt8) : Value := .int .u8 (b.toNat : Int)
/-- A list's cells. -/
def u8s (m : List UInt8) : List Value := m.map u8
theorem u8s_length (m : List UInt8) : (u8s m).length = m.length := by simp [u8s]
theorem u8s_append (m l : List UInt8) : u8s (m ++ l) = u8s m ++ u8s l := by simp [u8s]
theorem u8s_one (m : List UInt8) : ∀ v ∈ u8s m, v.oneCell' = true := by
  intro v hv
  obtain ⟨_, _, rfl⟩ := List.mem_map.1 hv
  rfl
/-- The slice '.slice A n c' holds the octets m. -/
def Ry (w : World) (A : Option Addr) (n c : Nat) (m : List UInt8) : Prop :=
  m.length = n ∧ n ≤ c ∧ c ≤ maxLen ∧ (A = none → n = 0 ∧ c = 0) ∧ ∀ i, i < n → ∃ b off, A = some ⟨b, off, none⟩ ∧ w.cell? ⟨b, off + i, none⟩ = some (u8 (m.getD i 0))
theorem Ry.at_ {w : World} {n c i : Nat} {A : Option Addr} {m : List UInt8} (h : Ry w A n c m) (hi : i < n) : ∃ b off, A = some ⟨b, off, none⟩ ∧ w.cell? ⟨b, off + i, none⟩ = some (u8 (m.getD i 0)) := h.2.2.2.2 i hi
theorem Ry.kept {w w' : World} {n c : Nat} {A : Option Addr} {m : List UInt8} {row : Option Nat} (h : Ry w A n c m) (hg : w.grownBy w' row) (hr : ∀ ad, A = some ad → 0 < n → some ad.block ≠ row) : Ry w' A n c m := by
  refine ⟨h.1, h.2.1, h.2.2.1, h.2.2.2.1, fun i hi => ?_⟩
  obtain ⟨b, off, e, h1⟩ := h.2.2.2.2 i hi
  exact ⟨b, off, e, hg.cell h1 (fun e2 => hr _ e (by omega) e2)⟩
theorem Ry.made {w w' : World} {n c : Nat} {A : Option Addr} {m : List UInt8} (h : Ry w A n c m) (hg : w.grownBy w' none) : Ry w' A n c m := h.kept hg (by simp)
theorem Ry.nil (w : World) : Ry w none 0 0 [] := ⟨rfl, Nat.le_refl _, by unfold maxLen; omega, fun _ => ⟨rfl, rfl⟩, fun i hi => by omega⟩
/-- A part of it: from k on, j octets. -/
theorem Ry.part {w : World} {n c k j c' b off : Nat} {m : List UInt8} (h : Ry w (some ⟨b, off, none⟩) n c m) (hk : k + j ≤ n) (h1 : j ≤ c') (h2 : c' ≤ maxLen) : Ry w (some ⟨b, off + k, none⟩) j c' ((m.drop k).take j) := by
  refine ⟨by rw [List.length_take, List.length_drop, h.1]; omega, h1, h2, fun e => (by cases e), fun i hi => ?_⟩
  obtain ⟨b', off', e, c1⟩ := h.2.2.2.2 (k + i) (by omega)
  injection e with e
  injection e with e1 e2 e3
  subst e1 e2
  refine ⟨b, off + k, rfl, ?_⟩
  rw [Nat.add_assoc, c1]
  simp [List.getD_eq_getElem?_getD, hi]
theorem Ry.cells {w : World} {n c : Nat} {A : Option Addr} {m : List UInt8} (h : Ry w A n c m) : ∀ ad, A = some ad → ∀ j u, (u8s m)[j]? = some u → w.cell? (ad.add j) = some u := by
  intro ad e j u hu
  simp only [u8s, List.getElem?_map, Option.map_eq_some_iff] at hu
  obtain ⟨y, hy, rfl⟩ := hu
  have hj : j < n := by have := (List.getElem?_eq_some_iff.mp hy).1; rw [h.1] at this; exact this
  obtain ⟨b, off, e2, c1⟩ := h.2.2.2.2 j hj
  rw [e] at e2
  injection e2 with e2
  subst e2
  rw [Addr.add_lit, c1, List.getD_eq_getElem?_getD, hy]
  rfl
/-- What it is as a string. -/
theorem Ry.str {w : World} {n c : Nat} {A : Option Addr} {m : List UInt8} (h : Ry w A n c m) (hn : 0 < n) : (convert 26 9 (.slice A n c)).run Try.prog w = .ok (.string ⟨m.toArray⟩) w := by
  obtain ⟨b, off, rfl, _⟩ := h.at_ hn
  have hl := h.1
  subst hl
  refine run_convert_bytes_back (P := Try.prog) w 26 9 5 ⟨b, off, none⟩ c m Try.underlying26 Try.underlying5 Try.underlying9 (fun j hj => ?_)
  obtain ⟨b', off', e, c1⟩ := h.at_ hj
  injection e with e
  injection e with e1 e2 e3
  subst e1 e2
  rw [Addr.add_lit, c1]
  simp [u8, List.getD_eq_getElem?_getD, hj]
/-- A list of the call's own. -/
def Ly (w : World) (base : Nat) (v : Value) (m : List UInt8) : Prop := w.ownsRow base 5 1 v m.length (u8s m)
section
variable {w w' : World} {base : Nat} {v : Value} {m : List UInt8} {L : List Nat}
theorem Ly.nil (w : World) (base : Nat) : Ly w base (.slice none 0 0) [] := World.ownsRow_nil _ _ _ _
theorem Ly.mono {base' : Nat} (h : Ly w base v m) (hb : base' ≤ base) : Ly w base' v m := li.own_mono h hb
theorem Ly.kept {row : Option Nat} (h : Ly w base v m) (hg : w.grownBy w' row) (hr : v.ownBlock = none ∨ v.ownBlock ≠ row) : Ly w' base v m := World.ownsRow.kept h hg hr
theorem Ly.new (h : Ly w base v m) (hg : w.grownBy w' none) : Ly w' base v m := h.kept hg (by cases v.ownBlock <;> simp)
theorem Ly.gr (h : Ly w base v m) (hg : gr.Gr L w w') (hL : ∀ q, v.ownBlock = some q → q ∉ L) : Ly w' base v m := gr.own_gr h hg hL
theorem Ly.from_ (h : Ly w base v m) : ∀ k, v.ownBlock = some k → base ≤ k := fun k e => (gr.own_lt h k e).1
theorem Ly.lt (h : Ly w base v m) : ∀ k, v.ownBlock = some k → k < w.heap.size := fun k e => (gr.own_lt h k e).2
theorem Ly.shape (h : Ly w base v m) : ∃ A N k, v = .slice A N k ∧ N = m.length ∧ N ≤ k ∧ k ≤ maxLen := by
  rcases h.2 with ⟨rfl, hz⟩ | ⟨g, cap, cur, rfl, _, _, h1, h2, _⟩
  · exact ⟨none, 0, 0, rfl, hz.symm, Nat.le_refl _, by unfold maxLen; omega⟩
  · exact ⟨_, _, _, rfl, rfl, h1, h2⟩
theorem Ly.head {A : Option Addr} {N k : Nat} (h : Ly w base (.slice A N k) m) : (A = none ∧ N = 0 ∧ k = 0) ∨ ∃ g, A = some ⟨g, 0, none⟩ := by
  rcases h.2 with ⟨e, hz⟩ | ⟨g, cap, cur, e, _⟩
  · injection e with e1 e2 e3
    exact .inl ⟨e1, e2, e3⟩
  · injection e with e1 e2 e3
    exact .inr ⟨g, e1⟩
theorem Ly.ry {A : Option Addr} {N k : Nat} (h : Ly w base (.slice A N k) m) (hN : N = m.length) : Ry w A N k m := by
  subst hN
  rcases h.2 with ⟨e, hz⟩ | ⟨g, cap, cur, e, _, hg, h1, h2, h3, h4⟩
  · obtain ⟨rfl, hN, rfl⟩ : A = none ∧ m.length = 0 ∧ k = 0 := by simpa using e
    exact ⟨rfl, by omega, by unfold maxLen; omega, fun _ => ⟨hN, rfl⟩, fun i hi => by omega⟩
  · obtain ⟨rfl, rfl⟩ : A = some ⟨g, 0, none⟩ ∧ k = cap := by simpa using e
    refine ⟨rfl, h1, h2, fun e => (by cases e), fun i hi => ⟨g, 0, rfl, ?_⟩⟩
    rw [Nat.zero_add, h.cellAt i (by omega)]
    simp [u8s, List.getD_eq_getElem?_getD, hi]
/-- A row, whole: a block of just these octets. -/
def Hw (w : World) (g : Nat) (m : List UInt8) : Prop := w.heap[g]? = some (.cells (u8s m).toArray 5 (0, 0))
theorem Hw.lt {g : Nat} (h : Hw w g m) : g < w.heap.size := (Array.getElem?_eq_some_iff.1 h).1
theorem Hw.kept {g : Nat} {row : Option Nat} (h : Hw w g m) (hg : w.grownBy w' row) (hr : row ≠ some g) : Hw w' g m := (hg.block g h.lt (fun e => hr e.symm)).trans h
theorem Hw.new {g : Nat} (h : Hw w g m) (hg : w.grownBy w' none) : Hw w' g m := h.kept hg (by simp)
theorem Hw.at_ {g i : Nat} (h : Hw w g m) (hi : i < m.length) : w.cell? ⟨g, i, none⟩ = some (u8 (m.getD i 0)) := by
  rw [cell_of_row w g i _ _ _ h]
  simp [u8s, List.getD_eq_getElem?_getD, hi]
theorem Hw.free {g : Nat} (h : Hw w g m) (i : Nat) : w.frozen? ⟨g, i, none⟩ = false := frozen_of_row w g i _ _ h
theorem Hw.set {g : Nat} (h : Hw w g m) (i : Nat) (b : UInt8) : Hw (w.setCell ⟨g, i, none⟩ (u8 b)) g (m.set i b) := by
  have e := heap_setCell_same w g i _ _ (u8 b) h
  unfold Hw
  rw [e]
  congr 2
  apply Array.ext'
  simp [u8s, List.map_set]
theorem Hw.own {g : Nat} (h : Hw w g m) (hb : base ≤ g) (hm : m.length ≤ maxLen) : Ly w base (.slice (some ⟨g, 0, none⟩) m.length m.length) m :=
  ⟨by rw [u8s_length]; omega, .inr ⟨g, _, _, rfl, hb, h, Nat.le_refl _, hm, by simp [u8s_length], by simpa using List.take_of_length_le (by rw [u8s_length]; omega)⟩⟩
theorem Hw.ry {g n : Nat} (h : Hw w g m) (hm : m.length = n) (hn : n ≤ maxLen) : Ry w (some ⟨g, 0, none⟩) n n m :=
  ⟨hm, Nat.le_refl _, hn, fun e => (by cases e), fun i hi => ⟨g, 0, rfl, by rw [Nat.zero_add]; exact h.at_ (by omega)⟩⟩
end
theorem info_u8 : (Try.prog.info? 5).map (fun i => (i.zero, i.size, i.bytes)) = some (some (.int .u8 0), 1, 1) := by kernel_rfl
/-- Octets appended to a list of one's own. -/
theorem append_u8s {w : World} {ops : Array Oper} {rest : List Oper} {o : Oper} {a : Act} {Q : Exit → Act → World → Prop} (hgd : o.guard = none) (s x : Operand) (ho : o.op = .call { callee := .builtin .append, args := #[s, x], argTypes := #[26, 26] })
    (base : Nat) (v : Value) (m : List UInt8) (hs : a.eval s = v) (hown : Ly w base v m) (A : Option Addr) (n c : Nat) (l : List UInt8) (hx : a.eval x = .slice A n c)
    (hr : Ry w A n c l) (hm : m.length + n ≤ 1048576) (hbase : base ≤ w.heap.size)
    (h : ∀ A' N' c' w', N' = (m ++ l).length → Ly w' base (.slice A' N' c') (m ++ l) → w.grownBy w' v.ownBlock → wpList Try.prog ops Q rest (a.put o.dst (.slice A' N' c')) w') : wpList Try.prog ops Q (o :: rest) a w := by
  obtain ⟨i0, hi, hz0, hz1, hz2⟩ := info_parts info_u8
  have hn := hr.1
  cases A with
  | none =>
    obtain ⟨rfl, rfl⟩ := hr.2.2.2.1 rfl
    have : l = [] := List.eq_nil_of_length_eq_zero hr.1
    subst this
    rw [List.append_nil] at h
    refine wpList_append_own_none hgd s x 26 ho base 5 i0 1 Try.underlying26 hi v m.length (u8s m) hs hown hx ?_
    obtain ⟨A', N', c', rfl, hN, _, _⟩ := hown.shape
    exact h A' N' c' w hN hown (World.grownBy.refl _ _)
  | some ad =>
    refine wpList_append_own w hgd s x 26 ho base 5 i0 (.int .u8 0) 1 1 Try.underlying26 hi hz0 hz1 hz2 rfl (by omega) v m.length (u8s m) hs hown ad n c (u8s l) hx (by rw [u8s_length, hn]; omega)
      (hr.cells ad rfl) (u8s_one l) (by unfold maxLen; omega) (by omega) hbase (fun v' w' h3 h4 h5 => ?_)
    rw [← u8s_append] at h3
    have h3' : Ly w' base v' (m ++ l) := by
      unfold Ly
      rw [List.length_append, hn]
      exact h3
    obtain ⟨A', N', c', rfl, hN, _, _⟩ := h3'.shape
    exact h A' N' c' w' hN h3' h4
theorem Ry.one {w : World} {b : Nat} {y : UInt8} (h0 : w.cell? ⟨b, 0, none⟩ = some (u8 y)) : Ry w (some ⟨b, 0, none⟩) 1 1 [y] := by
  refine ⟨rfl, Nat.le_refl _, by unfold maxLen; omega, fun e => (by cases e), fun i hi => ⟨b, 0, rfl, ?_⟩⟩
  obtain rfl : i = 0 := by omega
  exact h0
/-- A list that was made. -/
def LyAns (m : List UInt8) (w : World) (e : Ending) (w' : World) : Prop := ∃ A N c, e = .returned (.slice A N c) ∧ N = m.length ∧ Ly w' w.heap.size (.slice A N c) m ∧ w.grownBy w' none
/-- An argument that is a list of octets. -/
theorem open_u8s {H : Type} {enc : TypeId × Value → H} {P : Program} {w : World} {fuel : Nat} {t e : TypeId} {A : Option Addr} {len cap : Nat} {x : DataW H × List MemPlace} (ht : P.underlying t = some (.slice e)) (he : P.underlying e = some (.int .u8)) (hC : P.cellsOf e = 1)
    (h : DataW.trod enc P w 0 (fun _ => true) true fuel t [.slice A len cap] = some x) : ∃ m, Ry w A len cap m := by
  rcases Go.ChangeShapes.open_ints ht he hC h with ⟨hcs, rfl⟩ | ⟨y, l, c, zs, hcs, _, hl, hm, hz, rfl, hcell, hwz⟩
  · simp at hcs
    obtain ⟨rfl, rfl, rfl⟩ := hcs
    exact ⟨[], Ry.nil w⟩
  · simp at hcs
    obtain ⟨rfl, rfl, rfl⟩ := hcs
    simp at hz
    refine ⟨(zs.take len).map fun z => UInt8.ofNat z.toNat, by rw [List.length_map, List.length_take]; omega, hl, hm, fun e => (by cases e), fun i hi => ?_⟩
    obtain ⟨b, off, spot⟩ := y
    obtain rfl : spot = none := by simpa [Addr.add] using World.cell?_spot (hcell 0 (by omega))
    refine ⟨b, off, rfl, ?_⟩
    have h1 := hcell i (by omega)
    rw [Addr.add_lit] at h1
    rw [h1]
    have hi2 : i < zs.length := by omega
    have hw := hwz _ (List.getElem_mem (l := zs) (n := i) hi2)
    simp [Lit.wf, IntKind.min, IntKind.max, IntKind.signed, IntKind.bits] at hw
    simp only [u8, List.getD_eq_getElem?_getD, List.getElem?_map, List.getElem?_take, hi, if_true, List.getElem?_eq_getElem hi2, Option.map_some, Option.getD_some]
    congr 2
    rw [UInt8.toNat_ofNat']
    omega
end Go.Proofs.Ytnehhplflgcoiaa.yb
