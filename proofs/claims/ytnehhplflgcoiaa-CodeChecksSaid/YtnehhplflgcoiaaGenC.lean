/- Arguments that are slices: of structs all of whose fields are integers, and of integers: what their reading says of their cells. -/
import Derived.Test.YtnehhplflgcoiaaGenB
import Derived.Test.YtnehhplflgcoiaaGen
import Derived.Deep.Slices
import Derived.Deep.Fields
import Derived.OpenShut
namespace Go.Proofs.Ytnehhplflgcoiaa.gen
open Go.Joins Go.ChangeShapes Go.WideShapes Go.RowKit Go.Deep
/-- A row of structs of nf numbers each, below block B. -/
def Rws (w : World) (B : Nat) (A : Option Addr) (n nf : Nat) (f : Nat → Nat → Int) : Prop :=
  ∀ i, i < n → ∃ b off, A = some ⟨b, off, none⟩ ∧ b < B ∧ (∀ j, j < nf → w.cell? ⟨b, off + i * nf + j, none⟩ = some (.int .i64 (f i j))) ∧ ∀ j, j < nf → -9223372036854775808 ≤ f i j ∧ f i j ≤ 9223372036854775807
theorem Rws.less {w : World} {B n m nf : Nat} {A : Option Addr} {f : Nat → Nat → Int} (h : Rws w B A n nf f) (hm : m ≤ n) : Rws w B A m nf f := fun i hi => h i (by omega)
theorem Rws.kept {w w' : World} {B n nf : Nat} {A : Option Addr} {f : Nat → Nat → Int} {row : Option Nat} (h : Rws w B A n nf f) (hg : w.grownBy w' row) (hr : ∀ r, row = some r → B ≤ r) : Rws w' B A n nf f := fun i hi => by
  obtain ⟨b, off, e, hb, hc, hw⟩ := h i hi
  refine ⟨b, off, e, hb, fun j hj => hg.cell (hc j hj) (fun e => ?_), hw⟩
  have := hr b e.symm
  omega
theorem Rws.some {w : World} {B n nf : Nat} {A : Option Addr} {f : Nat → Nat → Int} (h : Rws w B A n nf f) (hn : 0 < n) : ∃ ad, A = some ad := by
  obtain ⟨b, off, e, _⟩ := h 0 hn
  exact ⟨_, e⟩
section
variable {H : Type} {enc : TypeId × Value → H} {P : Program} {w : World} {fuel : Nat}
theorem open_rows {t e : TypeId} {fs : Array Field} {nf : Nat} {A : Option Addr} {len cap : Nat} {x : DataW H × List MemPlace} (ht : P.underlying t = some (.slice e)) (he : P.underlying e = some (.struct fs)) (hone : oneCellFields P fs = true)
    (hi : intFields P fs .i64 = true) (hC : P.cellsOf e = fs.size) (hnf : fs.size = nf) (hpos : 0 < nf) (h : DataW.trod enc P w 0 (fun _ => true) true fuel t [.slice A len cap] = some x) :
    ∃ f, Rws w w.heap.size A len nf f ∧ len ≤ cap ∧ cap ≤ maxLen := by
  subst hnf
  rcases open_slice ht h with ⟨e1, _⟩ | ⟨a, l, c, m, n, D, Pl, e1, _, hl, hm, hmm, _, hx⟩
  · simp at e1
    obtain ⟨rfl, rfl, rfl⟩ := e1
    exact ⟨fun _ _ => 0, fun i hi => absurd hi (by omega), by omega, by unfold maxLen; omega⟩
  · simp at e1
    obtain ⟨rfl, rfl, rfl⟩ := e1
    simp only [if_true] at hmm
    subst hmm
    have each : ∀ i, i < len → ∃ zs : List Int, zs.length = fs.size ∧ (∀ j, j < fs.size → w.cell? (a.add (i * fs.size + j)) = some (.int .i64 (zs.getD j 0))) ∧ ∀ z ∈ zs, (Lit.int .i64 z).wf = true := by
      intro i hi'
      obtain ⟨cs', h1, h2⟩ := hx i (by omega)
      rw [hC] at h1
      obtain ⟨_, hlen, hcell⟩ := World.cells?_some h1
      obtain ⟨zs, hz, rfl, _, hw⟩ := open_ints (k := .i64) he hone (intFields_at hi) hC h2
      refine ⟨zs, hz, fun j hj => ?_, hw⟩
      have := hcell j hj
      rw [add_add] at this
      rw [this, List.getElem?_map, List.getElem?_eq_getElem (by omega)]
      simp [show j < zs.length by omega]
    obtain ⟨f, hf⟩ := choose_lt (α := List Int) (p := fun i zs => zs.length = fs.size ∧ (∀ j, j < fs.size → w.cell? (a.add (i * fs.size + j)) = some (.int .i64 (zs.getD j 0))) ∧ ∀ z ∈ zs, (Lit.int .i64 z).wf = true) each
    refine ⟨fun i j => (f i).getD j 0, fun i hi' => ?_, hl, hm⟩
    obtain ⟨h1, h2, h3⟩ := hf i hi'
    obtain ⟨b, off, spot⟩ := a
    have : spot = none := by
      have h0 := (hf 0 (by omega)).2.1 0 hpos
      simpa [Addr.add] using World.cell?_spot h0
    subst this
    refine ⟨b, off, rfl, ?_, fun j hj => ?_, fun j hj => ?_⟩
    · have := World.block_lt_of_cell? _ _ (h2 0 hpos)
      rwa [block_of_add] at this
    · have := h2 j hj
      rw [Addr.add_lit, ← Nat.add_assoc] at this
      exact this
    · have hj' : j < (f i).length := by omega
      have hw := h3 _ (List.getElem_mem (l := f i) hj')
      have e : (f i).getD j 0 = (f i)[j] := by simp [hj']
      show -9223372036854775808 ≤ (f i).getD j 0 ∧ (f i).getD j 0 ≤ 9223372036854775807
      rw [e]
      exact bounds_i64 hw
theorem open_list {t e : TypeId} {A : Option Addr} {len cap : Nat} {x : DataW H × List MemPlace} (ht : P.underlying t = some (.slice e)) (he : P.underlying e = some (.int .i64)) (hC : P.cellsOf e = 1)
    (h : DataW.trod enc P w 0 (fun _ => true) true fuel t [.slice A len cap] = some x) :
    ∃ xs, Rd w w.heap.size A len cap xs ∧ (∀ i, -9223372036854775808 ≤ xs.getD i 0 ∧ xs.getD i 0 ≤ 9223372036854775807) ∧ len ≤ cap ∧ cap ≤ maxLen := by
  rcases Go.ChangeShapes.open_ints ht he hC h with ⟨hcs, rfl⟩ | ⟨y, l, c, zs, hcs, _, hl, hm, hz, rfl, hcell, hwz⟩
  · simp at hcs
    obtain ⟨rfl, rfl, rfl⟩ := hcs
    exact ⟨[], ⟨rfl, fun _ => ⟨rfl, rfl⟩, fun _ e => by cases e⟩, fun i => by simp, by omega, by unfold maxLen; omega⟩
  · simp at hcs
    obtain ⟨rfl, rfl, rfl⟩ := hcs
    simp at hz
    refine ⟨zs.take len, ⟨by rw [List.length_take]; omega, fun e => (by cases e), fun ad e i hi => ?_⟩, fun i => ?_, hl, hm⟩
    · injection e with e
      subst e
      have h := hcell i (by omega)
      refine ⟨by have := World.block_lt_of_cell? _ _ h; rwa [block_of_add] at this, ?_⟩
      rw [h]; simp [List.getD_eq_getElem?_getD, hi]
    · rw [List.getD_eq_getElem?_getD]
      cases e : (zs.take len)[i]? with
      | none => simp
      | some n => exact bounds_i64 (hwz n (List.mem_of_mem_take (List.mem_of_getElem? e)))
end
end Go.Proofs.Ytnehhplflgcoiaa.gen
