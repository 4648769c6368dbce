/- Texts that this claim stands on. -/
import Derived.Test.YtfhebjkoojodiaaDoorQGenC
namespace Go.Proofs.YtfhebjkoojodiaaDoor.gen
open Go.Joins Go.ChangeShapes Go.WideShapes Go.RowKit Go.Deep
section
variable {H : Type} {enc : TypeId × Value → H} {P : Program} {w : World} {fuel : Nat}
theorem open_rows_of {t e : TypeId} {nf : Nat} {A : Option Addr} {len cap : Nat} {x : DataW H × List MemPlace} (ht : P.underlying t = some (.slice e)) (hC : P.cellsOf e = nf) (hpos : 0 < nf)
    (hop : ∀ {fuel : Nat} {cs : List Value} {x : DataW H × List MemPlace} {sp : Nat → Bool} {hd : Bool}, DataW.trod enc P w 0 sp hd fuel e cs = some x → ∃ zs : List Int, zs.length = nf ∧ cs = zs.map (Value.int .i64) ∧ ∀ z ∈ zs, (Lit.int .i64 z).wf = true)
    (h : DataW.trod enc P w 0 (fun _ => true) true fuel t [.slice A len cap] = some x) :
    ∃ f, Rws w w.heap.size A len nf f ∧ len ≤ cap ∧ cap ≤ maxLen := by
  rcases open_slice ht h with ⟨e1, _⟩ | ⟨a, l, c, m, n, D, Pl, e1, _, hl, hm, hmm, _, hx⟩
  · simp at e1
    obtain ⟨rfl, rfl, rfl⟩ := e1
    exact ⟨fun _ _ => 0, fun i hi => absurd hi (by omega), by omega, by unfold maxLen; omega⟩
  · simp at e1
    obtain ⟨rfl, rfl, rfl⟩ := e1
    simp only [if_true] at hmm
    subst hmm
    have each : ∀ i, i < len → ∃ zs : List Int, zs.length = nf ∧ (∀ j, j < nf → w.cell? (a.add (i * nf + j)) = some (.int .i64 (zs.getD j 0))) ∧ ∀ z ∈ zs, (Lit.int .i64 z).wf = true := by
      intro i hi'
      obtain ⟨cs', h1, h2⟩ := hx i (by omega)
      rw [hC] at h1
      obtain ⟨_, hlen, hcell⟩ := World.cells?_some h1
      obtain ⟨zs, hz, rfl, hw⟩ := hop h2
      refine ⟨zs, hz, fun j hj => ?_, hw⟩
      have := hcell j hj
      rw [add_add] at this
      rw [this, List.getElem?_map, List.getElem?_eq_getElem (by omega)]
      simp [show j < zs.length by omega]
    obtain ⟨f, hf⟩ := choose_lt (α := List Int) (p := fun i zs => zs.length = nf ∧ (∀ j, j < nf → w.cell? (a.add (i * nf + j)) = some (.int .i64 (zs.getD j 0))) ∧ ∀ z ∈ zs, (Lit.int .i64 z).wf = true) each
    refine ⟨fun i j => (f i).getD j 0, fun i hi' => ?_, hl, hm⟩
    obtain ⟨h1, h2, h3⟩ := hf i hi'
    obtain ⟨b, off, spot⟩ := a
    have : spot = none := by
      have h0 := (hf 0 (by omega)).2.1 0 hpos
      simpa [Addr.add] using World.cell?_spot h0
    subst this
    refine ⟨b, off, rfl, ?_, fun j hj => ?_, fun j hj => ?_⟩
    · have := World.block_lt_of_cell? _ _ (h2 0 hpos)
      rwa [block_of_add] at this
    · have := h2 j hj
      rw [Addr.add_lit, ← Nat.add_assoc] at this
      exact this
    · have hj' : j < (f i).length := by omega
      have hw := h3 _ (List.getElem_mem (l := f i) hj')
      have e : (f i).getD j 0 = (f i)[j] := by simp [hj']
      show -9223372036854775808 ≤ (f i).getD j 0 ∧ (f i).getD j 0 ≤ 9223372036854775807
      rw [e]
      exact bounds_i64 hw
def flat (P : Program) : Nat → TypeId → Bool
  | 0, _ => false
  | n + 1, t => match P.underlying t with
    | some (.int k) => decide (k = .i64) && P.cellsOf t == 1
    | some (.struct fs) => ((List.range fs.size).all fun i => match fs[i]? with | some f => flat P n f.type | none => false) &&
        (List.range (P.cellsOf t)).all fun j => (List.range fs.size).any fun i => match fs[i]? with | some f => decide (f.offset ≤ j ∧ j < f.offset + P.cellsOf f.type) | none => false
    | _ => false
theorem open_flat {base : Nat} {spare : Nat → Bool} {held : Bool} : ∀ (n : Nat) {t : TypeId} {fuel : Nat} {cs : List Value} {x : DataW H × List MemPlace}, flat P n t = true → DataW.trod enc P w base spare held fuel t cs = some x →
    ∃ zs : List Int, zs.length = P.cellsOf t ∧ cs = zs.map (Value.int .i64) ∧ ∀ z ∈ zs, (Lit.int .i64 z).wf = true
  | 0, _, _, _, _, h, _ => by simp [flat] at h
  | n + 1, t, fuel, cs, x, h, hd => by
    unfold flat at h
    split at h
    · rename_i k hk
      rw [Bool.and_eq_true] at h
      have e := of_decide_eq_true h.1
      subst e
      obtain ⟨z, rfl, _, hw⟩ := DataW.trod_int hk hd
      exact ⟨[z], by have := h.2; simp at this; simp [this], rfl, by simpa using hw⟩
    · rename_i fs hs
      rw [Bool.and_eq_true] at h
      obtain ⟨h1, h2⟩ := h
      obtain ⟨xs, m, rfl, _, hl, hn, hel⟩ := DataW.trod_struct hs hd
      have at_ : ∀ j, j < cs.length → ∃ z : Int, cs[j]? = some (.int .i64 z) ∧ (Lit.int .i64 z).wf = true := by
        intro j hj
        have h3 := List.all_eq_true.1 h2 j (List.mem_range.2 (by omega))
        obtain ⟨i, hi, h4⟩ := List.any_eq_true.1 h3
        have hi' := List.mem_range.1 hi
        have h5 := List.all_eq_true.1 h1 i hi
        have hf : fs[i]? = some fs[i] := by simp [hi']
        rw [hf] at h4 h5
        dsimp only at h4 h5
        obtain ⟨o1, o2⟩ := of_decide_eq_true h4
        have hx := hel i _ hf
        have hxi : xs[i]? = some (xs[i]'(by omega)) := List.getElem?_eq_getElem (by omega)
        rw [hxi] at hx
        obtain ⟨zs, hz, hc, hw⟩ := open_flat n h5 hx
        have hk : j - (fs[i]).offset < zs.length := by omega
        refine ⟨zs[j - (fs[i]).offset], ?_, hw _ (List.getElem_mem _)⟩
        have h6 := congrArg (·[j - (fs[i]).offset]?) hc
        simp only [List.getElem?_take, List.getElem?_drop, List.getElem?_map] at h6
        rw [if_pos (by omega), show (fs[i]).offset + (j - (fs[i]).offset) = j by omega, List.getElem?_eq_getElem hk] at h6
        exact h6
      refine ⟨cs.map (fun | .int _ z => z | _ => 0), by simp [hl], ?_, ?_⟩
      · apply List.ext_getElem?
        intro j
        by_cases hj : j < cs.length
        · obtain ⟨z, e, _⟩ := at_ j hj
          simp [e]
        · rw [List.getElem?_eq_none (by omega), List.getElem?_eq_none (by simp; omega)]
      · intro z hz
        obtain ⟨v, hv, rfl⟩ := List.mem_map.1 hz
        obtain ⟨j, hj, rfl⟩ := List.getElem_of_mem hv
        obtain ⟨z', e1, e3⟩ := at_ j hj
        rw [List.getElem?_eq_getElem hj] at e1
        rw [Option.some.inj e1]
        exact e3
    · cases h
theorem open_flats {t e : TypeId} {nf : Nat} {A : Option Addr} {len cap : Nat} {x : DataW H × List MemPlace} (n : Nat) (ht : P.underlying t = some (.slice e)) (hf : flat P n e = true) (hC : P.cellsOf e = nf) (hpos : 0 < nf)
    (h : DataW.trod enc P w 0 (fun _ => true) true fuel t [.slice A len cap] = some x) :
    ∃ f, Rws w w.heap.size A len nf f ∧ len ≤ cap ∧ cap ≤ maxLen :=
  open_rows_of ht hC hpos (fun h => by obtain ⟨zs, h1, h2, h3⟩ := open_flat n hf h; exact ⟨zs, h1.trans hC, h2, h3⟩) h
end
end Go.Proofs.YtfhebjkoojodiaaDoor.gen
