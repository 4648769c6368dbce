/- Texts that this claim stands on. -/
import Derived.Lib.SmallJoins
import Derived.Lib.LaidTab
import Derived.Below
import Derived.ChangeSame
import Derived.Test.YtfhebjkoojodiaaDoorRows
import Derived.Test.YtfhebjkoojodiaaDoorPCfB
namespace Go.Proofs.YtfhebjkoojodiaaDoor.gen
open Go.Joins Go.ChangeShapes Go.WideShapes Go.RowKit Go.Deep
section
variable {H : Type} {enc : TypeId × Value → H} {P : Program} {w : World} {base : Nat} {spare : Nat → Bool} {held : Bool}
def intFields (P : Program) (fs : Array Field) (k : IntKind) : Bool := (List.range fs.size).all fun i => match fs[i]? with
  | some f => (match P.underlying f.type with | some (.int k') => decide (k' = k) | _ => false)
  | none => false
theorem intFields_at {P : Program} {fs : Array Field} {k : IntKind} (h : intFields P fs k = true) (j : Nat) (f : Field) (hj : fs[j]? = some f) : P.underlying f.type = some (.int k) := by
  have hlt : j < fs.size := (Array.getElem?_eq_some_iff.1 hj).1
  have h1 := List.all_eq_true.1 h j (List.mem_range.2 hlt)
  rw [hj] at h1
  dsimp only at h1
  split at h1
  · rename_i k' e
    rw [e, of_decide_eq_true h1]
  · cases h1
theorem open_ints {k : IntKind} {t : TypeId} {fs : Array Field} {fuel : Nat} {cs : List Value} {x : DataW H × List MemPlace} (hs : P.underlying t = some (.struct fs)) (hone : oneCellFields P fs = true)
    (hi : ∀ (j : Nat) (f : Field), fs[j]? = some f → P.underlying f.type = some (.int k)) (hC : P.cellsOf t = fs.size) (h : DataW.trod enc P w base spare held fuel t cs = some x) :
    ∃ zs : List Int, zs.length = fs.size ∧ cs = zs.map (Value.int k) ∧ x = (.agg (zs.map fun z => .lit (.int k z)), []) ∧ ∀ z ∈ zs, (Lit.int k z).wf = true := by
  obtain ⟨xs, n, rfl, hx, hl, hn, hel⟩ := DataW.trod_struct hs h
  rw [hC] at hl
  have at_ : ∀ i, i < fs.size → ∃ z : Int, cs[i]? = some (.int k z) ∧ xs[i]? = some (.lit (.int k z), []) ∧ (Lit.int k z).wf = true := by
    intro i hi'
    have hf : fs[i]? = some fs[i] := by simp [hi']
    obtain ⟨o, c⟩ := hone_of hone i _ hf
    have h1 := hel i _ hf
    rw [o, c] at h1
    have hxi : xs[i]? = some (xs[i]'(by omega)) := List.getElem?_eq_getElem (by omega)
    rw [hxi] at h1
    obtain ⟨z, e1, e2, e3⟩ := DataW.trod_int (hi i _ hf) h1
    refine ⟨z, ?_, by rw [hxi, e2], e3⟩
    have := congrArg (·[0]?) e1
    simpa [List.getElem?_take, List.getElem?_drop] using this
  refine ⟨cs.map (fun | .int _ z => z | _ => 0), by simp [hl], ?_, ?_, ?_⟩
  · apply List.ext_getElem?
    intro i
    by_cases hi' : i < fs.size
    · obtain ⟨z, e1, _, _⟩ := at_ i hi'
      simp [e1]
    · rw [List.getElem?_eq_none (by omega), List.getElem?_eq_none (by simp; omega)]
  · rw [hx]
    congr 1
    · congr 1
      apply List.ext_getElem?
      intro i
      by_cases hi' : i < fs.size
      · obtain ⟨z, e1, e2, _⟩ := at_ i hi'
        simp [e1, e2]
      · rw [List.getElem?_eq_none (by simp; omega), List.getElem?_eq_none (by simp; omega)]
    · rw [List.flatMap_eq_nil_iff]
      intro y hy
      obtain ⟨i, hi', rfl⟩ := List.getElem_of_mem hy
      obtain ⟨z, _, e2, _⟩ := at_ i (by omega)
      rw [List.getElem?_eq_getElem hi'] at e2
      rw [Option.some.inj e2]
  · intro z hz
    obtain ⟨v, hv, rfl⟩ := List.mem_map.1 hz
    obtain ⟨i, hi', rfl⟩ := List.getElem_of_mem hv
    obtain ⟨z', e1, _, e3⟩ := at_ i (by omega)
    rw [List.getElem?_eq_getElem hi'] at e1
    rw [Option.some.inj e1]
    exact e3
theorem rows_of_laid {W : World} {name : String} {k : IntKind} {rows : List (List Int)} {rest : List (String × DataW Unit)} {g : Nat} {t e : TypeId} {n : Nat} {fs : Array Field}
    (hg : P.globalNamed name = some g) (hty : (P.globals[g]?).map (·.type) = some t) (ht : P.underlying t = some (.array n e)) (hs : P.underlying e = some (.struct fs)) (hone : oneCellFields P fs = true)
    (hi : ∀ (j : Nat) (f : Field), fs[j]? = some f → P.underlying f.type = some (.int k)) (hC : P.cellsOf e = fs.size)
    (h : laidMet P ((name, .agg (rows.map fun r => .agg (r.map fun z => .lit (.int k z)))) :: rest) W) :
    rows.length = n ∧ ∀ i, i < n → ∀ j, j < fs.size → W.cell? ⟨g, i * fs.size + j, none⟩ = some (.int k ((rows.getD i []).getD j 0)) := by
  obtain ⟨ps, ⟨g', t', cs, fuel, p, q, hg', ht', hvar, hd, _, _⟩, _⟩ := h
  obtain rfl := Option.some.inj (hg.symm.trans hg')
  obtain rfl := Option.some.inj (hty.symm.trans ht')
  obtain ⟨xs, m, rfl, hx, hl, hn, hel⟩ := DataW.trod_array ht hd
  have hx1 : rows.map (fun r => (DataW.agg (r.map fun z => .lit (.int k z)) : DataW Unit)) = xs.map (·.1) := by
    have := congrArg Prod.fst hx
    simpa using this
  have hr : rows.length = n := by
    have := congrArg List.length hx1
    simpa [hn] using this
  refine ⟨hr, fun i hi' j hj => ?_⟩
  have h1 := hel i hi'
  have hxi : xs[i]? = some (xs[i]'(by omega)) := List.getElem?_eq_getElem (by omega)
  rw [hxi, hC] at h1
  obtain ⟨zs, hz, hc, hx2, _⟩ := open_ints hs hone hi hC h1
  have hri : rows[i]? = some (rows[i]'(by omega)) := List.getElem?_eq_getElem (by omega)
  have h2 := congrArg (·[i]?) hx1
  simp only [List.getElem?_map, hri, hxi, Option.map_some, Option.some.injEq, hx2, DataW.agg.injEq] at h2
  have h3 : rows[i]'(by omega) = zs := by
    have := congrArg (List.map fun | (.lit (.int _ z) : DataW Unit) => z | _ => 0) h2
    simpa [Function.comp_def] using this
  rw [World.var?_cell hg hvar, ← Array.getElem?_toList]
  have h4 := congrArg (·[j]?) hc
  simp only [List.getElem?_take, List.getElem?_drop, hj, if_true, List.getElem?_map] at h4
  rw [h4]
  have hzj : zs[j]? = some (zs[j]'(by omega)) := List.getElem?_eq_getElem (by omega)
  have h5 : rows.getD i [] = zs := by
    rw [List.getD_eq_getElem?_getD, hri]
    simpa using h3
  rw [h5]
  simp [hzj]
end
end Go.Proofs.YtfhebjkoojodiaaDoor.gen
namespace Go.Proofs.YtfhebjkoojodiaaDoor.lac
open Go.ChangeShapes Go.WideShapes Go.ChangeAt Go.RowKit gen
set_option maxRecDepth 100000
theorem gTab : Tryd.prog.globalNamed "scutage/config.spans" = some 0 := by kernel_rfl
theorem gTabType : (Tryd.prog.globals[0]?).map (·.type) = some 90 := by kernel_rfl
theorem cells_span : Tryd.prog.cellsOf 89 = 2 := by kernel_rfl
theorem cells_cfg : Tryd.prog.cellsOf 23 = 10 := by kernel_rfl
theorem table {W : World} (h : laidMetH Tryd.prog [("scutage/config.spans", Rows.laid_scutage_config_spans)] W) : cf.Table W := by
  obtain ⟨_, hc⟩ := rows_of_laid (k := .i64) (rows := [[2, 64], [1, 8], [1, 64], [1, 16], [0, 1000], [0, 65535], [0, 64], [1, 16], [1, 256], [0, 64]]) (rest := []) gTab gTabType Tryd.underlying90 Tryd.underlying89 (by kernel_rfl) (intFields_at (by kernel_rfl)) cells_span h
  refine ⟨World.block_lt_of_cell? W _ (hc 0 (by decide) 0 (by decide)), fun i hi => ?_⟩
  have h0 := hc i hi 0 (by decide)
  have h1 := hc i hi 1 (by decide)
  have hk' : i = 0 ∨ i = 1 ∨ i = 2 ∨ i = 3 ∨ i = 4 ∨ i = 5 ∨ i = 6 ∨ i = 7 ∨ i = 8 ∨ i = 9 := by omega
  rcases hk' with rfl | rfl | rfl | rfl | rfl | rfl | rfl | rfl | rfl | rfl <;> exact ⟨h0, h1⟩
theorem ten_list {zs : List Int} (h : zs.length = 10) : ∃ a0 a1 a2 a3 a4 a5 a6 a7 a8 a9 : Int, zs = [a0, a1, a2, a3, a4, a5, a6, a7, a8, a9] := by
  match zs, h with
  | [a0, a1, a2, a3, a4, a5, a6, a7, a8, a9], _ => exact ⟨_, _, _, _, _, _, _, _, _, _, rfl⟩
theorem open_cfg {H : Type} {enc : TypeId × Value → H} {w : World} {base : Nat} {spare : Nat → Bool} {held : Bool} {r : Reach} {b0 : Nat} {v : Value} {d : DataW H} {p : List MemPlace}
    (hv : Value.okWide Tryd.prog w r b0 23 v) (h : DataW.Trod enc Tryd.prog w base spare held 23 v d p) :
    ∃ a0 a1 a2 a3 a4 a5 a6 a7 a8 a9 : Int, v = .agg #[.int .i64 a0, .int .i64 a1, .int .i64 a2, .int .i64 a3, .int .i64 a4, .int .i64 a5, .int .i64 a6, .int .i64 a7, .int .i64 a8, .int .i64 a9] := by
  obtain ⟨cs, rfl, hsz⟩ := okWide_struct Tryd.underlying23 hv
  obtain ⟨fuel, hf⟩ := h
  obtain ⟨zs, hz, hc, hx, hw⟩ := open_ints (k := .i64) Tryd.underlying23 (by kernel_rfl) (intFields_at (by kernel_rfl)) cells_cfg hf
  have e : cs = (zs.map (Value.int .i64)).toArray := by
    apply Array.ext'
    simpa [Value.cells] using hc
  subst e
  obtain ⟨a0, a1, a2, a3, a4, a5, a6, a7, a8, a9, rfl⟩ := ten_list hz
  exact ⟨_, _, _, _, _, _, _, _, _, _, rfl⟩
end Go.Proofs.YtfhebjkoojodiaaDoor.lac
