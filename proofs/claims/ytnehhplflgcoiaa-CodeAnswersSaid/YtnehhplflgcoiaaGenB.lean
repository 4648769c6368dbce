/- A struct, or a row of structs, all of whose fields are integers of one kind: what its reading says of its cells, and that such cells read so. -/
import Derived.Lib.SmallJoins
import Derived.Lib.LaidTab
import Derived.Below
import Derived.ChangeSame
namespace Go.Proofs.Ytnehhplflgcoiaa.gen
open Go.Joins Go.ChangeShapes Go.WideShapes Go.RowKit Go.Deep
section
variable {H : Type} {enc : TypeId × Value → H} {P : Program} {w : World} {base : Nat} {spare : Nat → Bool} {held : Bool}
/-- All fields are integers of kind k. -/
def intFields (P : Program) (fs : Array Field) (k : IntKind) : Bool := (List.range fs.size).all fun i => match fs[i]? with
  | some f => (match P.underlying f.type with | some (.int k') => decide (k' = k) | _ => false)
  | none => false
theorem intFields_at {P : Program} {fs : Array Field} {k : IntKind} (h : intFields P fs k = true) (j : Nat) (f : Field) (hj : fs[j]? = some f) : P.underlying f.type = some (.int k) := by
  have hlt : j < fs.size := (Array.getElem?_eq_some_iff.1 hj).1
  have h1 := List.all_eq_true.1 h j (List.mem_range.2 hlt)
  rw [hj] at h1
  dsimp only at h1
  split at h1
  · rename_i k' e
    rw [e, of_decide_eq_true h1]
  · cases h1
theorem mapM_of_get {α β : Type} {f : α → Option β} : ∀ {l : List α} {r : List β}, r.length = l.length → (∀ (i : Nat) (a : α), l[i]? = some a → ∃ b, r[i]? = some b ∧ f a = some b) → l.mapM f = some r
  | [], r, hl, _ => by cases r <;> simp_all
  | x :: l, [], hl, _ => by simp at hl
  | x :: l, y :: r, hl, h => by
    obtain ⟨b, hb, hf⟩ := h 0 x rfl
    obtain rfl : y = b := by simpa using hb
    have ih := mapM_of_get (l := l) (r := r) (f := f) (by simpa using hl) (fun i a ha => h (i + 1) a (by simpa using ha))
    rw [List.mapM_cons, hf]
    simp [ih]
theorem open_ints {k : IntKind} {t : TypeId} {fs : Array Field} {fuel : Nat} {cs : List Value} {x : DataW H × List MemPlace} (hs : P.underlying t = some (.struct fs)) (hone : oneCellFields P fs = true)
    (hi : ∀ (j : Nat) (f : Field), fs[j]? = some f → P.underlying f.type = some (.int k)) (hC : P.cellsOf t = fs.size) (h : DataW.trod enc P w base spare held fuel t cs = some x) :
    ∃ zs : List Int, zs.length = fs.size ∧ cs = zs.map (Value.int k) ∧ x = (.agg (zs.map fun z => .lit (.int k z)), []) ∧ ∀ z ∈ zs, (Lit.int k z).wf = true := by
  obtain ⟨xs, n, rfl, hx, hl, hn, hel⟩ := DataW.trod_struct hs h
  rw [hC] at hl
  have at_ : ∀ i, i < fs.size → ∃ z : Int, cs[i]? = some (.int k z) ∧ xs[i]? = some (.lit (.int k z), []) ∧ (Lit.int k z).wf = true := by
    intro i hi'
    have hf : fs[i]? = some fs[i] := by simp [hi']
    obtain ⟨o, c⟩ := hone_of hone i _ hf
    have h1 := hel i _ hf
    rw [o, c] at h1
    have hxi : xs[i]? = some (xs[i]'(by omega)) := List.getElem?_eq_getElem (by omega)
    rw [hxi] at h1
    obtain ⟨z, e1, e2, e3⟩ := DataW.trod_int (hi i _ hf) h1
    refine ⟨z, ?_, by rw [hxi, e2], e3⟩
    have := congrArg (·[0]?) e1
    simpa [List.getElem?_take, List.getElem?_drop] using this
  refine ⟨cs.map (fun | .int _ z => z | _ => 0), by simp [hl], ?_, ?_, ?_⟩
  · apply List.ext_getElem?
    intro i
    by_cases hi' : i < fs.size
    · obtain ⟨z, e1, _, _⟩ := at_ i hi'
      simp [e1]
    · rw [List.getElem?_eq_none (by omega), List.getElem?_eq_none (by simp; omega)]
  · rw [hx]
    congr 1
    · congr 1
      apply List.ext_getElem?
      intro i
      by_cases hi' : i < fs.size
      · obtain ⟨z, e1, e2, _⟩ := at_ i hi'
        simp [e1, e2]
      · rw [List.getElem?_eq_none (by simp; omega), List.getElem?_eq_none (by simp; omega)]
    · rw [List.flatMap_eq_nil_iff]
      intro y hy
      obtain ⟨i, hi', rfl⟩ := List.getElem_of_mem hy
      obtain ⟨z, _, e2, _⟩ := at_ i (by omega)
      rw [List.getElem?_eq_getElem hi'] at e2
      rw [Option.some.inj e2]
  · intro z hz
    obtain ⟨v, hv, rfl⟩ := List.mem_map.1 hz
    obtain ⟨i, hi', rfl⟩ := List.getElem_of_mem hv
    obtain ⟨z', e1, _, e3⟩ := at_ i (by omega)
    rw [List.getElem?_eq_getElem hi'] at e1
    rw [Option.some.inj e1]
    exact e3
theorem shut_ints {k : IntKind} {t : TypeId} {fs : Array Field} (zs : List Int) (hs : P.underlying t = some (.struct fs)) (hone : oneCellFields P fs = true)
    (hi : ∀ (j : Nat) (f : Field), fs[j]? = some f → P.underlying f.type = some (.int k)) (hC : P.cellsOf t = fs.size) (hz : zs.length = fs.size) (hw : ∀ z ∈ zs, (Lit.int k z).wf = true) :
    DataW.Trod enc P w base spare held t (.agg (zs.map (Value.int k)).toArray) (.agg (zs.map fun z => .lit (.int k z))) [] := by
  refine ⟨2, ?_⟩
  have := trod_struct_mk (enc := enc) (w := w) (base := base) (spare := spare) (held := held) (n := 1) (cs := zs.map (Value.int k)) (xs := zs.map fun z => ((.lit (.int k z) : DataW H), ([] : List MemPlace))) hs (by simp [hz, hC]) ?_
  · have e : (zs.map fun z => ((.lit (.int k z) : DataW H), ([] : List MemPlace))).flatMap (fun x => x.2) = [] := by
      rw [List.flatMap_eq_nil_iff]
      intro y hy
      obtain ⟨z, _, rfl⟩ := List.mem_map.1 hy
      rfl
    rw [e] at this
    simpa [Value.cells, Function.comp_def] using this
  · refine mapM_of_get (by simp [hz]) (fun i a ha => ?_)
    have ha' : fs[i]? = some a := by simpa using ha
    obtain ⟨o, c⟩ := hone_of hone i a ha'
    have hlt : i < fs.size := (Array.getElem?_eq_some_iff.1 ha').1
    have hzi : zs[i]? = some (zs[i]'(by omega)) := List.getElem?_eq_getElem (by omega)
    refine ⟨(.lit (.int k (zs[i]'(by omega))), []), by simp [hzi], ?_⟩
    have e : ((zs.map (Value.int k)).drop i).take 1 = [.int k (zs[i]'(by omega))] := by
      rw [List.drop_eq_getElem_cons (by simp; omega)]
      simp
    rw [o, c, e]
    unfold DataW.trod
    rw [hi i a ha']
    have := hw _ (List.getElem_mem (l := zs) (n := i) (by omega))
    simp [this]
/-- A listed table, an array of such structs, that reads as these rows, holds their numbers cell for cell. -/
theorem rows_of_laid {W : World} {name : String} {k : IntKind} {rows : List (List Int)} {rest : List (String × DataW Unit)} {g : Nat} {t e : TypeId} {n : Nat} {fs : Array Field}
    (hg : P.globalNamed name = some g) (hty : (P.globals[g]?).map (·.type) = some t) (ht : P.underlying t = some (.array n e)) (hs : P.underlying e = some (.struct fs)) (hone : oneCellFields P fs = true)
    (hi : ∀ (j : Nat) (f : Field), fs[j]? = some f → P.underlying f.type = some (.int k)) (hC : P.cellsOf e = fs.size)
    (h : laidMet P ((name, .agg (rows.map fun r => .agg (r.map fun z => .lit (.int k z)))) :: rest) W) :
    rows.length = n ∧ ∀ i, i < n → ∀ j, j < fs.size → W.cell? ⟨g, i * fs.size + j, none⟩ = some (.int k ((rows.getD i []).getD j 0)) := by
  obtain ⟨ps, ⟨g', t', cs, fuel, p, q, hg', ht', hvar, hd, _, _⟩, _⟩ := h
  obtain rfl := Option.some.inj (hg.symm.trans hg')
  obtain rfl := Option.some.inj (hty.symm.trans ht')
  obtain ⟨xs, m, rfl, hx, hl, hn, hel⟩ := DataW.trod_array ht hd
  have hx1 : rows.map (fun r => (DataW.agg (r.map fun z => .lit (.int k z)) : DataW Unit)) = xs.map (·.1) := by
    have := congrArg Prod.fst hx
    simpa using this
  have hr : rows.length = n := by
    have := congrArg List.length hx1
    simpa [hn] using this
  refine ⟨hr, fun i hi' j hj => ?_⟩
  have h1 := hel i hi'
  have hxi : xs[i]? = some (xs[i]'(by omega)) := List.getElem?_eq_getElem (by omega)
  rw [hxi, hC] at h1
  obtain ⟨zs, hz, hc, hx2, _⟩ := open_ints hs hone hi hC h1
  have hri : rows[i]? = some (rows[i]'(by omega)) := List.getElem?_eq_getElem (by omega)
  have h2 := congrArg (·[i]?) hx1
  simp only [List.getElem?_map, hri, hxi, Option.map_some, Option.some.injEq, hx2, DataW.agg.injEq] at h2
  have h3 : rows[i]'(by omega) = zs := by
    have := congrArg (List.map fun | (.lit (.int _ z) : DataW Unit) => z | _ => 0) h2
    simpa [Function.comp_def] using this
  rw [World.var?_cell hg hvar, ← Array.getElem?_toList]
  have h4 := congrArg (·[j]?) hc
  simp only [List.getElem?_take, List.getElem?_drop, hj, if_true, List.getElem?_map] at h4
  rw [h4]
  have hzj : zs[j]? = some (zs[j]'(by omega)) := List.getElem?_eq_getElem (by omega)
  have h5 : rows.getD i [] = zs := by
    rw [List.getD_eq_getElem?_getD, hri]
    simpa using h3
  rw [h5]
  simp [hzj]
/-- The row's last step, where of the world behind the call no more is known than that all that was there before it is as it was. -/
theorem post_below {f : Func} {s : ChangeSpec} {apart fresh handsOn again : Bool} {W W' : World} {args : Array Value} {v : Value} {ds gs : List (DataW H)} {before pa pv : List MemPlace}
    (hb : Below W.heap.size W W') (hW : DataW.Whole enc P f.params.toList s.vars apart W args.toList ds gs before)
    (hr : ∀ (b : Nat) (sp : Nat → Bool) (hd : Bool), DataW.TrodAll enc P W' b sp hd f.resultTypes.toList (v.resultList f.resultTypes.size) (s.fn H (ds ++ gs)).results [])
    (ha : ∀ sp : Nat → Bool, (∀ p ∈ before, sp p.block = true) → DataW.TrodAll enc P W' 0 sp true f.params.toList args.toList (s.fn H (ds ++ gs)).args pa)
    (hv : ∀ sp : Nat → Bool, (∀ p ∈ before, sp p.block = true) → DataW.TrodVars enc P W' sp s.vars (s.fn H (ds ++ gs)).vars pv)
    (hp : before = pa ++ pv)
    (ho : ∀ (j : Nat) (t : TypeId) (r : Value), f.resultTypes[j]? = some t → (v.resultList f.resultTypes.size)[j]? = some r → Value.okWide P W' .any 0 t r) :
    s.post enc P f apart fresh handsOn again W args v W' := by
  have old : ∀ p ∈ before, p.block < W.heap.size := fun p h => hW.lt p h
  have sp0 : ∀ p ∈ before, (fun b => decide (b < W.heap.size)) p.block = true := fun p h => decide_eq_true (old p h)
  have all : ∀ p ∈ before, (fun _ : Nat => true) p.block = true := fun _ _ => rfl
  obtain ⟨_, _, _, _, _, hz, hn⟩ := id hW
  refine ⟨ds, gs, before, [], pa, pv, hW, hr _ _ _, ha _ sp0, hv _ sp0, ?_, fun _ => ⟨ho, _, _, ([] ++ pa) ++ pv, ⟨[] ++ pa, pv, trodAll_append (ha _ all) (hr _ _ _), hv _ all, rfl, fun b off h => ?_, fun h => ?_⟩, fun p h _ => ?_⟩⟩
  · refine World.keptBut_mono (fun p h => ⟨h, ?_⟩) (hb.frame (· ∈ before))
    rw [hp] at h
    exact Or.inr (List.mem_append.1 h)
  · have h' : MemPlace.cell b off ∈ before := by rw [hp]; simpa using h
    rw [hb.frozen (old _ h'), hz b off h']
  · have := hn h
    rw [hp] at this
    simpa using this
  · rw [hp]
    simpa using h
end
end Go.Proofs.Ytnehhplflgcoiaa.gen
