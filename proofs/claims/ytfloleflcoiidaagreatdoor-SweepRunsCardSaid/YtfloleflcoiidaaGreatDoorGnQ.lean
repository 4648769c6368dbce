/- Joined: Gen, GenB, GenC, LiA. -/
import Derived.WalkKit
import Derived.Below
import Derived.Laws.AppendOwnNone
import Derived.Laws.OwnMore
import Derived.Deep.AppendLies
import Derived.Lib.SmallJoins
import Derived.Lib.LaidTab
import Derived.ChangeSame
import Derived.Deep.Slices
import Derived.Deep.Fields
import Derived.OpenShut
import Derived.Test.YtfloleflcoiidaaGreatDoorRows
import Derived.ProofKit
import Derived.Lib.Hide
import Derived.IntWalk
import Derived.Maps.Range
import Derived.Deep.Draws
import Derived.Deep.QuietTactic
import Derived.BigQuiet
/- Slices of whole numbers that came in, nil too; and an append of one of them onto a row of the call's own. -/
namespace Go.Proofs.YtfloleflcoiidaaGreatDoor.gen
open Go.RowKit

theorem block_of_add (a : Addr) (n : Nat) : (a.add n).block = a.block := by unfold Addr.add; split <;> rfl

/-- The slice '.slice A n c' holds the numbers xs, below block B. -/
def Rd (w : World) (B : Nat) (A : Option Addr) (n c : Nat) (xs : List Int) : Prop :=
  xs.length = n ∧ (A = none → n = 0 ∧ c = 0) ∧ ∀ ad, A = some ad → ∀ i, i < n → ad.block < B ∧ w.cell? (ad.add i) = some (.int .i64 (xs.getD i 0))
theorem Rd.below {w w' : World} {B n c : Nat} {A : Option Addr} {xs : List Int} (h : Rd w B A n c xs) (hb : Below B w w') : Rd w' B A n c xs :=
  ⟨h.1, h.2.1, fun ad e i hi => ⟨(h.2.2 ad e i hi).1, (hb.cell (p := ad.add i) (by rw [block_of_add]; exact (h.2.2 ad e i hi).1)).trans (h.2.2 ad e i hi).2⟩⟩
theorem Rd.at_ {w : World} {B n c k : Nat} {A : Option Addr} {xs : List Int} (h : Rd w B A n c xs) (hk : k < n) :
    ∃ b off, A = some ⟨b, off, none⟩ ∧ w.cell? ⟨b, off + k, none⟩ = some (.int .i64 (xs.getD k 0)) := by
  cases A with
  | none => have := (h.2.1 rfl).1; omega
  | some ad =>
    obtain ⟨b, off, spot⟩ := ad
    have hc := (h.2.2 _ rfl k hk).2
    have hs := World.cell?_spot (h.2.2 _ rfl 0 (by omega)).2
    have : spot = none := by simpa [Addr.add] using hs
    subst this
    exact ⟨b, off, rfl, by simpa [Addr.add_lit] using hc⟩
theorem Rd.cells {w : World} {B n c : Nat} {A : Option Addr} {xs : List Int} (h : Rd w B A n c xs) :
    ∀ ad, A = some ad → ∀ j u, (xs.map (Value.int .i64))[j]? = some u → w.cell? (ad.add j) = some u := by
  intro ad e j u hu
  simp only [List.getElem?_map, Option.map_eq_some_iff] at hu
  obtain ⟨y, hy, rfl⟩ := hu
  have hj : j < n := by have := (List.getElem?_eq_some_iff.mp hy).1; rw [h.1] at this; exact this
  have := (h.2.2 ad e j hj).2
  rw [List.getD_eq_getElem?_getD, hy] at this
  simpa using this
/-- What the call's own row of numbers reads as. -/
theorem Rd.of_own {w : World} {base n : Nat} {e : TypeId} {v : Value} {xs : List Int} (h : w.ownsRow base e 1 v n (xs.map (Value.int .i64))) :
    ∃ A c, v = .slice A n c ∧ Rd w w.heap.size A n c xs := by
  have hl : xs.length = n := by have := h.1; simpa using this
  rcases h.2 with ⟨rfl, rfl⟩ | ⟨g, cap, cur, rfl, _, hg, _, _, _, _⟩
  · exact ⟨none, 0, rfl, hl, fun _ => ⟨rfl, rfl⟩, fun ad e => by cases e⟩
  · have hlt : g < w.heap.size := by
      rcases Nat.lt_or_ge g w.heap.size with hlt | hge
      · exact hlt
      · rw [Array.getElem?_eq_none hge] at hg; cases hg
    refine ⟨_, cap, rfl, hl, fun e => (by cases e), fun ad e i hi => ?_⟩
    injection e with e
    subst e
    refine ⟨hlt, ?_⟩
    rw [Addr.add_lit, Nat.zero_add, h.cellAt i (by omega), List.getElem?_map, List.getElem?_eq_getElem (by omega)]
    simp [List.getD_eq_getElem?_getD, show i < xs.length by omega]

/-- 'append(own, more...)', more whatever came in. -/
theorem wpList_append_rd {P : Program} {w : World} {ops : Array Oper} {rest : List Oper} {o : Oper} {a : Act} {Q : Exit → Act → World → Prop} (hgd : o.guard = none) (s x : Operand) (t : TypeId)
    (ho : o.op = .call { callee := .builtin .append, args := #[s, x], argTypes := #[t, t] })
    (base : Nat) (e : TypeId) (i : TypeInfo) (z : Value) (bytes : Nat) (ht : P.underlying t = some (.slice e)) (hi : P.info? e = some i) (hz : i.zero = some z)
    (hsize : i.size = 1) (hby : i.bytes = bytes) (hzs : z.cells.size = 1)
    (v : Value) (n : Nat) (xs : List Int) (hs : a.eval s = v) (hown : w.ownsRow base e 1 v n (xs.map (Value.int .i64)))
    (A : Option Addr) (m c B : Nat) (ys : List Int) (hx : a.eval x = .slice A m c) (hr : Rd w B A m c ys)
    (h63 : n + m ≤ maxLen) (hbytes : (n + m) * bytes ≤ 140737488355328) (hbase : base ≤ w.heap.size)
    (h : ∀ A' c' w', w'.ownsRow base e 1 (.slice A' (n + m) c') (n + m) ((xs ++ ys).map (Value.int .i64)) → Rd w' w'.heap.size A' (n + m) c' (xs ++ ys) → w.grownBy w' v.ownBlock → wpList P ops Q rest (a.put o.dst (.slice A' (n + m) c')) w') : wpList P ops Q (o :: rest) a w := by
  have h' : ∀ v' w', w'.ownsRow base e 1 v' (n + m) ((xs ++ ys).map (Value.int .i64)) → w.grownBy w' v.ownBlock → wpList P ops Q rest (a.put o.dst v') w' := by
    intro v' w' k1 k2
    obtain ⟨A', c', rfl, hr'⟩ := Rd.of_own k1
    exact h A' c' w' k1 hr' k2
  cases A with
  | none =>
    obtain ⟨rfl, rfl⟩ := hr.2.1 rfl
    have : ys = [] := List.eq_nil_of_length_eq_zero hr.1
    subst this
    refine wpList_append_own_none hgd s x t ho base e i 1 ht hi v n _ hs hown hx ?_
    exact h' v w (by simpa using hown) (World.grownBy.refl _ _)
  | some ad =>
    refine wpList_append_own w hgd s x t ho base e i z 1 bytes ht hi hz hsize hby hzs (by decide) v n _ hs hown ad m c (ys.map (Value.int .i64)) hx (by simp [hr.1]) (hr.cells ad rfl) (fun u hu => by obtain ⟨_, _, rfl⟩ := List.mem_map.1 hu; rfl) h63 hbytes hbase ?_
    intro v' w' k1 k2 _
    exact h' v' w' (by simpa using k1) k2
/-- What a row of the call's own lies in: a block from 'base' on. -/
theorem own_base {w : World} {base n : Nat} {e : TypeId} {size : Nat} {v : Value} {xs : List Value} (h : w.ownsRow base e size v n xs) : ∀ k, v.ownBlock = some k → base ≤ k := by
  intro k hk
  rcases h.2 with ⟨rfl, _⟩ | ⟨g, cap, cur, rfl, hb, _⟩
  · cases hk
  · simp [Value.ownBlock] at hk; omega
end Go.Proofs.YtfloleflcoiidaaGreatDoor.gen

/- A struct, or a row of structs, all of whose fields are integers of one kind: what its reading says of its cells, and that such cells read so. -/
namespace Go.Proofs.YtfloleflcoiidaaGreatDoor.gen
open Go.Joins Go.ChangeShapes Go.WideShapes Go.RowKit Go.Deep
section
variable {H : Type} {enc : TypeId × Value → H} {P : Program} {w : World} {base : Nat} {spare : Nat → Bool} {held : Bool}
/-- All fields are integers of kind k. -/
def intFields (P : Program) (fs : Array Field) (k : IntKind) : Bool := (List.range fs.size).all fun i => match fs[i]? with
  | some f => (match P.underlying f.type with | some (.int k') => decide (k' = k) | _ => false)
  | none => false
theorem intFields_at {P : Program} {fs : Array Field} {k : IntKind} (h : intFields P fs k = true) (j : Nat) (f : Field) (hj : fs[j]? = some f) : P.underlying f.type = some (.int k) := by
  have hlt : j < fs.size := (Array.getElem?_eq_some_iff.1 hj).1
  have h1 := List.all_eq_true.1 h j (List.mem_range.2 hlt)
  rw [hj] at h1
  dsimp only at h1
  split at h1
  · rename_i k' e
    rw [e, of_decide_eq_true h1]
  · cases h1
theorem mapM_of_get {α β : Type} {f : α → Option β} : ∀ {l : List α} {r : List β}, r.length = l.length → (∀ (i : Nat) (a : α), l[i]? = some a → ∃ b, r[i]? = some b ∧ f a = some b) → l.mapM f = some r
  | [], r, hl, _ => by cases r <;> simp_all
  | x :: l, [], hl, _ => by simp at hl
  | x :: l, y :: r, hl, h => by
    obtain ⟨b, hb, hf⟩ := h 0 x rfl
    obtain rfl : y = b := by simpa using hb
    have ih := mapM_of_get (l := l) (r := r) (f := f) (by simpa using hl) (fun i a ha => h (i + 1) a (by simpa using ha))
    rw [List.mapM_cons, hf]
    simp [ih]
theorem open_ints {k : IntKind} {t : TypeId} {fs : Array Field} {fuel : Nat} {cs : List Value} {x : DataW H × List MemPlace} (hs : P.underlying t = some (.struct fs)) (hone : oneCellFields P fs = true)
    (hi : ∀ (j : Nat) (f : Field), fs[j]? = some f → P.underlying f.type = some (.int k)) (hC : P.cellsOf t = fs.size) (h : DataW.trod enc P w base spare held fuel t cs = some x) :
    ∃ zs : List Int, zs.length = fs.size ∧ cs = zs.map (Value.int k) ∧ x = (.agg (zs.map fun z => .lit (.int k z)), []) ∧ ∀ z ∈ zs, (Lit.int k z).wf = true := by
  obtain ⟨xs, n, rfl, hx, hl, hn, hel⟩ := DataW.trod_struct hs h
  rw [hC] at hl
  have at_ : ∀ i, i < fs.size → ∃ z : Int, cs[i]? = some (.int k z) ∧ xs[i]? = some (.lit (.int k z), []) ∧ (Lit.int k z).wf = true := by
    intro i hi'
    have hf : fs[i]? = some fs[i] := by simp [hi']
    obtain ⟨o, c⟩ := hone_of hone i _ hf
    have h1 := hel i _ hf
    rw [o, c] at h1
    have hxi : xs[i]? = some (xs[i]'(by omega)) := List.getElem?_eq_getElem (by omega)
    rw [hxi] at h1
    obtain ⟨z, e1, e2, e3⟩ := DataW.trod_int (hi i _ hf) h1
    refine ⟨z, ?_, by rw [hxi, e2], e3⟩
    have := congrArg (·[0]?) e1
    simpa [List.getElem?_take, List.getElem?_drop] using this
  refine ⟨cs.map (fun | .int _ z => z | _ => 0), by simp [hl], ?_, ?_, ?_⟩
  · apply List.ext_getElem?
    intro i
    by_cases hi' : i < fs.size
    · obtain ⟨z, e1, _, _⟩ := at_ i hi'
      simp [e1]
    · rw [List.getElem?_eq_none (by omega), List.getElem?_eq_none (by simp; omega)]
  · rw [hx]
    congr 1
    · congr 1
      apply List.ext_getElem?
      intro i
      by_cases hi' : i < fs.size
      · obtain ⟨z, e1, e2, _⟩ := at_ i hi'
        simp [e1, e2]
      · rw [List.getElem?_eq_none (by simp; omega), List.getElem?_eq_none (by simp; omega)]
    · rw [List.flatMap_eq_nil_iff]
      intro y hy
      obtain ⟨i, hi', rfl⟩ := List.getElem_of_mem hy
      obtain ⟨z, _, e2, _⟩ := at_ i (by omega)
      rw [List.getElem?_eq_getElem hi'] at e2
      rw [Option.some.inj e2]
  · intro z hz
    obtain ⟨v, hv, rfl⟩ := List.mem_map.1 hz
    obtain ⟨i, hi', rfl⟩ := List.getElem_of_mem hv
    obtain ⟨z', e1, _, e3⟩ := at_ i (by omega)
    rw [List.getElem?_eq_getElem hi'] at e1
    rw [Option.some.inj e1]
    exact e3
theorem shut_ints {k : IntKind} {t : TypeId} {fs : Array Field} (zs : List Int) (hs : P.underlying t = some (.struct fs)) (hone : oneCellFields P fs = true)
    (hi : ∀ (j : Nat) (f : Field), fs[j]? = some f → P.underlying f.type = some (.int k)) (hC : P.cellsOf t = fs.size) (hz : zs.length = fs.size) (hw : ∀ z ∈ zs, (Lit.int k z).wf = true) :
    DataW.Trod enc P w base spare held t (.agg (zs.map (Value.int k)).toArray) (.agg (zs.map fun z => .lit (.int k z))) [] := by
  refine ⟨2, ?_⟩
  have := trod_struct_mk (enc := enc) (w := w) (base := base) (spare := spare) (held := held) (n := 1) (cs := zs.map (Value.int k)) (xs := zs.map fun z => ((.lit (.int k z) : DataW H), ([] : List MemPlace))) hs (by simp [hz, hC]) ?_
  · have e : (zs.map fun z => ((.lit (.int k z) : DataW H), ([] : List MemPlace))).flatMap (fun x => x.2) = [] := by
      rw [List.flatMap_eq_nil_iff]
      intro y hy
      obtain ⟨z, _, rfl⟩ := List.mem_map.1 hy
      rfl
    rw [e] at this
    simpa [Value.cells, Function.comp_def] using this
  · refine mapM_of_get (by simp [hz]) (fun i a ha => ?_)
    have ha' : fs[i]? = some a := by simpa using ha
    obtain ⟨o, c⟩ := hone_of hone i a ha'
    have hlt : i < fs.size := (Array.getElem?_eq_some_iff.1 ha').1
    have hzi : zs[i]? = some (zs[i]'(by omega)) := List.getElem?_eq_getElem (by omega)
    refine ⟨(.lit (.int k (zs[i]'(by omega))), []), by simp [hzi], ?_⟩
    have e : ((zs.map (Value.int k)).drop i).take 1 = [.int k (zs[i]'(by omega))] := by
      rw [List.drop_eq_getElem_cons (by simp; omega)]
      simp
    rw [o, c, e]
    unfold DataW.trod
    rw [hi i a ha']
    have := hw _ (List.getElem_mem (l := zs) (n := i) (by omega))
    simp [this]
/-- A listed table, an array of such structs, that reads as these rows, holds their numbers cell for cell. -/
theorem rows_of_laid {W : World} {name : String} {k : IntKind} {rows : List (List Int)} {rest : List (String × DataW Unit)} {g : Nat} {t e : TypeId} {n : Nat} {fs : Array Field}
    (hg : P.globalNamed name = some g) (hty : (P.globals[g]?).map (·.type) = some t) (ht : P.underlying t = some (.array n e)) (hs : P.underlying e = some (.struct fs)) (hone : oneCellFields P fs = true)
    (hi : ∀ (j : Nat) (f : Field), fs[j]? = some f → P.underlying f.type = some (.int k)) (hC : P.cellsOf e = fs.size)
    (h : laidMet P ((name, .agg (rows.map fun r => .agg (r.map fun z => .lit (.int k z)))) :: rest) W) :
    rows.length = n ∧ ∀ i, i < n → ∀ j, j < fs.size → W.cell? ⟨g, i * fs.size + j, none⟩ = some (.int k ((rows.getD i []).getD j 0)) := by
  obtain ⟨ps, ⟨g', t', cs, fuel, p, q, hg', ht', hvar, hd, _, _⟩, _⟩ := h
  obtain rfl := Option.some.inj (hg.symm.trans hg')
  obtain rfl := Option.some.inj (hty.symm.trans ht')
  obtain ⟨xs, m, rfl, hx, hl, hn, hel⟩ := DataW.trod_array ht hd
  have hx1 : rows.map (fun r => (DataW.agg (r.map fun z => .lit (.int k z)) : DataW Unit)) = xs.map (·.1) := by
    have := congrArg Prod.fst hx
    simpa using this
  have hr : rows.length = n := by
    have := congrArg List.length hx1
    simpa [hn] using this
  refine ⟨hr, fun i hi' j hj => ?_⟩
  have h1 := hel i hi'
  have hxi : xs[i]? = some (xs[i]'(by omega)) := List.getElem?_eq_getElem (by omega)
  rw [hxi, hC] at h1
  obtain ⟨zs, hz, hc, hx2, _⟩ := open_ints hs hone hi hC h1
  have hri : rows[i]? = some (rows[i]'(by omega)) := List.getElem?_eq_getElem (by omega)
  have h2 := congrArg (·[i]?) hx1
  simp only [List.getElem?_map, hri, hxi, Option.map_some, Option.some.injEq, hx2, DataW.agg.injEq] at h2
  have h3 : rows[i]'(by omega) = zs := by
    have := congrArg (List.map fun | (.lit (.int _ z) : DataW Unit) => z | _ => 0) h2
    simpa [Function.comp_def] using this
  rw [World.var?_cell hg hvar, ← Array.getElem?_toList]
  have h4 := congrArg (·[j]?) hc
  simp only [List.getElem?_take, List.getElem?_drop, hj, if_true, List.getElem?_map] at h4
  rw [h4]
  have hzj : zs[j]? = some (zs[j]'(by omega)) := List.getElem?_eq_getElem (by omega)
  have h5 : rows.getD i [] = zs := by
    rw [List.getD_eq_getElem?_getD, hri]
    simpa using h3
  rw [h5]
  simp [hzj]
/-- The row's last step, where of the world behind the call no more is known than that all that was there before it is as it was. -/
theorem post_below {f : Func} {s : ChangeSpec} {apart fresh handsOn again : Bool} {W W' : World} {args : Array Value} {v : Value} {ds gs : List (DataW H)} {before pa pv : List MemPlace}
    (hb : Below W.heap.size W W') (hW : DataW.Whole enc P f.params.toList s.vars apart W args.toList ds gs before)
    (hr : ∀ (b : Nat) (sp : Nat → Bool) (hd : Bool), DataW.TrodAll enc P W' b sp hd f.resultTypes.toList (v.resultList f.resultTypes.size) (s.fn H (ds ++ gs)).results [])
    (ha : ∀ sp : Nat → Bool, (∀ p ∈ before, sp p.block = true) → DataW.TrodAll enc P W' 0 sp true f.params.toList args.toList (s.fn H (ds ++ gs)).args pa)
    (hv : ∀ sp : Nat → Bool, (∀ p ∈ before, sp p.block = true) → DataW.TrodVars enc P W' sp s.vars (s.fn H (ds ++ gs)).vars pv)
    (hp : before = pa ++ pv)
    (ho : ∀ (j : Nat) (t : TypeId) (r : Value), f.resultTypes[j]? = some t → (v.resultList f.resultTypes.size)[j]? = some r → Value.okWide P W' .any 0 t r) :
    s.post enc P f apart fresh handsOn again W args v W' := by
  have old : ∀ p ∈ before, p.block < W.heap.size := fun p h => hW.lt p h
  have sp0 : ∀ p ∈ before, (fun b => decide (b < W.heap.size)) p.block = true := fun p h => decide_eq_true (old p h)
  have all : ∀ p ∈ before, (fun _ : Nat => true) p.block = true := fun _ _ => rfl
  obtain ⟨_, _, _, _, _, hz, hn⟩ := id hW
  refine ⟨ds, gs, before, [], pa, pv, hW, hr _ _ _, ha _ sp0, hv _ sp0, ?_, fun _ => ⟨ho, _, _, ([] ++ pa) ++ pv, ⟨[] ++ pa, pv, trodAll_append (ha _ all) (hr _ _ _), hv _ all, rfl, fun b off h => ?_, fun h => ?_⟩, fun p h _ => ?_⟩⟩
  · refine World.keptBut_mono (fun p h => ⟨h, ?_⟩) (hb.frame (· ∈ before))
    rw [hp] at h
    exact Or.inr (List.mem_append.1 h)
  · have h' : MemPlace.cell b off ∈ before := by rw [hp]; simpa using h
    rw [hb.frozen (old _ h'), hz b off h']
  · have := hn h
    rw [hp] at this
    simpa using this
  · rw [hp]
    simpa using h
end
end Go.Proofs.YtfloleflcoiidaaGreatDoor.gen

/- Arguments that are slices: of structs all of whose fields are integers, and of integers: what their reading says of their cells. -/
namespace Go.Proofs.YtfloleflcoiidaaGreatDoor.gen
open Go.Joins Go.ChangeShapes Go.WideShapes Go.RowKit Go.Deep
/-- A row of structs of nf numbers each, below block B. -/
def Rws (w : World) (B : Nat) (A : Option Addr) (n nf : Nat) (f : Nat → Nat → Int) : Prop :=
  ∀ i, i < n → ∃ b off, A = some ⟨b, off, none⟩ ∧ b < B ∧ (∀ j, j < nf → w.cell? ⟨b, off + i * nf + j, none⟩ = some (.int .i64 (f i j))) ∧ ∀ j, j < nf → -9223372036854775808 ≤ f i j ∧ f i j ≤ 9223372036854775807
theorem Rws.less {w : World} {B n m nf : Nat} {A : Option Addr} {f : Nat → Nat → Int} (h : Rws w B A n nf f) (hm : m ≤ n) : Rws w B A m nf f := fun i hi => h i (by omega)
theorem Rws.kept {w w' : World} {B n nf : Nat} {A : Option Addr} {f : Nat → Nat → Int} {row : Option Nat} (h : Rws w B A n nf f) (hg : w.grownBy w' row) (hr : ∀ r, row = some r → B ≤ r) : Rws w' B A n nf f := fun i hi => by
  obtain ⟨b, off, e, hb, hc, hw⟩ := h i hi
  refine ⟨b, off, e, hb, fun j hj => hg.cell (hc j hj) (fun e => ?_), hw⟩
  have := hr b e.symm
  omega
theorem Rws.some {w : World} {B n nf : Nat} {A : Option Addr} {f : Nat → Nat → Int} (h : Rws w B A n nf f) (hn : 0 < n) : ∃ ad, A = some ad := by
  obtain ⟨b, off, e, _⟩ := h 0 hn
  exact ⟨_, e⟩
section
variable {H : Type} {enc : TypeId × Value → H} {P : Program} {w : World} {fuel : Nat}
theorem open_rows {t e : TypeId} {fs : Array Field} {nf : Nat} {A : Option Addr} {len cap : Nat} {x : DataW H × List MemPlace} (ht : P.underlying t = some (.slice e)) (he : P.underlying e = some (.struct fs)) (hone : oneCellFields P fs = true)
    (hi : intFields P fs .i64 = true) (hC : P.cellsOf e = fs.size) (hnf : fs.size = nf) (hpos : 0 < nf) (h : DataW.trod enc P w 0 (fun _ => true) true fuel t [.slice A len cap] = some x) :
    ∃ f, Rws w w.heap.size A len nf f ∧ len ≤ cap ∧ cap ≤ maxLen := by
  subst hnf
  rcases open_slice ht h with ⟨e1, _⟩ | ⟨a, l, c, m, n, D, Pl, e1, _, hl, hm, hmm, _, hx⟩
  · simp at e1
    obtain ⟨rfl, rfl, rfl⟩ := e1
    exact ⟨fun _ _ => 0, fun i hi => absurd hi (by omega), by omega, by unfold maxLen; omega⟩
  · simp at e1
    obtain ⟨rfl, rfl, rfl⟩ := e1
    simp only [if_true] at hmm
    subst hmm
    have each : ∀ i, i < len → ∃ zs : List Int, zs.length = fs.size ∧ (∀ j, j < fs.size → w.cell? (a.add (i * fs.size + j)) = some (.int .i64 (zs.getD j 0))) ∧ ∀ z ∈ zs, (Lit.int .i64 z).wf = true := by
      intro i hi'
      obtain ⟨cs', h1, h2⟩ := hx i (by omega)
      rw [hC] at h1
      obtain ⟨_, hlen, hcell⟩ := World.cells?_some h1
      obtain ⟨zs, hz, rfl, _, hw⟩ := open_ints (k := .i64) he hone (intFields_at hi) hC h2
      refine ⟨zs, hz, fun j hj => ?_, hw⟩
      have := hcell j hj
      rw [add_add] at this
      rw [this, List.getElem?_map, List.getElem?_eq_getElem (by omega)]
      simp [show j < zs.length by omega]
    obtain ⟨f, hf⟩ := choose_lt (α := List Int) (p := fun i zs => zs.length = fs.size ∧ (∀ j, j < fs.size → w.cell? (a.add (i * fs.size + j)) = some (.int .i64 (zs.getD j 0))) ∧ ∀ z ∈ zs, (Lit.int .i64 z).wf = true) each
    refine ⟨fun i j => (f i).getD j 0, fun i hi' => ?_, hl, hm⟩
    obtain ⟨h1, h2, h3⟩ := hf i hi'
    obtain ⟨b, off, spot⟩ := a
    have : spot = none := by
      have h0 := (hf 0 (by omega)).2.1 0 hpos
      simpa [Addr.add] using World.cell?_spot h0
    subst this
    refine ⟨b, off, rfl, ?_, fun j hj => ?_, fun j hj => ?_⟩
    · have := World.block_lt_of_cell? _ _ (h2 0 hpos)
      rwa [block_of_add] at this
    · have := h2 j hj
      rw [Addr.add_lit, ← Nat.add_assoc] at this
      exact this
    · have hj' : j < (f i).length := by omega
      have hw := h3 _ (List.getElem_mem (l := f i) hj')
      have e : (f i).getD j 0 = (f i)[j] := by simp [hj']
      show -9223372036854775808 ≤ (f i).getD j 0 ∧ (f i).getD j 0 ≤ 9223372036854775807
      rw [e]
      exact bounds_i64 hw
theorem open_list {t e : TypeId} {A : Option Addr} {len cap : Nat} {x : DataW H × List MemPlace} (ht : P.underlying t = some (.slice e)) (he : P.underlying e = some (.int .i64)) (hC : P.cellsOf e = 1)
    (h : DataW.trod enc P w 0 (fun _ => true) true fuel t [.slice A len cap] = some x) :
    ∃ xs, Rd w w.heap.size A len cap xs ∧ (∀ i, -9223372036854775808 ≤ xs.getD i 0 ∧ xs.getD i 0 ≤ 9223372036854775807) ∧ len ≤ cap ∧ cap ≤ maxLen := by
  rcases Go.ChangeShapes.open_ints ht he hC h with ⟨hcs, rfl⟩ | ⟨y, l, c, zs, hcs, _, hl, hm, hz, rfl, hcell, hwz⟩
  · simp at hcs
    obtain ⟨rfl, rfl, rfl⟩ := hcs
    exact ⟨[], ⟨rfl, fun _ => ⟨rfl, rfl⟩, fun _ e => by cases e⟩, fun i => by simp, by omega, by unfold maxLen; omega⟩
  · simp at hcs
    obtain ⟨rfl, rfl, rfl⟩ := hcs
    simp at hz
    refine ⟨zs.take len, ⟨by rw [List.length_take]; omega, fun e => (by cases e), fun ad e i hi => ?_⟩, fun i => ?_, hl, hm⟩
    · injection e with e
      subst e
      have h := hcell i (by omega)
      refine ⟨by have := World.block_lt_of_cell? _ _ h; rwa [block_of_add] at this, ?_⟩
      rw [h]; simp [List.getD_eq_getElem?_getD, hi]
    · rw [List.getD_eq_getElem?_getD]
      cases e : (zs.take len)[i]? with
      | none => simp
      | some n => exact bounds_i64 (hwz n (List.mem_of_mem_take (List.mem_of_getElem? e)))
end
end Go.Proofs.YtfloleflcoiidaaGreatDoor.gen

/- Lists of numbers in memory (of type int): those of the call's own, and what the law's own small functions In and Ints answer. -/
namespace Go.Proofs.YtfloleflcoiidaaGreatDoor.li
open Go.ChangeShapes Go.WideShapes Go.ChangeAt Go.RowKit gen
set_option linter.unusedVariables false

/-- The world w' is w but for what was drawn. -/
def Drew (w w' : World) : Prop := ∃ n, w' = w.drewN n
theorem grown_refl (w : World) (row : Option Nat) : w.grownBy w row := ⟨rfl, rfl, rfl, Nat.le_refl _, fun _ _ _ => rfl⟩
theorem grown_drewN (w : World) (n : Nat) (row : Option Nat) : w.grownBy (w.drewN n) row := ⟨rfl, rfl, rfl, Nat.le_refl _, fun _ _ _ => rfl⟩
def ints (xs : List Int) : List Value := xs.map (Value.int .i64)
theorem ints_length (xs : List Int) : (ints xs).length = xs.length := by simp [ints]
/-- A list of the call's own: nil, or a row that is not r. -/
def Lst (w : World) (r : Nat) (v : Value) (xs : List Int) : Prop := w.ownsRow 0 3 1 v xs.length (ints xs) ∧ v.ownBlock ≠ some r
theorem Lst.kept {w w' : World} {r : Nat} {v : Value} {xs : List Int} {row : Option Nat} (h : Lst w r v xs) (hg : w.grownBy w' row) (hr : v.ownBlock = none ∨ v.ownBlock ≠ row) : Lst w' r v xs :=
  ⟨h.1.kept hg hr, h.2⟩
theorem Lst.grown {w w' : World} {r : Nat} {v : Value} {xs : List Int} (h : Lst w r v xs) (hg : w.grownBy w' (some r)) : Lst w' r v xs := h.kept hg (.inr h.2)
theorem Lst.made {w w' : World} {r : Nat} {v : Value} {xs : List Int} (h : Lst w r v xs) (hg : w.grownBy w' none) : Lst w' r v xs := h.kept hg (by cases v.ownBlock <;> simp)
theorem Lst.rd {w : World} {r : Nat} {v : Value} {xs : List Int} (h : Lst w r v xs) : ∃ A c, v = .slice A xs.length c ∧ Rd w w.heap.size A xs.length c xs := Rd.of_own h.1
theorem Lst.drewN {w : World} {r : Nat} {v : Value} {xs : List Int} (h : Lst w r v xs) (n : Nat) : Lst (w.drewN n) r v xs := h
theorem Lst.rd' {w : World} {r m c : Nat} {A : Option Addr} {xs : List Int} (h : Lst w r (.slice A m c) xs) (hm : xs.length = m) : Rd w w.heap.size A m c xs := by
  subst hm
  obtain ⟨A', c', e, hr⟩ := h.rd
  injection e with h1 h2 h3
  subst h1 h3
  exact hr
theorem Lst.nil (w : World) (r : Nat) : Lst w r (.slice none 0 0) [] := ⟨World.ownsRow_nil _ _ _ _, by simp [Value.ownBlock]⟩
theorem own_lst {w : World} {r base m : Nat} {v : Value} {ys : List Int} (h : w.ownsRow base 3 1 v m (ys.map (Value.int .i64))) (hn : ys.length = m) (hr : r < base) : Lst w r v ys := by
  subst hn
  refine ⟨⟨h.1, ?_⟩, fun e => ?_⟩
  · rcases h.2 with h2 | ⟨g, cap, cur, h1, h2, h3⟩
    · exact .inl h2
    · exact .inr ⟨g, cap, cur, h1, Nat.zero_le _, h3⟩
  · have := own_base h _ e
    omega
theorem rd_own {w : World} {base n c : Nat} {A : Option Addr} {xs : List Int} (h : w.ownsRow base 3 1 (.slice A n c) n (ints xs)) : Rd w w.heap.size A n c xs := by
  obtain ⟨A', c', e, hr⟩ := Rd.of_own h
  injection e with h1 h2 h3
  subst h1 h3
  exact hr
theorem grown_below {a w : World} (h : a.grownBy w none) : Below a.heap.size a w := ⟨h.os, h.tape, h.output, h.size, fun k hk => h.block k hk (by simp)⟩
/-- A row that was made on the way counts as new. -/
theorem grown_new {a b c : World} {r : Nat} (h : a.grownBy b none) (k : b.grownBy c (some r)) (hr : a.heap.size ≤ r) : a.grownBy c none :=
  h.andThen k (fun j hj => .inl (by cases hj; exact hr))
theorem grown_then {a b c : World} {row : Option Nat} (h : a.grownBy b none) (k : b.grownBy c row) : a.grownBy c row :=
  ⟨k.os.trans h.os, k.tape.trans h.tape, k.output.trans h.output, Nat.le_trans h.size k.size, fun i hi hne => (k.block i (Nat.lt_of_lt_of_le hi h.size) hne).trans (h.block i hi (by simp))⟩
theorem grown_more {a b c : World} {row : Option Nat} (h : a.grownBy b row) (k : b.grownBy c none) : a.grownBy c row :=
  ⟨k.os.trans h.os, k.tape.trans h.tape, k.output.trans h.output, Nat.le_trans h.size k.size, fun i hi hne => (k.block i (Nat.lt_of_lt_of_le hi h.size) (by simp)).trans (h.block i hi hne)⟩
/-- What is appended to the call's own row leaves all else. -/
theorem grown_own {a b c : World} {base n : Nat} {v : Value} {xs : List Value} {t : TypeId} (h : a.grownBy b none) (ho : b.ownsRow base t 1 v n xs) (k : b.grownBy c v.ownBlock) (hr : a.heap.size ≤ base) : a.grownBy c none :=
  h.andThen k (fun j hj => .inl (Nat.le_trans hr (own_base ho j hj)))
/-- A list that was made. -/
def ListAns (xs : List Int) (w : World) (e : Ending) (w' : World) : Prop := ∃ A c, e = .returned (.slice A xs.length c) ∧ w'.ownsRow w.heap.size 3 1 (.slice A xs.length c) xs.length (ints xs) ∧ w.grownBy w' none
theorem info_int : (Tryz.prog.info? 3).map (fun i => (i.zero, i.size, i.bytes)) = some (some (.int .i64 0), 1, 8) := by kernel_rfl
theorem Rd.one (w : World) (x : Int) (t : TypeId) : Rd (w.alloc (.cells #[.int .i64 x] t)) (w.alloc (.cells #[.int .i64 x] t)).heap.size (some ⟨w.heap.size, 0, none⟩) 1 1 [x] := by
  refine ⟨rfl, fun e => (by cases e), fun ad e i hi => ?_⟩
  injection e with e
  subst e
  obtain rfl : i = 0 := by omega
  exact ⟨by simp, by simp [go_sem]⟩
theorem Rd.one_at (w : World) (x : Int) (t : TypeId) {b : Nat} (h : w.heap.size = b) : Rd (w.alloc (.cells #[.int .i64 x] t)) (w.alloc (.cells #[.int .i64 x] t)).heap.size (some ⟨b, 0, none⟩) 1 1 [x] := by
  subst h
  exact Rd.one w x t
theorem getD_mem {xs : List Int} {k : Nat} (h : k < xs.length) (d : Int) : xs.getD k d ∈ xs := by
  rw [List.getD_eq_getElem?_getD, List.getElem?_eq_getElem h]
  exact List.getElem_mem h
theorem take_more {xs : List Int} {k : Nat} (h : k < xs.length) (d : Int) : xs.take (k + 1) = xs.take k ++ [xs.getD k d] := by
  rw [List.take_succ_eq_append_getElem h, List.getD_eq_getElem?_getD, List.getElem?_eq_getElem h]
  rfl
theorem Ints_true (xs : List Int) (A B : Option Addr) (n m c d b b2 : Nat) (w : World) (hs : n ≤ 4194304) (hnm : n = m) (r1 : Rd w b A n c xs) (r2 : Rd w b2 B m d xs) :
    Calls Tryz.prog 15 #[.slice A n c, .slice B m d] w fun e w' => e = .returned (.bool true) ∧ Drew w w' := by
  subst hnm
  have R1 := Lib.hid r1
  have R2 := Lib.hid r2
  clear r1 r2
  go_enter Tryz.func15, Tryz.ntmps15
  go_wp2
  go_loopw [5] (fun i wr => ∃ k j : Nat, k ≤ n ∧ i = .int .i64 k ∧ wr = w.drewN j) (fun i _ => n - (intOf i).toNat)
  case atStart => exact ⟨0, 0, Nat.zero_le _, rfl, rfl⟩
  case round =>
    obtain ⟨k, j, hk, rfl, rfl⟩ := hrel
    by_cases hlt : k < n
    · obtain ⟨b1, o1, rfl, g1⟩ := R1.out.at_ hlt
      obtain ⟨b2, o2, rfl, g2⟩ := R2.out.at_ hlt
      generalize xs.getD k 0 = x at g1 g2
      have l1 : (0 : Int) ≤ (k : Int) := by omega
      have l2 : (k : Int) < n := by omega
      go_wp2
      go_quiet (fail)
      go_wp2
      go_roundw
      case rel => exact ⟨k + 1, _, by omega, by go_num, rfl⟩
      case measure => simp [intOf]; omega
    · go_wp2
      go_ret
      exact ⟨rfl, _, rfl⟩
theorem own_or {w : World} {base n c : Nat} {A : Option Addr} {t : TypeId} {xs : List Value} (h : w.ownsRow base t 1 (.slice A n c) n xs) : (A = none ∧ n = 0 ∧ c = 0) ∨ ∃ g, A = some ⟨g, 0, none⟩ ∧ n ≤ c ∧ c ≤ maxLen := by
  rcases h.2 with ⟨e, _⟩ | ⟨g, cap, cur, e, _, _, h1, h2, _⟩
  · injection e with e1 e2 e3
    exact .inl ⟨e1, e2, e3⟩
  · injection e with e1 e2 e3
    exact .inr ⟨g, e1, by omega, by omega⟩
theorem own_mono {w : World} {base base' n : Nat} {t : TypeId} {v : Value} {xs : List Value} (h : w.ownsRow base t 1 v n xs) (hb : base' ≤ base) : w.ownsRow base' t 1 v n xs := by
  refine ⟨h.1, ?_⟩
  rcases h.2 with h2 | ⟨g, cap, cur, h1, h2, h3⟩
  · exact .inl h2
  · exact .inr ⟨g, cap, cur, h1, Nat.le_trans hb h2, h3⟩
theorem Rd.take {w : World} {B n c a c' : Nat} {A : Option Addr} {xs : List Int} (h : Rd w B A n c xs) (ha : a ≤ n) (hc : A = none → c' = 0) : Rd w B A a c' (xs.take a) := by
  refine ⟨by rw [List.length_take, h.1]; omega, fun e => ⟨by have := (h.2.1 e).1; omega, hc e⟩, fun ad e i hi => ?_⟩
  have := h.2.2 ad e i (by omega)
  refine ⟨this.1, ?_⟩
  rw [this.2]
  simp [List.getD_eq_getElem?_getD, hi]
theorem Rd.drop {w : World} {B n c a m c' g : Nat} {A : Option Addr} {xs : List Int} (h : Rd w B (some ⟨g, 0, none⟩) n c xs) (ha : a + m = n) (hA : 0 < m → A = some ⟨g, a, none⟩) (hn : A = none → c' = 0) : Rd w B A m c' (xs.drop a) := by
  refine ⟨by rw [List.length_drop, h.1]; omega, fun e => ⟨?_, hn e⟩, fun ad e i hi => ?_⟩
  · rcases Nat.eq_zero_or_pos m with h0 | h0
    · exact h0
    · rw [hA h0] at e; cases e
  · have h0 := hA (by omega)
    rw [h0] at e
    injection e with e
    subst e
    have := h.2.2 _ rfl (a + i) (by omega)
    rw [Addr.add_lit, Nat.zero_add] at this
    rw [Addr.add_lit]
    refine ⟨this.1, ?_⟩
    rw [this.2]
    simp [List.getD_eq_getElem?_getD]
theorem Rd.none_of {w : World} {B n c a m c' : Nat} {A A' : Option Addr} {xs : List Int} (h : Rd w B A' n c xs) (ha : a + m = a) (hn : A = none → c' = 0) (hx : a = n := by rfl) : Rd w B A m c' (xs.drop a) := by
  obtain rfl : m = 0 := by omega
  subst hx
  refine ⟨by rw [List.length_drop, h.1]; omega, fun e => ⟨rfl, hn e⟩, fun ad e i hi => by omega⟩
theorem grown_one {w wr w2 : World} {base n : Nat} {v : Value} {xs : List Value} {t : TypeId} {o : Obj} (hg : w.grownBy wr none) (ho : wr.ownsRow base t 1 v n xs) (hb : w.heap.size ≤ base) (h : (wr.alloc o).grownBy w2 v.ownBlock) : w.grownBy w2 none :=
  grown_own (hg.trans (World.grownBy_alloc wr o none)) (ho.alloc _) h hb
end Go.Proofs.YtfloleflcoiidaaGreatDoor.li
