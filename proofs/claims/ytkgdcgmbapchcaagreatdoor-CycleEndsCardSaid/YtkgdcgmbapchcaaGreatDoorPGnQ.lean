/- Texts that this claim stands on. -/
import Derived.WalkKit
import Derived.Below
import Derived.Laws.AppendOwnNone
import Derived.Laws.OwnMore
import Derived.Deep.AppendLies
import Derived.Lib.SmallJoins
import Derived.Lib.LaidTab
import Derived.ChangeSame
import Derived.Deep.Slices
import Derived.Deep.Fields
import Derived.OpenShut
import Derived.Test.YtkgdcgmbapchcaaGreatDoorRows
import Derived.ProofKit
import Derived.Lib.Hide
import Derived.IntWalk
import Derived.Maps.Range
import Derived.Deep.Draws
import Derived.Deep.QuietTactic
import Derived.BigQuiet
import Derived.Laws.AppendOwn
import Derived.Laws.CopyOwn
import Derived.Laws.MakeOwn
namespace Go.Proofs.YtkgdcgmbapchcaaGreatDoor.gen
open Go.RowKit
theorem block_of_add (a : Addr) (n : Nat) : (a.add n).block = a.block := by unfold Addr.add; split <;> rfl
def Rd (w : World) (B : Nat) (A : Option Addr) (n c : Nat) (xs : List Int) : Prop :=
  xs.length = n ∧ (A = none → n = 0 ∧ c = 0) ∧ ∀ ad, A = some ad → ∀ i, i < n → ad.block < B ∧ w.cell? (ad.add i) = some (.int .i64 (xs.getD i 0))
theorem Rd.below {w w' : World} {B n c : Nat} {A : Option Addr} {xs : List Int} (h : Rd w B A n c xs) (hb : Below B w w') : Rd w' B A n c xs :=
  ⟨h.1, h.2.1, fun ad e i hi => ⟨(h.2.2 ad e i hi).1, (hb.cell (p := ad.add i) (by rw [block_of_add]; exact (h.2.2 ad e i hi).1)).trans (h.2.2 ad e i hi).2⟩⟩
theorem Rd.at_ {w : World} {B n c k : Nat} {A : Option Addr} {xs : List Int} (h : Rd w B A n c xs) (hk : k < n) :
    ∃ b off, A = some ⟨b, off, none⟩ ∧ w.cell? ⟨b, off + k, none⟩ = some (.int .i64 (xs.getD k 0)) := by
  cases A with
  | none => have := (h.2.1 rfl).1; omega
  | some ad =>
    obtain ⟨b, off, spot⟩ := ad
    have hc := (h.2.2 _ rfl k hk).2
    have hs := World.cell?_spot (h.2.2 _ rfl 0 (by omega)).2
    have : spot = none := by simpa [Addr.add] using hs
    subst this
    exact ⟨b, off, rfl, by simpa [Addr.add_lit] using hc⟩
theorem Rd.cells {w : World} {B n c : Nat} {A : Option Addr} {xs : List Int} (h : Rd w B A n c xs) :
    ∀ ad, A = some ad → ∀ j u, (xs.map (Value.int .i64))[j]? = some u → w.cell? (ad.add j) = some u := by
  intro ad e j u hu
  simp only [List.getElem?_map, Option.map_eq_some_iff] at hu
  obtain ⟨y, hy, rfl⟩ := hu
  have hj : j < n := by have := (List.getElem?_eq_some_iff.mp hy).1; rw [h.1] at this; exact this
  have := (h.2.2 ad e j hj).2
  rw [List.getD_eq_getElem?_getD, hy] at this
  simpa using this
theorem Rd.of_own {w : World} {base n : Nat} {e : TypeId} {v : Value} {xs : List Int} (h : w.ownsRow base e 1 v n (xs.map (Value.int .i64))) :
    ∃ A c, v = .slice A n c ∧ Rd w w.heap.size A n c xs := by
  have hl : xs.length = n := by have := h.1; simpa using this
  rcases h.2 with ⟨rfl, rfl⟩ | ⟨g, cap, cur, rfl, _, hg, _, _, _, _⟩
  · exact ⟨none, 0, rfl, hl, fun _ => ⟨rfl, rfl⟩, fun ad e => by cases e⟩
  · have hlt : g < w.heap.size := by
      rcases Nat.lt_or_ge g w.heap.size with hlt | hge
      · exact hlt
      · rw [Array.getElem?_eq_none hge] at hg; cases hg
    refine ⟨_, cap, rfl, hl, fun e => (by cases e), fun ad e i hi => ?_⟩
    injection e with e
    subst e
    refine ⟨hlt, ?_⟩
    rw [Addr.add_lit, Nat.zero_add, h.cellAt i (by omega), List.getElem?_map, List.getElem?_eq_getElem (by omega)]
    simp [List.getD_eq_getElem?_getD, show i < xs.length by omega]
theorem wpList_append_rd {P : Program} {w : World} {ops : Array Oper} {rest : List Oper} {o : Oper} {a : Act} {Q : Exit → Act → World → Prop} (hgd : o.guard = none) (s x : Operand) (t : TypeId)
    (ho : o.op = .call { callee := .builtin .append, args := #[s, x], argTypes := #[t, t] })
    (base : Nat) (e : TypeId) (i : TypeInfo) (z : Value) (bytes : Nat) (ht : P.underlying t = some (.slice e)) (hi : P.info? e = some i) (hz : i.zero = some z)
    (hsize : i.size = 1) (hby : i.bytes = bytes) (hzs : z.cells.size = 1)
    (v : Value) (n : Nat) (xs : List Int) (hs : a.eval s = v) (hown : w.ownsRow base e 1 v n (xs.map (Value.int .i64)))
    (A : Option Addr) (m c B : Nat) (ys : List Int) (hx : a.eval x = .slice A m c) (hr : Rd w B A m c ys)
    (h63 : n + m ≤ maxLen) (hbytes : (n + m) * bytes ≤ 140737488355328) (hbase : base ≤ w.heap.size)
    (h : ∀ A' c' w', w'.ownsRow base e 1 (.slice A' (n + m) c') (n + m) ((xs ++ ys).map (Value.int .i64)) → Rd w' w'.heap.size A' (n + m) c' (xs ++ ys) → w.grownBy w' v.ownBlock → wpList P ops Q rest (a.put o.dst (.slice A' (n + m) c')) w') : wpList P ops Q (o :: rest) a w := by
  have h' : ∀ v' w', w'.ownsRow base e 1 v' (n + m) ((xs ++ ys).map (Value.int .i64)) → w.grownBy w' v.ownBlock → wpList P ops Q rest (a.put o.dst v') w' := by
    intro v' w' k1 k2
    obtain ⟨A', c', rfl, hr'⟩ := Rd.of_own k1
    exact h A' c' w' k1 hr' k2
  cases A with
  | none =>
    obtain ⟨rfl, rfl⟩ := hr.2.1 rfl
    have : ys = [] := List.eq_nil_of_length_eq_zero hr.1
    subst this
    refine wpList_append_own_none hgd s x t ho base e i 1 ht hi v n _ hs hown hx ?_
    exact h' v w (by simpa using hown) (World.grownBy.refl _ _)
  | some ad =>
    refine wpList_append_own w hgd s x t ho base e i z 1 bytes ht hi hz hsize hby hzs (by decide) v n _ hs hown ad m c (ys.map (Value.int .i64)) hx (by simp [hr.1]) (hr.cells ad rfl) (fun u hu => by obtain ⟨_, _, rfl⟩ := List.mem_map.1 hu; rfl) h63 hbytes hbase ?_
    intro v' w' k1 k2 _
    exact h' v' w' (by simpa using k1) k2
theorem own_base {w : World} {base n : Nat} {e : TypeId} {size : Nat} {v : Value} {xs : List Value} (h : w.ownsRow base e size v n xs) : ∀ k, v.ownBlock = some k → base ≤ k := by
  intro k hk
  rcases h.2 with ⟨rfl, _⟩ | ⟨g, cap, cur, rfl, hb, _⟩
  · cases hk
  · simp [Value.ownBlock] at hk; omega
end Go.Proofs.YtkgdcgmbapchcaaGreatDoor.gen
namespace Go.Proofs.YtkgdcgmbapchcaaGreatDoor.gen
open Go.Joins Go.ChangeShapes Go.WideShapes Go.RowKit Go.Deep
section
variable {H : Type} {enc : TypeId × Value → H} {P : Program} {w : World} {base : Nat} {spare : Nat → Bool} {held : Bool}
def intFields (P : Program) (fs : Array Field) (k : IntKind) : Bool := (List.range fs.size).all fun i => match fs[i]? with
  | some f => (match P.underlying f.type with | some (.int k') => decide (k' = k) | _ => false)
  | none => false
theorem intFields_at {P : Program} {fs : Array Field} {k : IntKind} (h : intFields P fs k = true) (j : Nat) (f : Field) (hj : fs[j]? = some f) : P.underlying f.type = some (.int k) := by
  have hlt : j < fs.size := (Array.getElem?_eq_some_iff.1 hj).1
  have h1 := List.all_eq_true.1 h j (List.mem_range.2 hlt)
  rw [hj] at h1
  dsimp only at h1
  split at h1
  · rename_i k' e
    rw [e, of_decide_eq_true h1]
  · cases h1
theorem open_ints {k : IntKind} {t : TypeId} {fs : Array Field} {fuel : Nat} {cs : List Value} {x : DataW H × List MemPlace} (hs : P.underlying t = some (.struct fs)) (hone : oneCellFields P fs = true)
    (hi : ∀ (j : Nat) (f : Field), fs[j]? = some f → P.underlying f.type = some (.int k)) (hC : P.cellsOf t = fs.size) (h : DataW.trod enc P w base spare held fuel t cs = some x) :
    ∃ zs : List Int, zs.length = fs.size ∧ cs = zs.map (Value.int k) ∧ x = (.agg (zs.map fun z => .lit (.int k z)), []) ∧ ∀ z ∈ zs, (Lit.int k z).wf = true := by
  obtain ⟨xs, n, rfl, hx, hl, hn, hel⟩ := DataW.trod_struct hs h
  rw [hC] at hl
  have at_ : ∀ i, i < fs.size → ∃ z : Int, cs[i]? = some (.int k z) ∧ xs[i]? = some (.lit (.int k z), []) ∧ (Lit.int k z).wf = true := by
    intro i hi'
    have hf : fs[i]? = some fs[i] := by simp [hi']
    obtain ⟨o, c⟩ := hone_of hone i _ hf
    have h1 := hel i _ hf
    rw [o, c] at h1
    have hxi : xs[i]? = some (xs[i]'(by omega)) := List.getElem?_eq_getElem (by omega)
    rw [hxi] at h1
    obtain ⟨z, e1, e2, e3⟩ := DataW.trod_int (hi i _ hf) h1
    refine ⟨z, ?_, by rw [hxi, e2], e3⟩
    have := congrArg (·[0]?) e1
    simpa [List.getElem?_take, List.getElem?_drop] using this
  refine ⟨cs.map (fun | .int _ z => z | _ => 0), by simp [hl], ?_, ?_, ?_⟩
  · apply List.ext_getElem?
    intro i
    by_cases hi' : i < fs.size
    · obtain ⟨z, e1, _, _⟩ := at_ i hi'
      simp [e1]
    · rw [List.getElem?_eq_none (by omega), List.getElem?_eq_none (by simp; omega)]
  · rw [hx]
    congr 1
    · congr 1
      apply List.ext_getElem?
      intro i
      by_cases hi' : i < fs.size
      · obtain ⟨z, e1, e2, _⟩ := at_ i hi'
        simp [e1, e2]
      · rw [List.getElem?_eq_none (by simp; omega), List.getElem?_eq_none (by simp; omega)]
    · rw [List.flatMap_eq_nil_iff]
      intro y hy
      obtain ⟨i, hi', rfl⟩ := List.getElem_of_mem hy
      obtain ⟨z, _, e2, _⟩ := at_ i (by omega)
      rw [List.getElem?_eq_getElem hi'] at e2
      rw [Option.some.inj e2]
  · intro z hz
    obtain ⟨v, hv, rfl⟩ := List.mem_map.1 hz
    obtain ⟨i, hi', rfl⟩ := List.getElem_of_mem hv
    obtain ⟨z', e1, _, e3⟩ := at_ i (by omega)
    rw [List.getElem?_eq_getElem hi'] at e1
    rw [Option.some.inj e1]
    exact e3
theorem rows_of_laid {W : World} {name : String} {k : IntKind} {rows : List (List Int)} {rest : List (String × DataW Unit)} {g : Nat} {t e : TypeId} {n : Nat} {fs : Array Field}
    (hg : P.globalNamed name = some g) (hty : (P.globals[g]?).map (·.type) = some t) (ht : P.underlying t = some (.array n e)) (hs : P.underlying e = some (.struct fs)) (hone : oneCellFields P fs = true)
    (hi : ∀ (j : Nat) (f : Field), fs[j]? = some f → P.underlying f.type = some (.int k)) (hC : P.cellsOf e = fs.size)
    (h : laidMet P ((name, .agg (rows.map fun r => .agg (r.map fun z => .lit (.int k z)))) :: rest) W) :
    rows.length = n ∧ ∀ i, i < n → ∀ j, j < fs.size → W.cell? ⟨g, i * fs.size + j, none⟩ = some (.int k ((rows.getD i []).getD j 0)) := by
  obtain ⟨ps, ⟨g', t', cs, fuel, p, q, hg', ht', hvar, hd, _, _⟩, _⟩ := h
  obtain rfl := Option.some.inj (hg.symm.trans hg')
  obtain rfl := Option.some.inj (hty.symm.trans ht')
  obtain ⟨xs, m, rfl, hx, hl, hn, hel⟩ := DataW.trod_array ht hd
  have hx1 : rows.map (fun r => (DataW.agg (r.map fun z => .lit (.int k z)) : DataW Unit)) = xs.map (·.1) := by
    have := congrArg Prod.fst hx
    simpa using this
  have hr : rows.length = n := by
    have := congrArg List.length hx1
    simpa [hn] using this
  refine ⟨hr, fun i hi' j hj => ?_⟩
  have h1 := hel i hi'
  have hxi : xs[i]? = some (xs[i]'(by omega)) := List.getElem?_eq_getElem (by omega)
  rw [hxi, hC] at h1
  obtain ⟨zs, hz, hc, hx2, _⟩ := open_ints hs hone hi hC h1
  have hri : rows[i]? = some (rows[i]'(by omega)) := List.getElem?_eq_getElem (by omega)
  have h2 := congrArg (·[i]?) hx1
  simp only [List.getElem?_map, hri, hxi, Option.map_some, Option.some.injEq, hx2, DataW.agg.injEq] at h2
  have h3 : rows[i]'(by omega) = zs := by
    have := congrArg (List.map fun | (.lit (.int _ z) : DataW Unit) => z | _ => 0) h2
    simpa [Function.comp_def] using this
  rw [World.var?_cell hg hvar, ← Array.getElem?_toList]
  have h4 := congrArg (·[j]?) hc
  simp only [List.getElem?_take, List.getElem?_drop, hj, if_true, List.getElem?_map] at h4
  rw [h4]
  have hzj : zs[j]? = some (zs[j]'(by omega)) := List.getElem?_eq_getElem (by omega)
  have h5 : rows.getD i [] = zs := by
    rw [List.getD_eq_getElem?_getD, hri]
    simpa using h3
  rw [h5]
  simp [hzj]
end
end Go.Proofs.YtkgdcgmbapchcaaGreatDoor.gen
namespace Go.Proofs.YtkgdcgmbapchcaaGreatDoor.gen
open Go.Joins Go.ChangeShapes Go.WideShapes Go.RowKit Go.Deep
def Rws (w : World) (B : Nat) (A : Option Addr) (n nf : Nat) (f : Nat → Nat → Int) : Prop :=
  ∀ i, i < n → ∃ b off, A = some ⟨b, off, none⟩ ∧ b < B ∧ (∀ j, j < nf → w.cell? ⟨b, off + i * nf + j, none⟩ = some (.int .i64 (f i j))) ∧ ∀ j, j < nf → -9223372036854775808 ≤ f i j ∧ f i j ≤ 9223372036854775807
theorem Rws.less {w : World} {B n m nf : Nat} {A : Option Addr} {f : Nat → Nat → Int} (h : Rws w B A n nf f) (hm : m ≤ n) : Rws w B A m nf f := fun i hi => h i (by omega)
theorem Rws.kept {w w' : World} {B n nf : Nat} {A : Option Addr} {f : Nat → Nat → Int} {row : Option Nat} (h : Rws w B A n nf f) (hg : w.grownBy w' row) (hr : ∀ r, row = some r → B ≤ r) : Rws w' B A n nf f := fun i hi => by
  obtain ⟨b, off, e, hb, hc, hw⟩ := h i hi
  refine ⟨b, off, e, hb, fun j hj => hg.cell (hc j hj) (fun e => ?_), hw⟩
  have := hr b e.symm
  omega
theorem Rws.some {w : World} {B n nf : Nat} {A : Option Addr} {f : Nat → Nat → Int} (h : Rws w B A n nf f) (hn : 0 < n) : ∃ ad, A = some ad := by
  obtain ⟨b, off, e, _⟩ := h 0 hn
  exact ⟨_, e⟩
section
variable {H : Type} {enc : TypeId × Value → H} {P : Program} {w : World} {fuel : Nat}
end
end Go.Proofs.YtkgdcgmbapchcaaGreatDoor.gen
namespace Go.Proofs.YtkgdcgmbapchcaaGreatDoor.gen
open Go.Joins Go.ChangeShapes Go.WideShapes Go.RowKit Go.Deep
section
variable {H : Type} {enc : TypeId × Value → H} {P : Program} {w : World} {fuel : Nat}
theorem open_rows_of {t e : TypeId} {nf : Nat} {A : Option Addr} {len cap : Nat} {x : DataW H × List MemPlace} (ht : P.underlying t = some (.slice e)) (hC : P.cellsOf e = nf) (hpos : 0 < nf)
    (hop : ∀ {fuel : Nat} {cs : List Value} {x : DataW H × List MemPlace} {sp : Nat → Bool} {hd : Bool}, DataW.trod enc P w 0 sp hd fuel e cs = some x → ∃ zs : List Int, zs.length = nf ∧ cs = zs.map (Value.int .i64) ∧ ∀ z ∈ zs, (Lit.int .i64 z).wf = true)
    (h : DataW.trod enc P w 0 (fun _ => true) true fuel t [.slice A len cap] = some x) :
    ∃ f, Rws w w.heap.size A len nf f ∧ len ≤ cap ∧ cap ≤ maxLen := by
  rcases open_slice ht h with ⟨e1, _⟩ | ⟨a, l, c, m, n, D, Pl, e1, _, hl, hm, hmm, _, hx⟩
  · simp at e1
    obtain ⟨rfl, rfl, rfl⟩ := e1
    exact ⟨fun _ _ => 0, fun i hi => absurd hi (by omega), by omega, by unfold maxLen; omega⟩
  · simp at e1
    obtain ⟨rfl, rfl, rfl⟩ := e1
    simp only [if_true] at hmm
    subst hmm
    have each : ∀ i, i < len → ∃ zs : List Int, zs.length = nf ∧ (∀ j, j < nf → w.cell? (a.add (i * nf + j)) = some (.int .i64 (zs.getD j 0))) ∧ ∀ z ∈ zs, (Lit.int .i64 z).wf = true := by
      intro i hi'
      obtain ⟨cs', h1, h2⟩ := hx i (by omega)
      rw [hC] at h1
      obtain ⟨_, hlen, hcell⟩ := World.cells?_some h1
      obtain ⟨zs, hz, rfl, hw⟩ := hop h2
      refine ⟨zs, hz, fun j hj => ?_, hw⟩
      have := hcell j hj
      rw [add_add] at this
      rw [this, List.getElem?_map, List.getElem?_eq_getElem (by omega)]
      simp [show j < zs.length by omega]
    obtain ⟨f, hf⟩ := choose_lt (α := List Int) (p := fun i zs => zs.length = nf ∧ (∀ j, j < nf → w.cell? (a.add (i * nf + j)) = some (.int .i64 (zs.getD j 0))) ∧ ∀ z ∈ zs, (Lit.int .i64 z).wf = true) each
    refine ⟨fun i j => (f i).getD j 0, fun i hi' => ?_, hl, hm⟩
    obtain ⟨h1, h2, h3⟩ := hf i hi'
    obtain ⟨b, off, spot⟩ := a
    have : spot = none := by
      have h0 := (hf 0 (by omega)).2.1 0 hpos
      simpa [Addr.add] using World.cell?_spot h0
    subst this
    refine ⟨b, off, rfl, ?_, fun j hj => ?_, fun j hj => ?_⟩
    · have := World.block_lt_of_cell? _ _ (h2 0 hpos)
      rwa [block_of_add] at this
    · have := h2 j hj
      rw [Addr.add_lit, ← Nat.add_assoc] at this
      exact this
    · have hj' : j < (f i).length := by omega
      have hw := h3 _ (List.getElem_mem (l := f i) hj')
      have e : (f i).getD j 0 = (f i)[j] := by simp [hj']
      show -9223372036854775808 ≤ (f i).getD j 0 ∧ (f i).getD j 0 ≤ 9223372036854775807
      rw [e]
      exact bounds_i64 hw
def flat (P : Program) : Nat → TypeId → Bool
  | 0, _ => false
  | n + 1, t => match P.underlying t with
    | some (.int k) => decide (k = .i64) && P.cellsOf t == 1
    | some (.struct fs) => ((List.range fs.size).all fun i => match fs[i]? with | some f => flat P n f.type | none => false) &&
        (List.range (P.cellsOf t)).all fun j => (List.range fs.size).any fun i => match fs[i]? with | some f => decide (f.offset ≤ j ∧ j < f.offset + P.cellsOf f.type) | none => false
    | _ => false
theorem open_flat {base : Nat} {spare : Nat → Bool} {held : Bool} : ∀ (n : Nat) {t : TypeId} {fuel : Nat} {cs : List Value} {x : DataW H × List MemPlace}, flat P n t = true → DataW.trod enc P w base spare held fuel t cs = some x →
    ∃ zs : List Int, zs.length = P.cellsOf t ∧ cs = zs.map (Value.int .i64) ∧ ∀ z ∈ zs, (Lit.int .i64 z).wf = true
  | 0, _, _, _, _, h, _ => by simp [flat] at h
  | n + 1, t, fuel, cs, x, h, hd => by
    unfold flat at h
    split at h
    · rename_i k hk
      rw [Bool.and_eq_true] at h
      have e := of_decide_eq_true h.1
      subst e
      obtain ⟨z, rfl, _, hw⟩ := DataW.trod_int hk hd
      exact ⟨[z], by have := h.2; simp at this; simp [this], rfl, by simpa using hw⟩
    · rename_i fs hs
      rw [Bool.and_eq_true] at h
      obtain ⟨h1, h2⟩ := h
      obtain ⟨xs, m, rfl, _, hl, hn, hel⟩ := DataW.trod_struct hs hd
      have at_ : ∀ j, j < cs.length → ∃ z : Int, cs[j]? = some (.int .i64 z) ∧ (Lit.int .i64 z).wf = true := by
        intro j hj
        have h3 := List.all_eq_true.1 h2 j (List.mem_range.2 (by omega))
        obtain ⟨i, hi, h4⟩ := List.any_eq_true.1 h3
        have hi' := List.mem_range.1 hi
        have h5 := List.all_eq_true.1 h1 i hi
        have hf : fs[i]? = some fs[i] := by simp [hi']
        rw [hf] at h4 h5
        dsimp only at h4 h5
        obtain ⟨o1, o2⟩ := of_decide_eq_true h4
        have hx := hel i _ hf
        have hxi : xs[i]? = some (xs[i]'(by omega)) := List.getElem?_eq_getElem (by omega)
        rw [hxi] at hx
        obtain ⟨zs, hz, hc, hw⟩ := open_flat n h5 hx
        have hk : j - (fs[i]).offset < zs.length := by omega
        refine ⟨zs[j - (fs[i]).offset], ?_, hw _ (List.getElem_mem _)⟩
        have h6 := congrArg (·[j - (fs[i]).offset]?) hc
        simp only [List.getElem?_take, List.getElem?_drop, List.getElem?_map] at h6
        rw [if_pos (by omega), show (fs[i]).offset + (j - (fs[i]).offset) = j by omega, List.getElem?_eq_getElem hk] at h6
        exact h6
      refine ⟨cs.map (fun | .int _ z => z | _ => 0), by simp [hl], ?_, ?_⟩
      · apply List.ext_getElem?
        intro j
        by_cases hj : j < cs.length
        · obtain ⟨z, e, _⟩ := at_ j hj
          simp [e]
        · rw [List.getElem?_eq_none (by omega), List.getElem?_eq_none (by simp; omega)]
      · intro z hz
        obtain ⟨v, hv, rfl⟩ := List.mem_map.1 hz
        obtain ⟨j, hj, rfl⟩ := List.getElem_of_mem hv
        obtain ⟨z', e1, e3⟩ := at_ j hj
        rw [List.getElem?_eq_getElem hj] at e1
        rw [Option.some.inj e1]
        exact e3
    · cases h
theorem open_flats {t e : TypeId} {nf : Nat} {A : Option Addr} {len cap : Nat} {x : DataW H × List MemPlace} (n : Nat) (ht : P.underlying t = some (.slice e)) (hf : flat P n e = true) (hC : P.cellsOf e = nf) (hpos : 0 < nf)
    (h : DataW.trod enc P w 0 (fun _ => true) true fuel t [.slice A len cap] = some x) :
    ∃ f, Rws w w.heap.size A len nf f ∧ len ≤ cap ∧ cap ≤ maxLen :=
  open_rows_of ht hC hpos (fun h => by obtain ⟨zs, h1, h2, h3⟩ := open_flat n hf h; exact ⟨zs, h1.trans hC, h2, h3⟩) h
end
end Go.Proofs.YtkgdcgmbapchcaaGreatDoor.gen
namespace Go.Proofs.YtkgdcgmbapchcaaGreatDoor.li
open Go.ChangeShapes Go.WideShapes Go.ChangeAt Go.RowKit gen
set_option linter.unusedVariables false
def Drew (w w' : World) : Prop := ∃ n, w' = w.drewN n
theorem grown_refl (w : World) (row : Option Nat) : w.grownBy w row := ⟨rfl, rfl, rfl, Nat.le_refl _, fun _ _ _ => rfl⟩
theorem grown_drewN (w : World) (n : Nat) (row : Option Nat) : w.grownBy (w.drewN n) row := ⟨rfl, rfl, rfl, Nat.le_refl _, fun _ _ _ => rfl⟩
def ints (xs : List Int) : List Value := xs.map (Value.int .i64)
theorem rd_own {w : World} {base n c : Nat} {A : Option Addr} {xs : List Int} (h : w.ownsRow base 3 1 (.slice A n c) n (ints xs)) : Rd w w.heap.size A n c xs := by
  obtain ⟨A', c', e, hr⟩ := Rd.of_own h
  injection e with h1 h2 h3
  subst h1 h3
  exact hr
theorem grown_below {a w : World} (h : a.grownBy w none) : Below a.heap.size a w := ⟨h.os, h.tape, h.output, h.size, fun k hk => h.block k hk (by simp)⟩
theorem grown_new {a b c : World} {r : Nat} (h : a.grownBy b none) (k : b.grownBy c (some r)) (hr : a.heap.size ≤ r) : a.grownBy c none :=
  h.andThen k (fun j hj => .inl (by cases hj; exact hr))
theorem grown_then {a b c : World} {row : Option Nat} (h : a.grownBy b none) (k : b.grownBy c row) : a.grownBy c row :=
  ⟨k.os.trans h.os, k.tape.trans h.tape, k.output.trans h.output, Nat.le_trans h.size k.size, fun i hi hne => (k.block i (Nat.lt_of_lt_of_le hi h.size) hne).trans (h.block i hi (by simp))⟩
theorem grown_more {a b c : World} {row : Option Nat} (h : a.grownBy b row) (k : b.grownBy c none) : a.grownBy c row :=
  ⟨k.os.trans h.os, k.tape.trans h.tape, k.output.trans h.output, Nat.le_trans h.size k.size, fun i hi hne => (k.block i (Nat.lt_of_lt_of_le hi h.size) (by simp)).trans (h.block i hi hne)⟩
theorem grown_own {a b c : World} {base n : Nat} {v : Value} {xs : List Value} {t : TypeId} (h : a.grownBy b none) (ho : b.ownsRow base t 1 v n xs) (k : b.grownBy c v.ownBlock) (hr : a.heap.size ≤ base) : a.grownBy c none :=
  h.andThen k (fun j hj => .inl (Nat.le_trans hr (own_base ho j hj)))
def ListAns (xs : List Int) (w : World) (e : Ending) (w' : World) : Prop := ∃ A c, e = .returned (.slice A xs.length c) ∧ w'.ownsRow w.heap.size 3 1 (.slice A xs.length c) xs.length (ints xs) ∧ w.grownBy w' none
theorem info_int : (Tryz.prog.info? 3).map (fun i => (i.zero, i.size, i.bytes)) = some (some (.int .i64 0), 1, 8) := by kernel_rfl
theorem Rd.one (w : World) (x : Int) (t : TypeId) : Rd (w.alloc (.cells #[.int .i64 x] t)) (w.alloc (.cells #[.int .i64 x] t)).heap.size (some ⟨w.heap.size, 0, none⟩) 1 1 [x] := by
  refine ⟨rfl, fun e => (by cases e), fun ad e i hi => ?_⟩
  injection e with e
  subst e
  obtain rfl : i = 0 := by omega
  exact ⟨by simp, by simp [go_sem]⟩
theorem Rd.one_at (w : World) (x : Int) (t : TypeId) {b : Nat} (h : w.heap.size = b) : Rd (w.alloc (.cells #[.int .i64 x] t)) (w.alloc (.cells #[.int .i64 x] t)).heap.size (some ⟨b, 0, none⟩) 1 1 [x] := by
  subst h
  exact Rd.one w x t
theorem getD_mem {xs : List Int} {k : Nat} (h : k < xs.length) (d : Int) : xs.getD k d ∈ xs := by
  rw [List.getD_eq_getElem?_getD, List.getElem?_eq_getElem h]
  exact List.getElem_mem h
theorem take_more {xs : List Int} {k : Nat} (h : k < xs.length) (d : Int) : xs.take (k + 1) = xs.take k ++ [xs.getD k d] := by
  rw [List.take_succ_eq_append_getElem h, List.getD_eq_getElem?_getD, List.getElem?_eq_getElem h]
  rfl
theorem own_mono {w : World} {base base' n : Nat} {t : TypeId} {v : Value} {xs : List Value} (h : w.ownsRow base t 1 v n xs) (hb : base' ≤ base) : w.ownsRow base' t 1 v n xs := by
  refine ⟨h.1, ?_⟩
  rcases h.2 with h2 | ⟨g, cap, cur, h1, h2, h3⟩
  · exact .inl h2
  · exact .inr ⟨g, cap, cur, h1, Nat.le_trans hb h2, h3⟩
theorem grown_one {w wr w2 : World} {base n : Nat} {v : Value} {xs : List Value} {t : TypeId} {o : Obj} (hg : w.grownBy wr none) (ho : wr.ownsRow base t 1 v n xs) (hb : w.heap.size ≤ base) (h : (wr.alloc o).grownBy w2 v.ownBlock) : w.grownBy w2 none :=
  grown_own (hg.trans (World.grownBy_alloc wr o none)) (ho.alloc _) h hb
end Go.Proofs.YtkgdcgmbapchcaaGreatDoor.li
namespace Go.Proofs.YtkgdcgmbapchcaaGreatDoor.en
open Go.ChangeShapes Go.WideShapes Go.ChangeAt Go.RowKit gen li
set_option linter.unusedVariables false
set_option maxHeartbeats 4000000
set_option maxRecDepth 100000
abbrev Va := Int × Int
def vc (m : List Va) : List Value := m.flatMap fun x => [.int .i64 x.1, .int .i64 x.2]
theorem vc_cons (x : Va) (m : List Va) : vc (x :: m) = .int .i64 x.1 :: .int .i64 x.2 :: vc m := rfl
theorem vc_append (m l : List Va) : vc (m ++ l) = vc m ++ vc l := by simp [vc]
theorem vc_add (m : List Va) (x : Va) : vc (m ++ [x]) = vc m ++ [.int .i64 x.1, .int .i64 x.2] := by simp [vc]
theorem vc_length : ∀ m : List Va, (vc m).length = 2 * m.length
  | [] => rfl
  | x :: m => by rw [vc_cons, List.length_cons, List.length_cons, vc_length m, List.length_cons]; omega
theorem vc_at : ∀ (m : List Va) (i : Nat), i < m.length → (vc m)[2 * i]? = some (.int .i64 (m.getD i (0, 0)).1) ∧ (vc m)[2 * i + 1]? = some (.int .i64 (m.getD i (0, 0)).2)
  | [], i, h => by simp at h
  | x :: m, 0, _ => ⟨rfl, rfl⟩
  | x :: m, i + 1, h => by
    have h1 := vc_at m i (by simpa using h)
    rw [vc_cons, show 2 * (i + 1) = 2 * i + 1 + 1 by omega]
    refine ⟨?_, ?_⟩
    · rw [List.getElem?_cons_succ, List.getElem?_cons_succ]; simpa using h1.1
    · rw [List.getElem?_cons_succ, List.getElem?_cons_succ]; simpa using h1.2
def Rv (w : World) (B : Nat) (A : Option Addr) (n c : Nat) (m : List Va) : Prop :=
  m.length = n ∧ n ≤ c ∧ c ≤ maxLen ∧ ∀ i, i < n → ∃ b off, A = some ⟨b, off, none⟩ ∧ b < B ∧ w.cell? ⟨b, off + i * 2, none⟩ = some (.int .i64 (m.getD i (0, 0)).1) ∧ w.cell? ⟨b, off + i * 2 + 1, none⟩ = some (.int .i64 (m.getD i (0, 0)).2)
theorem Rv.at_ {w : World} {B n c i : Nat} {A : Option Addr} {m : List Va} (h : Rv w B A n c m) (hi : i < n) :
    ∃ b off, A = some ⟨b, off, none⟩ ∧ w.cell? ⟨b, off + i * 2, none⟩ = some (.int .i64 (m.getD i (0, 0)).1) ∧ w.cell? ⟨b, off + i * 2 + 1, none⟩ = some (.int .i64 (m.getD i (0, 0)).2) := by
  obtain ⟨b, off, e, _, h1, h2⟩ := h.2.2.2 i hi
  exact ⟨b, off, e, h1, h2⟩
def Lv (w : World) (base : Nat) (v : Value) (m : List Va) : Prop := w.ownsRow base 157 2 v m.length (vc m)
section
variable {w w' : World} {base : Nat} {v : Value} {m : List Va}
theorem Lv.nil (w : World) (base : Nat) : Lv w base (.slice none 0 0) [] := World.ownsRow_nil _ _ _ _
theorem Lv.kept {row : Option Nat} (h : Lv w base v m) (hg : w.grownBy w' row) (hr : v.ownBlock = none ∨ v.ownBlock ≠ row) : Lv w' base v m := World.ownsRow.kept h hg hr
theorem Lv.new (h : Lv w base v m) (hg : w.grownBy w' none) : Lv w' base v m := h.kept hg (by cases v.ownBlock <;> simp)
theorem Lv.off {k : Nat} {o : Obj} (h : Lv w base v m) (hk : w.heap[k]? = some o) (hn : ∀ cs z, o ≠ .cells cs 157 z) : v.ownBlock ≠ some k := fun e => by
  rcases h.2 with ⟨rfl, _⟩ | ⟨g, cap, cur, rfl, _, hg, _⟩
  · cases e
  · injection e with e
    subst e
    rw [hg] at hk
    injection hk with hk
    exact hn _ _ hk.symm
theorem Lv.lt (h : Lv w base v m) : ∀ k, v.ownBlock = some k → k < w.heap.size := fun k e => by
  rcases h.2 with ⟨rfl, _⟩ | ⟨g, cap, cur, rfl, hb, hg, _⟩
  · cases e
  · injection e with e
    subst e
    exact (Array.getElem?_eq_some_iff.1 hg).1
theorem Lv.shape (h : Lv w base v m) : ∃ A N k, v = .slice A N k ∧ N = m.length ∧ N ≤ k ∧ k ≤ maxLen := by
  rcases h.2 with ⟨rfl, hz⟩ | ⟨g, cap, cur, rfl, _, _, h1, h2, _⟩
  · exact ⟨none, 0, 0, rfl, hz.symm, Nat.le_refl _, by unfold maxLen; omega⟩
  · exact ⟨_, _, _, rfl, rfl, h1, h2⟩
theorem Lv.rv {A : Option Addr} {N k : Nat} (h : Lv w base (.slice A N k) m) (hN : N = m.length) : Rv w w.heap.size A N k m := by
  subst hN
  rcases h.2 with ⟨e, hz⟩ | ⟨g, cap, cur, e, _, hg, h1, h2, h3, h4⟩
  · obtain ⟨rfl, hN, rfl⟩ : A = none ∧ m.length = 0 ∧ k = 0 := by simpa using e
    exact ⟨rfl, by omega, by unfold maxLen; omega, fun i hi => by omega⟩
  · obtain ⟨rfl, rfl⟩ : A = some ⟨g, 0, none⟩ ∧ k = cap := by simpa using e
    refine ⟨rfl, h1, h2, fun i hi => ⟨g, 0, rfl, (Array.getElem?_eq_some_iff.1 hg).1, ?_⟩⟩
    have hc : ∀ j u, (vc m)[j]? = some u → w.cell? ⟨g, 0 + j, none⟩ = some u := fun j u hj => by
      rw [← h4, List.getElem?_take] at hj
      split at hj
      · simp [World.cell?, hg]
        simpa using hj
      · cases hj
    have h5 := vc_at m i hi
    refine ⟨?_, ?_⟩
    · have := hc _ _ h5.1; rwa [show 0 + 2 * i = 0 + i * 2 by omega] at this
    · have := hc _ _ h5.2; rwa [show 0 + (2 * i + 1) = 0 + i * 2 + 1 by omega] at this
end
theorem info_va : (Tryz.prog.info? 157).map (fun i => (i.zero, i.size, i.bytes)) = some (some (.agg #[.int .i64 0, .int .i64 0]), 2, 16) := by kernel_rfl
end Go.Proofs.YtkgdcgmbapchcaaGreatDoor.en
