/- Texts that this claim stands on. -/
import Derived.WalkKit
import Derived.Below
import Derived.Laws.AppendOwnNone
import Derived.Laws.OwnMore
import Derived.Deep.AppendLies
import Derived.Lib.SmallJoins
import Derived.Lib.LaidTab
import Derived.ChangeSame
import Derived.Deep.Slices
import Derived.Deep.Fields
import Derived.OpenShut
import Derived.Test.YtkgdcgmbapchcaaGreatDoorRows
import Derived.ProofKit
import Derived.Lib.Hide
import Derived.IntWalk
import Derived.Maps.Range
import Derived.Deep.Draws
import Derived.Deep.QuietTactic
import Derived.BigQuiet
import Derived.Test.YtkgdcgmbapchcaaGreatDoorQBmX
import Derived.Test.YtkgdcgmbapchcaaGreatDoorQCfX
namespace Go.Proofs.YtkgdcgmbapchcaaGreatDoor.gen
open Go.RowKit
theorem block_of_add (a : Addr) (n : Nat) : (a.add n).block = a.block := by unfold Addr.add; split <;> rfl
def Rd (w : World) (B : Nat) (A : Option Addr) (n c : Nat) (xs : List Int) : Prop :=
  xs.length = n ∧ (A = none → n = 0 ∧ c = 0) ∧ ∀ ad, A = some ad → ∀ i, i < n → ad.block < B ∧ w.cell? (ad.add i) = some (.int .i64 (xs.getD i 0))
theorem Rd.below {w w' : World} {B n c : Nat} {A : Option Addr} {xs : List Int} (h : Rd w B A n c xs) (hb : Below B w w') : Rd w' B A n c xs :=
  ⟨h.1, h.2.1, fun ad e i hi => ⟨(h.2.2 ad e i hi).1, (hb.cell (p := ad.add i) (by rw [block_of_add]; exact (h.2.2 ad e i hi).1)).trans (h.2.2 ad e i hi).2⟩⟩
theorem Rd.at_ {w : World} {B n c k : Nat} {A : Option Addr} {xs : List Int} (h : Rd w B A n c xs) (hk : k < n) :
    ∃ b off, A = some ⟨b, off, none⟩ ∧ w.cell? ⟨b, off + k, none⟩ = some (.int .i64 (xs.getD k 0)) := by
  cases A with
  | none => have := (h.2.1 rfl).1; omega
  | some ad =>
    obtain ⟨b, off, spot⟩ := ad
    have hc := (h.2.2 _ rfl k hk).2
    have hs := World.cell?_spot (h.2.2 _ rfl 0 (by omega)).2
    have : spot = none := by simpa [Addr.add] using hs
    subst this
    exact ⟨b, off, rfl, by simpa [Addr.add_lit] using hc⟩
theorem Rd.cells {w : World} {B n c : Nat} {A : Option Addr} {xs : List Int} (h : Rd w B A n c xs) :
    ∀ ad, A = some ad → ∀ j u, (xs.map (Value.int .i64))[j]? = some u → w.cell? (ad.add j) = some u := by
  intro ad e j u hu
  simp only [List.getElem?_map, Option.map_eq_some_iff] at hu
  obtain ⟨y, hy, rfl⟩ := hu
  have hj : j < n := by have := (List.getElem?_eq_some_iff.mp hy).1; rw [h.1] at this; exact this
  have := (h.2.2 ad e j hj).2
  rw [List.getD_eq_getElem?_getD, hy] at this
  simpa using this
theorem Rd.of_own {w : World} {base n : Nat} {e : TypeId} {v : Value} {xs : List Int} (h : w.ownsRow base e 1 v n (xs.map (Value.int .i64))) :
    ∃ A c, v = .slice A n c ∧ Rd w w.heap.size A n c xs := by
  have hl : xs.length = n := by have := h.1; simpa using this
  rcases h.2 with ⟨rfl, rfl⟩ | ⟨g, cap, cur, rfl, _, hg, _, _, _, _⟩
  · exact ⟨none, 0, rfl, hl, fun _ => ⟨rfl, rfl⟩, fun ad e => by cases e⟩
  · have hlt : g < w.heap.size := by
      rcases Nat.lt_or_ge g w.heap.size with hlt | hge
      · exact hlt
      · rw [Array.getElem?_eq_none hge] at hg; cases hg
    refine ⟨_, cap, rfl, hl, fun e => (by cases e), fun ad e i hi => ?_⟩
    injection e with e
    subst e
    refine ⟨hlt, ?_⟩
    rw [Addr.add_lit, Nat.zero_add, h.cellAt i (by omega), List.getElem?_map, List.getElem?_eq_getElem (by omega)]
    simp [List.getD_eq_getElem?_getD, show i < xs.length by omega]
theorem wpList_append_rd {P : Program} {w : World} {ops : Array Oper} {rest : List Oper} {o : Oper} {a : Act} {Q : Exit → Act → World → Prop} (hgd : o.guard = none) (s x : Operand) (t : TypeId)
    (ho : o.op = .call { callee := .builtin .append, args := #[s, x], argTypes := #[t, t] })
    (base : Nat) (e : TypeId) (i : TypeInfo) (z : Value) (bytes : Nat) (ht : P.underlying t = some (.slice e)) (hi : P.info? e = some i) (hz : i.zero = some z)
    (hsize : i.size = 1) (hby : i.bytes = bytes) (hzs : z.cells.size = 1)
    (v : Value) (n : Nat) (xs : List Int) (hs : a.eval s = v) (hown : w.ownsRow base e 1 v n (xs.map (Value.int .i64)))
    (A : Option Addr) (m c B : Nat) (ys : List Int) (hx : a.eval x = .slice A m c) (hr : Rd w B A m c ys)
    (h63 : n + m ≤ maxLen) (hbytes : (n + m) * bytes ≤ 140737488355328) (hbase : base ≤ w.heap.size)
    (h : ∀ A' c' w', w'.ownsRow base e 1 (.slice A' (n + m) c') (n + m) ((xs ++ ys).map (Value.int .i64)) → Rd w' w'.heap.size A' (n + m) c' (xs ++ ys) → w.grownBy w' v.ownBlock → wpList P ops Q rest (a.put o.dst (.slice A' (n + m) c')) w') : wpList P ops Q (o :: rest) a w := by
  have h' : ∀ v' w', w'.ownsRow base e 1 v' (n + m) ((xs ++ ys).map (Value.int .i64)) → w.grownBy w' v.ownBlock → wpList P ops Q rest (a.put o.dst v') w' := by
    intro v' w' k1 k2
    obtain ⟨A', c', rfl, hr'⟩ := Rd.of_own k1
    exact h A' c' w' k1 hr' k2
  cases A with
  | none =>
    obtain ⟨rfl, rfl⟩ := hr.2.1 rfl
    have : ys = [] := List.eq_nil_of_length_eq_zero hr.1
    subst this
    refine wpList_append_own_none hgd s x t ho base e i 1 ht hi v n _ hs hown hx ?_
    exact h' v w (by simpa using hown) (World.grownBy.refl _ _)
  | some ad =>
    refine wpList_append_own w hgd s x t ho base e i z 1 bytes ht hi hz hsize hby hzs (by decide) v n _ hs hown ad m c (ys.map (Value.int .i64)) hx (by simp [hr.1]) (hr.cells ad rfl) (fun u hu => by obtain ⟨_, _, rfl⟩ := List.mem_map.1 hu; rfl) h63 hbytes hbase ?_
    intro v' w' k1 k2 _
    exact h' v' w' (by simpa using k1) k2
theorem own_base {w : World} {base n : Nat} {e : TypeId} {size : Nat} {v : Value} {xs : List Value} (h : w.ownsRow base e size v n xs) : ∀ k, v.ownBlock = some k → base ≤ k := by
  intro k hk
  rcases h.2 with ⟨rfl, _⟩ | ⟨g, cap, cur, rfl, hb, _⟩
  · cases hk
  · simp [Value.ownBlock] at hk; omega
end Go.Proofs.YtkgdcgmbapchcaaGreatDoor.gen
namespace Go.Proofs.YtkgdcgmbapchcaaGreatDoor.gen
open Go.Joins Go.ChangeShapes Go.WideShapes Go.RowKit Go.Deep
section
variable {H : Type} {enc : TypeId × Value → H} {P : Program} {w : World} {base : Nat} {spare : Nat → Bool} {held : Bool}
def intFields (P : Program) (fs : Array Field) (k : IntKind) : Bool := (List.range fs.size).all fun i => match fs[i]? with
  | some f => (match P.underlying f.type with | some (.int k') => decide (k' = k) | _ => false)
  | none => false
theorem intFields_at {P : Program} {fs : Array Field} {k : IntKind} (h : intFields P fs k = true) (j : Nat) (f : Field) (hj : fs[j]? = some f) : P.underlying f.type = some (.int k) := by
  have hlt : j < fs.size := (Array.getElem?_eq_some_iff.1 hj).1
  have h1 := List.all_eq_true.1 h j (List.mem_range.2 hlt)
  rw [hj] at h1
  dsimp only at h1
  split at h1
  · rename_i k' e
    rw [e, of_decide_eq_true h1]
  · cases h1
theorem open_ints {k : IntKind} {t : TypeId} {fs : Array Field} {fuel : Nat} {cs : List Value} {x : DataW H × List MemPlace} (hs : P.underlying t = some (.struct fs)) (hone : oneCellFields P fs = true)
    (hi : ∀ (j : Nat) (f : Field), fs[j]? = some f → P.underlying f.type = some (.int k)) (hC : P.cellsOf t = fs.size) (h : DataW.trod enc P w base spare held fuel t cs = some x) :
    ∃ zs : List Int, zs.length = fs.size ∧ cs = zs.map (Value.int k) ∧ x = (.agg (zs.map fun z => .lit (.int k z)), []) ∧ ∀ z ∈ zs, (Lit.int k z).wf = true := by
  obtain ⟨xs, n, rfl, hx, hl, hn, hel⟩ := DataW.trod_struct hs h
  rw [hC] at hl
  have at_ : ∀ i, i < fs.size → ∃ z : Int, cs[i]? = some (.int k z) ∧ xs[i]? = some (.lit (.int k z), []) ∧ (Lit.int k z).wf = true := by
    intro i hi'
    have hf : fs[i]? = some fs[i] := by simp [hi']
    obtain ⟨o, c⟩ := hone_of hone i _ hf
    have h1 := hel i _ hf
    rw [o, c] at h1
    have hxi : xs[i]? = some (xs[i]'(by omega)) := List.getElem?_eq_getElem (by omega)
    rw [hxi] at h1
    obtain ⟨z, e1, e2, e3⟩ := DataW.trod_int (hi i _ hf) h1
    refine ⟨z, ?_, by rw [hxi, e2], e3⟩
    have := congrArg (·[0]?) e1
    simpa [List.getElem?_take, List.getElem?_drop] using this
  refine ⟨cs.map (fun | .int _ z => z | _ => 0), by simp [hl], ?_, ?_, ?_⟩
  · apply List.ext_getElem?
    intro i
    by_cases hi' : i < fs.size
    · obtain ⟨z, e1, _, _⟩ := at_ i hi'
      simp [e1]
    · rw [List.getElem?_eq_none (by omega), List.getElem?_eq_none (by simp; omega)]
  · rw [hx]
    congr 1
    · congr 1
      apply List.ext_getElem?
      intro i
      by_cases hi' : i < fs.size
      · obtain ⟨z, e1, e2, _⟩ := at_ i hi'
        simp [e1, e2]
      · rw [List.getElem?_eq_none (by simp; omega), List.getElem?_eq_none (by simp; omega)]
    · rw [List.flatMap_eq_nil_iff]
      intro y hy
      obtain ⟨i, hi', rfl⟩ := List.getElem_of_mem hy
      obtain ⟨z, _, e2, _⟩ := at_ i (by omega)
      rw [List.getElem?_eq_getElem hi'] at e2
      rw [Option.some.inj e2]
  · intro z hz
    obtain ⟨v, hv, rfl⟩ := List.mem_map.1 hz
    obtain ⟨i, hi', rfl⟩ := List.getElem_of_mem hv
    obtain ⟨z', e1, _, e3⟩ := at_ i (by omega)
    rw [List.getElem?_eq_getElem hi'] at e1
    rw [Option.some.inj e1]
    exact e3
theorem rows_of_laid {W : World} {name : String} {k : IntKind} {rows : List (List Int)} {rest : List (String × DataW Unit)} {g : Nat} {t e : TypeId} {n : Nat} {fs : Array Field}
    (hg : P.globalNamed name = some g) (hty : (P.globals[g]?).map (·.type) = some t) (ht : P.underlying t = some (.array n e)) (hs : P.underlying e = some (.struct fs)) (hone : oneCellFields P fs = true)
    (hi : ∀ (j : Nat) (f : Field), fs[j]? = some f → P.underlying f.type = some (.int k)) (hC : P.cellsOf e = fs.size)
    (h : laidMet P ((name, .agg (rows.map fun r => .agg (r.map fun z => .lit (.int k z)))) :: rest) W) :
    rows.length = n ∧ ∀ i, i < n → ∀ j, j < fs.size → W.cell? ⟨g, i * fs.size + j, none⟩ = some (.int k ((rows.getD i []).getD j 0)) := by
  obtain ⟨ps, ⟨g', t', cs, fuel, p, q, hg', ht', hvar, hd, _, _⟩, _⟩ := h
  obtain rfl := Option.some.inj (hg.symm.trans hg')
  obtain rfl := Option.some.inj (hty.symm.trans ht')
  obtain ⟨xs, m, rfl, hx, hl, hn, hel⟩ := DataW.trod_array ht hd
  have hx1 : rows.map (fun r => (DataW.agg (r.map fun z => .lit (.int k z)) : DataW Unit)) = xs.map (·.1) := by
    have := congrArg Prod.fst hx
    simpa using this
  have hr : rows.length = n := by
    have := congrArg List.length hx1
    simpa [hn] using this
  refine ⟨hr, fun i hi' j hj => ?_⟩
  have h1 := hel i hi'
  have hxi : xs[i]? = some (xs[i]'(by omega)) := List.getElem?_eq_getElem (by omega)
  rw [hxi, hC] at h1
  obtain ⟨zs, hz, hc, hx2, _⟩ := open_ints hs hone hi hC h1
  have hri : rows[i]? = some (rows[i]'(by omega)) := List.getElem?_eq_getElem (by omega)
  have h2 := congrArg (·[i]?) hx1
  simp only [List.getElem?_map, hri, hxi, Option.map_some, Option.some.injEq, hx2, DataW.agg.injEq] at h2
  have h3 : rows[i]'(by omega) = zs := by
    have := congrArg (List.map fun | (.lit (.int _ z) : DataW Unit) => z | _ => 0) h2
    simpa [Function.comp_def] using this
  rw [World.var?_cell hg hvar, ← Array.getElem?_toList]
  have h4 := congrArg (·[j]?) hc
  simp only [List.getElem?_take, List.getElem?_drop, hj, if_true, List.getElem?_map] at h4
  rw [h4]
  have hzj : zs[j]? = some (zs[j]'(by omega)) := List.getElem?_eq_getElem (by omega)
  have h5 : rows.getD i [] = zs := by
    rw [List.getD_eq_getElem?_getD, hri]
    simpa using h3
  rw [h5]
  simp [hzj]
end
end Go.Proofs.YtkgdcgmbapchcaaGreatDoor.gen
namespace Go.Proofs.YtkgdcgmbapchcaaGreatDoor.gen
open Go.Joins Go.ChangeShapes Go.WideShapes Go.RowKit Go.Deep
section
variable {H : Type} {enc : TypeId × Value → H} {P : Program} {w : World} {fuel : Nat}
end
end Go.Proofs.YtkgdcgmbapchcaaGreatDoor.gen
namespace Go.Proofs.YtkgdcgmbapchcaaGreatDoor.gen
open Go.Joins Go.ChangeShapes Go.WideShapes Go.RowKit Go.Deep
section
variable {H : Type} {enc : TypeId × Value → H} {P : Program} {w : World} {fuel : Nat}
end
end Go.Proofs.YtkgdcgmbapchcaaGreatDoor.gen
namespace Go.Proofs.YtkgdcgmbapchcaaGreatDoor.li
open Go.ChangeShapes Go.WideShapes Go.ChangeAt Go.RowKit gen
set_option linter.unusedVariables false
def Drew (w w' : World) : Prop := ∃ n, w' = w.drewN n
theorem grown_refl (w : World) (row : Option Nat) : w.grownBy w row := ⟨rfl, rfl, rfl, Nat.le_refl _, fun _ _ _ => rfl⟩
theorem grown_drewN (w : World) (n : Nat) (row : Option Nat) : w.grownBy (w.drewN n) row := ⟨rfl, rfl, rfl, Nat.le_refl _, fun _ _ _ => rfl⟩
def ints (xs : List Int) : List Value := xs.map (Value.int .i64)
theorem rd_own {w : World} {base n c : Nat} {A : Option Addr} {xs : List Int} (h : w.ownsRow base 3 1 (.slice A n c) n (ints xs)) : Rd w w.heap.size A n c xs := by
  obtain ⟨A', c', e, hr⟩ := Rd.of_own h
  injection e with h1 h2 h3
  subst h1 h3
  exact hr
theorem grown_below {a w : World} (h : a.grownBy w none) : Below a.heap.size a w := ⟨h.os, h.tape, h.output, h.size, fun k hk => h.block k hk (by simp)⟩
theorem grown_new {a b c : World} {r : Nat} (h : a.grownBy b none) (k : b.grownBy c (some r)) (hr : a.heap.size ≤ r) : a.grownBy c none :=
  h.andThen k (fun j hj => .inl (by cases hj; exact hr))
theorem grown_then {a b c : World} {row : Option Nat} (h : a.grownBy b none) (k : b.grownBy c row) : a.grownBy c row :=
  ⟨k.os.trans h.os, k.tape.trans h.tape, k.output.trans h.output, Nat.le_trans h.size k.size, fun i hi hne => (k.block i (Nat.lt_of_lt_of_le hi h.size) hne).trans (h.block i hi (by simp))⟩
theorem grown_more {a b c : World} {row : Option Nat} (h : a.grownBy b row) (k : b.grownBy c none) : a.grownBy c row :=
  ⟨k.os.trans h.os, k.tape.trans h.tape, k.output.trans h.output, Nat.le_trans h.size k.size, fun i hi hne => (k.block i (Nat.lt_of_lt_of_le hi h.size) (by simp)).trans (h.block i hi hne)⟩
theorem grown_own {a b c : World} {base n : Nat} {v : Value} {xs : List Value} {t : TypeId} (h : a.grownBy b none) (ho : b.ownsRow base t 1 v n xs) (k : b.grownBy c v.ownBlock) (hr : a.heap.size ≤ base) : a.grownBy c none :=
  h.andThen k (fun j hj => .inl (Nat.le_trans hr (own_base ho j hj)))
def ListAns (xs : List Int) (w : World) (e : Ending) (w' : World) : Prop := ∃ A c, e = .returned (.slice A xs.length c) ∧ w'.ownsRow w.heap.size 3 1 (.slice A xs.length c) xs.length (ints xs) ∧ w.grownBy w' none
theorem info_int : (Tryz.prog.info? 3).map (fun i => (i.zero, i.size, i.bytes)) = some (some (.int .i64 0), 1, 8) := by kernel_rfl
theorem Rd.one (w : World) (x : Int) (t : TypeId) : Rd (w.alloc (.cells #[.int .i64 x] t)) (w.alloc (.cells #[.int .i64 x] t)).heap.size (some ⟨w.heap.size, 0, none⟩) 1 1 [x] := by
  refine ⟨rfl, fun e => (by cases e), fun ad e i hi => ?_⟩
  injection e with e
  subst e
  obtain rfl : i = 0 := by omega
  exact ⟨by simp, by simp [go_sem]⟩
theorem Rd.one_at (w : World) (x : Int) (t : TypeId) {b : Nat} (h : w.heap.size = b) : Rd (w.alloc (.cells #[.int .i64 x] t)) (w.alloc (.cells #[.int .i64 x] t)).heap.size (some ⟨b, 0, none⟩) 1 1 [x] := by
  subst h
  exact Rd.one w x t
theorem getD_mem {xs : List Int} {k : Nat} (h : k < xs.length) (d : Int) : xs.getD k d ∈ xs := by
  rw [List.getD_eq_getElem?_getD, List.getElem?_eq_getElem h]
  exact List.getElem_mem h
theorem take_more {xs : List Int} {k : Nat} (h : k < xs.length) (d : Int) : xs.take (k + 1) = xs.take k ++ [xs.getD k d] := by
  rw [List.take_succ_eq_append_getElem h, List.getD_eq_getElem?_getD, List.getElem?_eq_getElem h]
  rfl
theorem own_mono {w : World} {base base' n : Nat} {t : TypeId} {v : Value} {xs : List Value} (h : w.ownsRow base t 1 v n xs) (hb : base' ≤ base) : w.ownsRow base' t 1 v n xs := by
  refine ⟨h.1, ?_⟩
  rcases h.2 with h2 | ⟨g, cap, cur, h1, h2, h3⟩
  · exact .inl h2
  · exact .inr ⟨g, cap, cur, h1, Nat.le_trans hb h2, h3⟩
theorem grown_one {w wr w2 : World} {base n : Nat} {v : Value} {xs : List Value} {t : TypeId} {o : Obj} (hg : w.grownBy wr none) (ho : wr.ownsRow base t 1 v n xs) (hb : w.heap.size ≤ base) (h : (wr.alloc o).grownBy w2 v.ownBlock) : w.grownBy w2 none :=
  grown_own (hg.trans (World.grownBy_alloc wr o none)) (ho.alloc _) h hb
end Go.Proofs.YtkgdcgmbapchcaaGreatDoor.li
namespace Go.Proofs.YtkgdcgmbapchcaaGreatDoor.lat
open Go.ChangeShapes Go.WideShapes Go.ChangeAt Go.RowKit gen
set_option maxRecDepth 100000
theorem laid_tail {P : Program} {x : String × DataW Unit} {rest : List (String × DataW Unit)} {W : World} (h : laidMet P (x :: rest) W) : laidMet P rest W := by
  obtain ⟨ps, ⟨g, t, cs, fuel, p, q, _, _, _, _, h5, rfl⟩, nd, hm⟩ := h
  exact ⟨q, h5, (List.nodup_append.1 nd).2.1, fun b off hb => hm b off (List.mem_append_right _ hb)⟩
theorem gTab : Tryz.prog.globalNamed "math/bits.deBruijn64tab" = some 1 := by kernel_rfl
theorem gTabType : (Tryz.prog.globals[1]?).map (·.type) = some 274 := by kernel_rfl
theorem gCf : Tryz.prog.globalNamed "scutage/config.spans" = some 0 := by kernel_rfl
theorem gCfType : (Tryz.prog.globals[0]?).map (·.type) = some 136 := by kernel_rfl
theorem cells_span : Tryz.prog.cellsOf 135 = 2 := by kernel_rfl
theorem tab_cell (j : Nat) (hj : j < 64) : (Lib.deBruijn64tab.map fun n : Nat => (n : Int)).getD j 0 = (Lib.deBruijn64tab.getD j 0 : Nat) := by
  have h : j < Lib.deBruijn64tab.length := hj
  simp [List.getD_eq_getElem?_getD, h]
theorem both {W : World} (h : laidMet Tryz.prog [("math/bits.deBruijn64tab", Rows.laid_math_bits_deBruijn64tab), ("scutage/config.spans", Rows.laid_scutage_config_spans)] W) : bm.Tab W ∧ cf.Table W := by
  have t := Lib.tabIs_of_head (k := .u8) (zs := Lib.deBruijn64tab.map fun n : Nat => (n : Int)) (rest := [("scutage/config.spans", Rows.laid_scutage_config_spans)]) gTab gTabType Tryz.underlying274 Tryz.underlying5 (by kernel_rfl) (by kernel_rfl) h
  have c : ∀ j, j < 64 → W.cell? ⟨1, j, none⟩ = some (.int .u8 (Lib.deBruijn64tab.getD j 0 : Nat)) := fun j hj => by
    rw [← tab_cell j hj]
    exact t.cell gTab j (by rw [List.length_map]; exact hj)
  refine ⟨⟨World.block_lt_of_cell? W _ (c 0 (by decide)), c⟩, ?_⟩
  obtain ⟨_, hc⟩ := rows_of_laid (k := .i64) (rows := [[2, 64], [1, 8], [1, 64], [1, 16], [0, 1000], [0, 65535], [0, 64], [1, 16], [1, 256], [0, 64]]) (rest := []) gCf gCfType Tryz.underlying136 Tryz.underlying135 (by kernel_rfl) (intFields_at (by kernel_rfl)) cells_span (laid_tail h)
  refine ⟨World.block_lt_of_cell? W _ (hc 0 (by decide) 0 (by decide)), fun i hi => ?_⟩
  have h0 := hc i hi 0 (by decide)
  have h1 := hc i hi 1 (by decide)
  have hk' : i = 0 ∨ i = 1 ∨ i = 2 ∨ i = 3 ∨ i = 4 ∨ i = 5 ∨ i = 6 ∨ i = 7 ∨ i = 8 ∨ i = 9 := by omega
  rcases hk' with rfl | rfl | rfl | rfl | rfl | rfl | rfl | rfl | rfl | rfl <;> exact ⟨h0, h1⟩
end Go.Proofs.YtkgdcgmbapchcaaGreatDoor.lat
namespace Go.Proofs.YtkgdcgmbapchcaaGreatDoor.lat
open Go.ChangeShapes Go.WideShapes Go.ChangeAt Go.RowKit gen
set_option maxRecDepth 100000
theorem cells_val : Tryz.prog.cellsOf 36 = 2 := by kernel_rfl
theorem two_list {zs : List Int} (h : zs.length = 2) : ∃ y0 y1 : Int, zs = [y0, y1] := by
  match zs, h with
  | [y0, y1], _ => exact ⟨_, _, rfl⟩
theorem open_val {H : Type} {enc : TypeId × Value → H} {w : World} {base : Nat} {spare : Nat → Bool} {held : Bool} {r : Reach} {b0 : Nat} {v : Value} {d : DataW H} {p : List MemPlace}
    (hv : Value.okWide Tryz.prog w r b0 36 v) (h : DataW.Trod enc Tryz.prog w base spare held 36 v d p) :
    ∃ y0 y1 : Int, v = .agg #[.int .i64 y0, .int .i64 y1] := by
  obtain ⟨cs, rfl, hsz⟩ := okWide_struct Tryz.underlying36 hv
  obtain ⟨fuel, hf⟩ := h
  obtain ⟨zs, hz, hc, hx, hw⟩ := open_ints (k := .i64) Tryz.underlying36 (by kernel_rfl) (intFields_at (by kernel_rfl)) cells_val hf
  have e : cs = (zs.map (Value.int .i64)).toArray := by
    apply Array.ext'
    simpa [Value.cells] using hc
  subst e
  obtain ⟨y0, y1, rfl⟩ := two_list hz
  exact ⟨_, _, rfl⟩
end Go.Proofs.YtkgdcgmbapchcaaGreatDoor.lat
