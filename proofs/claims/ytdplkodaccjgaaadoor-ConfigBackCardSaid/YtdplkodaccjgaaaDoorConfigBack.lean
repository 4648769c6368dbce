/- Proved: any config that may be comes back from its octets; any octets are one's, and are its octets again, or are refused. Condition: the table of the spans starts as the program's text lays it (the card ties it). -/
import Derived.Test.YtdplkodaccjgaaaDoorCfK
import Derived.Test.YtdplkodaccjgaaaDoorGenB
import Derived.Test.YtdplkodaccjgaaaDoorCards
import Derived.Test.YtdplkodaccjgaaaDoorTie
import Derived.Deep.DeepHandedRow
import Derived.ShutString
import Derived.ChangeOld
namespace Go.Proofs.YtdplkodaccjgaaaDoor.configBack
open Go.ChangeShapes Go.WideShapes Go.ChangeAt Go.RowKit cf gen
set_option linter.unusedVariables false

theorem own : ownKnob Tryd.prog.godebug = none := by kernel_rfl
theorem gTab : Tryd.prog.globalNamed "scutage/config.spans" = some 0 := by kernel_rfl
theorem gTabType : (Tryd.prog.globals[0]?).map (·.type) = some 43 := by kernel_rfl
theorem cells42 : Tryd.prog.cellsOf 42 = 2 := by kernel_rfl
theorem cells23 : Tryd.prog.cellsOf 23 = 10 := by kernel_rfl

theorem table {W : World} (hz : 0 < W.heap.size) (h : laidMetH Tryd.prog Rows.configBackRow.laid W) : Table W := by
  obtain ⟨_, hc⟩ := rows_of_laid (k := .i64) (rows := [[2, 64], [1, 8], [1, 64], [1, 16], [0, 1000], [0, 65535], [0, 64], [1, 16], [1, 256], [0, 64]]) (rest := []) gTab gTabType Tryd.underlying43 Tryd.underlying42 (by kernel_rfl) (intFields_at (by kernel_rfl)) cells42 h
  refine ⟨hz, fun i hi => ?_⟩
  have h0 := hc i hi 0 (by decide)
  have h1 := hc i hi 1 (by decide)
  have hk' : i = 0 ∨ i = 1 ∨ i = 2 ∨ i = 3 ∨ i = 4 ∨ i = 5 ∨ i = 6 ∨ i = 7 ∨ i = 8 ∨ i = 9 := by omega
  rcases hk' with rfl | rfl | rfl | rfl | rfl | rfl | rfl | rfl | rfl | rfl <;> exact ⟨h0, h1⟩
theorem table0 {W : World} (h : laidMetH Tryd.prog Rows.configBackRow.laid W) : Table W := by
  obtain ⟨_, hc⟩ := rows_of_laid (k := .i64) (rows := [[2, 64], [1, 8], [1, 64], [1, 16], [0, 1000], [0, 65535], [0, 64], [1, 16], [1, 256], [0, 64]]) (rest := []) gTab gTabType Tryd.underlying43 Tryd.underlying42 (by kernel_rfl) (intFields_at (by kernel_rfl)) cells42 h
  exact table (World.block_lt_of_cell? W _ (hc 0 (by decide) 0 (by decide))) h

theorem ten_list {zs : List Int} (h : zs.length = 10) : ∃ a0 a1 a2 a3 a4 a5 a6 a7 a8 a9 : Int, zs = [a0, a1, a2, a3, a4, a5, a6, a7, a8, a9] := by
  match zs, h with
  | [a0, a1, a2, a3, a4, a5, a6, a7, a8, a9], _ => exact ⟨_, _, _, _, _, _, _, _, _, _, rfl⟩
theorem open_cfg {H : Type} {enc : TypeId × Value → H} {w : World} {base : Nat} {spare : Nat → Bool} {held : Bool} {r : Reach} {b0 : Nat} {v : Value} {d : DataW H} {p : List MemPlace}
    (hv : Value.okWide Tryd.prog w r b0 23 v) (h : DataW.Trod enc Tryd.prog w base spare held 23 v d p) :
    ∃ a0 a1 a2 a3 a4 a5 a6 a7 a8 a9 : Int, v = .agg #[.int .i64 a0, .int .i64 a1, .int .i64 a2, .int .i64 a3, .int .i64 a4, .int .i64 a5, .int .i64 a6, .int .i64 a7, .int .i64 a8, .int .i64 a9] ∧ p = [] ∧ ∀ (w' : World) (b : Nat) (sp : Nat → Bool) (hd : Bool), DataW.Trod enc Tryd.prog w' b sp hd 23 v d [] := by
  obtain ⟨cs, rfl, hsz⟩ := okWide_struct Tryd.underlying23 hv
  obtain ⟨fuel, hf⟩ := h
  obtain ⟨zs, hz, hc, hx, hw⟩ := open_ints (k := .i64) Tryd.underlying23 (by kernel_rfl) (intFields_at (by kernel_rfl)) cells23 hf
  have e : cs = (zs.map (Value.int .i64)).toArray := by
    apply Array.ext'
    simpa [Value.cells] using hc
  simp only [Prod.mk.injEq] at hx
  obtain ⟨rfl, rfl⟩ := hx
  subst e
  have sh : ∀ (w' : World) (b : Nat) (sp : Nat → Bool) (hd : Bool), DataW.Trod enc Tryd.prog w' b sp hd 23 (.agg (zs.map (Value.int .i64)).toArray) (.agg (zs.map fun z => .lit (.int .i64 z))) [] :=
    fun w' b sp hd => shut_ints (k := .i64) zs Tryd.underlying23 (by kernel_rfl) (intFields_at (by kernel_rfl)) cells23 hz hw
  obtain ⟨a0, a1, a2, a3, a4, a5, a6, a7, a8, a9, rfl⟩ := ten_list hz
  exact ⟨_, _, _, _, _, _, _, _, _, _, rfl, rfl, sh⟩

theorem bytes_of {xs : List Int} {b off : Nat} {w : World} (hc : ∀ i, i < 20 → (w.cell? ((⟨b, off, none⟩ : Addr).add i) = some (.int .u8 (xs.getD i 0)) ∧ 0 ≤ xs.getD i 0 ∧ xs.getD i 0 ≤ 255)) : Bytes xs b off w :=
  ⟨by have h := (hc 0 (by omega)).1; rw [Addr.add_lit] at h; exact World.block_lt_of_cell? w ⟨b, off + 0, none⟩ h, fun i hi => by have h := hc i hi; rw [Addr.add_lit] at h; exact h⟩
theorem laidOut : laidOutB Tryd.prog = true := by kernel_rfl
theorem walk (a0 a1 a2 a3 a4 a5 a6 a7 a8 a9 : Int) (ad : Option Addr) (len cap : Nat) (xs : List Int) (w : World) (hT : Table w)
    (hr : (ad = none ∧ len = 0 ∧ cap = 0) ∨ ∃ x, ad = some x ∧ len ≤ cap ∧ xs.length = len ∧ ∀ i, i < len → (w.cell? (x.add i) = some (.int .u8 (xs.getD i 0)) ∧ 0 ≤ xs.getD i 0 ∧ xs.getD i 0 ≤ 255)) :
    Calls Tryd.prog 6 #[.agg #[.int .i64 a0, .int .i64 a1, .int .i64 a2, .int .i64 a3, .int .i64 a4, .int .i64 a5, .int .i64 a6, .int .i64 a7, .int .i64 a8, .int .i64 a9], .slice ad len cap] w fun e w' => e = .returned (.bool true) ∧ Below w.heap.size w w' := by
  by_cases h : wrongN [a0, a1, a2, a3, a4, a5, a6, a7, a8, a9] = 0
  all_goals
    rcases hr with ⟨rfl, rfl, rfl⟩ | ⟨x, rfl, hlc, hl, hc⟩
  · exact back_y_nil a0 a1 a2 a3 a4 a5 a6 a7 a8 a9 w hT h
  · by_cases h20 : len = 20
    · subst h20
      obtain ⟨b, off, spot⟩ := x
      obtain rfl : spot = none := by simpa [Addr.add] using World.cell?_spot (hc 0 (by omega)).1
      have hB : Bytes xs b off w := bytes_of hc
      by_cases h2 : wrongN (nums xs) = 0
      · exact back_y_yes a0 a1 a2 a3 a4 a5 a6 a7 a8 a9 w xs b off cap hlc hl hB h2 hT h
      · exact back_y_no a0 a1 a2 a3 a4 a5 a6 a7 a8 a9 w xs b off cap hlc hB rfl (by simpa using h2) hT h
    · exact back_y_len a0 a1 a2 a3 a4 a5 a6 a7 a8 a9 w x len cap (by simp; omega) (by simp; omega) h20 hT h
  · exact back_n_nil a0 a1 a2 a3 a4 a5 a6 a7 a8 a9 w hT (n := wrongN [a0, a1, a2, a3, a4, a5, a6, a7, a8, a9]) (by simpa using h) rfl
  · by_cases h20 : len = 20
    · subst h20
      obtain ⟨b, off, spot⟩ := x
      obtain rfl : spot = none := by simpa [Addr.add] using World.cell?_spot (hc 0 (by omega)).1
      have hB : Bytes xs b off w := bytes_of hc
      by_cases h2 : wrongN (nums xs) = 0
      · exact back_n_yes a0 a1 a2 a3 a4 a5 a6 a7 a8 a9 w xs b off cap hlc hl hB h2 hT (n := wrongN [a0, a1, a2, a3, a4, a5, a6, a7, a8, a9]) (by simpa using h) rfl
      · exact back_n_no a0 a1 a2 a3 a4 a5 a6 a7 a8 a9 w xs b off cap hlc hB rfl (by simpa using h2) hT (n := wrongN [a0, a1, a2, a3, a4, a5, a6, a7, a8, a9]) (by simpa using h) rfl
    · exact back_n_len a0 a1 a2 a3 a4 a5 a6 a7 a8 a9 w x len cap (by simp; omega) (by simp; omega) h20 hT (n := wrongN [a0, a1, a2, a3, a4, a5, a6, a7, a8, a9]) (by simpa using h) rfl

theorem contract (H : Type) (enc : TypeId × Value → H) (W : World) (base : Nat) (args : Array Value) (ds gs : List (DataW H)) (before : List MemPlace)
    (hval : ∀ (j : Nat) t v, Tryd.f6.params[j]? = some t → args[j]? = some v → Value.okWide Tryd.prog W .any base t v)
    (hW : DataW.Whole enc Tryd.prog Tryd.f6.params.toList Rows.configBackSpec.vars false W args.toList ds gs before) (hL : laidMetH Tryd.prog Rows.configBackRow.laid W) :
    Calls Tryd.prog 6 args W fun e W' => ∃ v, e = .returned v ∧ Rows.configBackSpec.post enc Tryd.prog Tryd.f6 false true false false W args v W' := by
  have hW' := hW
  obtain ⟨p, q, hA0, hV, rfl, hfz, hnd⟩ := hW
  have hA : DataW.TrodAll enc Tryd.prog W 0 (fun _ => true) true Tryd.f6.params.toList args.toList ds p := hA0
  rw [Tryd.params6] at hA hval
  obtain ⟨v0, vs0, d0, ds0, p0, q0, hargs, rfl, rfl, h0, r0⟩ := trodAll_cons hA
  obtain ⟨v1, vs1, d1, ds1, p1, q1, rfl, rfl, rfl, h1, r1⟩ := trodAll_cons r0
  obtain ⟨rfl, rfl, rfl⟩ := trodAll_nil r1
  obtain rfl : args = #[v0, v1] := by cases args; simp_all
  obtain ⟨rfl, rfl⟩ := trodVars_none hV
  obtain ⟨a0, a1, a2, a3, a4, a5, a6, a7, a8, a9, rfl, rfl, sh⟩ := open_cfg (hval 0 23 v0 rfl rfl) h0
  obtain ⟨ad, len, cap, rfl⟩ := okWide_slice Tryd.underlying29 (hval 1 29 v1 rfl rfl)
  have k1 := h1
  have lt1 : ∀ x ∈ p1, x.block < W.heap.size := by obtain ⟨m, hm⟩ := k1; exact DataW.trod_lt m _ _ _ hm
  obtain ⟨xs, hr⟩ : ∃ xs : List Int, (ad = none ∧ len = 0 ∧ cap = 0) ∨ ∃ x, ad = some x ∧ len ≤ cap ∧ xs.length = len ∧ ∀ i, i < len → (W.cell? (x.add i) = some (.int .u8 (xs.getD i 0)) ∧ 0 ≤ xs.getD i 0 ∧ xs.getD i 0 ≤ 255) := by
    obtain ⟨fuel, hf⟩ := h1
    rcases Go.ChangeShapes.open_ints Tryd.underlying29 Tryd.underlying5 (by kernel_rfl) hf with ⟨hcs, _⟩ | ⟨x, l, c, zs, hcs, _, hl, hm, hz, _, hcell, hwz⟩
    · simp [Value.cells] at hcs
      exact ⟨[], .inl hcs⟩
    · simp [Value.cells] at hcs
      obtain ⟨rfl, rfl, rfl⟩ := hcs
      have hz' : zs.length = cap := by simpa using hz
      refine ⟨zs.take len, .inr ⟨_, rfl, hl, by simp; omega, fun i hi => ?_⟩⟩
      have e : (zs.take len).getD i 0 = zs.getD i 0 := by simp [hi]
      rw [e]
      have hzi : zs.getD i 0 = zs[i]'(by omega) := by simp [show i < zs.length by omega]
      have hw := hwz _ (List.getElem_mem (l := zs) (n := i) (by omega))
      rw [← hzi] at hw
      refine ⟨hcell i (by omega), ?_⟩
      simp [Lit.wf, IntKind.min, IntKind.max, IntKind.signed, IntKind.bits] at hw ⊢
      omega
  clear hA0
  simp only [List.append_nil] at hW'
  refine (walk a0 a1 a2 a3 a4 a5 a6 a7 a8 a9 ad len cap xs W (table0 hL) hr).mono fun e W' ⟨he, bel⟩ => ?_
  subst he
  exact ⟨_, rfl, _, _, _, [], _, [], hW', trodAll_mk1 (shut_bool Tryd.underlying4 _), (trodAll_cons_mk (sh _ _ _ _) (trodAll_cons_mk (Below.trod laidOut (by kernel_rfl) (of_decide_eq_true (by kernel_rfl)) k1 bel lt1) trodAll_mk0)), rfl, bel.frame _, fun h => by cases h⟩

/-- A world for the witness: the settled one, the table (block 0) as its initialiser lays it. -/
noncomputable def laidWorld (os : Os) : World :=
  { World.holding Tryd.prog os ⟨#[], #[], []⟩ with heap := (World.holding Tryd.prog os ⟨#[], #[], []⟩).heap.modify 0 fun
      | .cells _ t frozen => .cells #[.int .i64 2, .int .i64 64, .int .i64 1, .int .i64 8, .int .i64 1, .int .i64 64, .int .i64 1, .int .i64 16, .int .i64 0, .int .i64 1000, .int .i64 0, .int .i64 65535, .int .i64 0, .int .i64 64, .int .i64 1, .int .i64 16, .int .i64 1, .int .i64 256, .int .i64 0, .int .i64 64] t frozen
      | o => o }
theorem laid_met (os : Os) : laidMet Tryd.prog Rows.configBackRow.laid ((laidWorld os).forCall (fun _ _ => 0) ⟨#[], #[.agg #[.int .i64 0, .int .i64 0, .int .i64 0, .int .i64 0, .int .i64 0, .int .i64 0, .int .i64 0, .int .i64 0, .int .i64 0, .int .i64 0], .slice none 0 0], []⟩).memory :=
  laidMet_of_run' 8 (by kernel_rfl) (by kernel_rfl)
theorem reads (os : Os) {H : Type} (enc : TypeId × Value → H) : ∃ places, DataW.whole enc Tryd.prog ((laidWorld os).forCall (fun _ _ => 0) ⟨#[], #[.agg #[.int .i64 0, .int .i64 0, .int .i64 0, .int .i64 0, .int .i64 0, .int .i64 0, .int .i64 0, .int .i64 0, .int .i64 0, .int .i64 0], .slice none 0 0], []⟩).memory Tryd.f6.params.toList Rows.configBackSpec.vars false #[Value.agg #[.int .i64 0, .int .i64 0, .int .i64 0, .int .i64 0, .int .i64 0, .int .i64 0, .int .i64 0, .int .i64 0, .int .i64 0, .int .i64 0], .slice none 0 0].toList 8 = some ([.agg [.lit (.int .i64 0), .lit (.int .i64 0), .lit (.int .i64 0), .lit (.int .i64 0), .lit (.int .i64 0), .lit (.int .i64 0), .lit (.int .i64 0), .lit (.int .i64 0), .lit (.int .i64 0), .lit (.int .i64 0)], .nil], [], places) :=
  ⟨[], by kernel_rfl⟩

set_option maxRecDepth 100000 in
theorem lifted (os : Os) (started : os.Started) (H : Type) (enc : TypeId × Value → H) (F : Stop.Interp) :
    ReturnsInHanded {} Tryd.checked os 6 .any ((OpenSpec.ofChange Rows.configBackSpec).preRow enc Tryd.prog Tryd.f6 Rows.configBackRow.domain false Rows.configBackRow.laid) (((OpenSpec.ofChange Rows.configBackSpec).at F).post enc Tryd.prog Tryd.f6 false true false false) := by
  obtain ⟨places, hx⟩ := reads os enc
  refine returnsInHanded_of_row (C := Tryd.checked) (s := OpenSpec.ofChange Rows.configBackSpec) own started (by kernel_rfl) Tryd.func6
    (witness_row_at (enc := enc) (C := Tryd.checked) false (laidWorld os) #[.agg #[.int .i64 0, .int .i64 0, .int .i64 0, .int .i64 0, .int .i64 0, .int .i64 0, .int .i64 0, .int .i64 0, .int .i64 0, .int .i64 0], .slice none 0 0] rfl (by kernel_rfl) (by kernel_rfl) (by kernel_rfl)
      (OpenSpec.preRow_of_cond 8 hx (by kernel_rfl) (fun k hk => by cases hk) (by kernel_rfl) (laid_met os))) ?_
  intro W base args ds gs before hval hW _ _ _ hL _ _
  exact contract H enc W base args ds gs before hval hW hL

theorem said : Rows.ConfigBackSaid :=
  OpenClaim.holds_of_cond 6 Tryd.f6 rfl rfl rfl rfl rfl rfl rfl ⟨rfl, rfl, rfl, rfl, rfl⟩ rfl rfl rfl rfl rfl (by kernel_rfl) Tryd.func6 (by kernel_rfl)
    (of_decide_eq_true (by kernel_rfl)) (by unfold Func.isWrapper; first | (rw [if_pos (by decide +kernel)]; kernel_rfl) | (rw [if_neg (by decide +kernel)]; exact ⟨rfl, rfl⟩))
    (fun os started H enc _ F => by rw [OpenClaim.pre_eq_preRow]; exact lifted os started H enc F)

theorem plain (f : FuncId) (fn : Func) (hf : Tryd.pinned.checked.prog.funcNamed "scutage/scutagelaw02.ConfigBack" = some f) (hfn : Tryd.pinned.checked.prog.funcs[f]? = some fn) :
    false = Tryd.pinned.checked.prog.looks [] ∧ ∀ (j : Nat) t, fn.params[j]? = some t → Tryd.pinned.checked.prog.wantsStandIn t = false := by
  obtain rfl : f = 6 := Option.some.inj ((show Tryd.prog.funcNamed "scutage/scutagelaw02.ConfigBack" = some 6 by kernel_rfl).symm.trans hf) |>.symm
  obtain rfl : fn = Tryd.f6 := (Option.some.inj (Tryd.func6.symm.trans hfn)).symm
  refine ⟨by kernel_rfl, fun j t ht => ?_⟩
  rw [Tryd.params6] at ht
  have hm : t ∈ [23, 29] := by simpa using Array.mem_of_getElem? ht
  have hall : ([23, 29].all fun u => !Tryd.prog.wantsStandIn u) = true := by kernel_rfl
  exact (show Tryd.prog.wantsStandIn t = false by simpa using List.all_eq_true.1 hall t hm)

/-- The card. -/
theorem proved : Rows.ConfigBackCardSaid :=
  Claim7.holds_tied_plain_at .later [] _ _ _ _ said (fun _ h => by cases h) (by kernel_rfl) (fun _ h => by cases h) configBack_row_tie rfl ⟨rfl, rfl⟩ (by kernel_rfl) rfl plain (by kernel_rfl)
end Go.Proofs.YtdplkodaccjgaaaDoor.configBack
