/- Joined: StM, StN, StO. -/
import Derived.Test.YtfhmhlofjoahlaaGreatStT
import Derived.Test.YtfhmhlofjoahlaaGreatGenC
/- Arguments: slices of a store's calls, each a struct with a struct in it; the law's first ones of a list. -/
namespace Go.Proofs.YtfhmhlofjoahlaaGreat.st
open Go.Joins Go.ChangeShapes Go.WideShapes Go.ChangeAt Go.RowKit Go.Deep gen
set_option linter.unusedVariables false
set_option maxHeartbeats 4000000
set_option maxRecDepth 100000
section
variable {H : Type} {enc : TypeId × Value → H} {P : Program} {w : World} {fuel : Nat} {base : Nat} {spare : Nat → Bool} {held : Bool}
/-- A slice whose elements' cells are numbers. -/
theorem open_rows' {t e : TypeId} {nf : Nat} {A : Option Addr} {len cap : Nat} {x : DataW H × List MemPlace} (ht : P.underlying t = some (.slice e)) (hC : P.cellsOf e = nf) (hpos : 0 < nf)
    (hop : ∀ {fuel : Nat} {cs : List Value} {x : DataW H × List MemPlace} {sp : Nat → Bool} {hd : Bool}, DataW.trod enc P w 0 sp hd fuel e cs = some x → ∃ zs : List Int, zs.length = nf ∧ cs = zs.map (Value.int .i64) ∧ ∀ z ∈ zs, (Lit.int .i64 z).wf = true)
    (h : DataW.trod enc P w 0 (fun _ => true) true fuel t [.slice A len cap] = some x) :
    ∃ f, Rws w w.heap.size A len nf f ∧ len ≤ cap ∧ cap ≤ maxLen := by
  rcases open_slice ht h with ⟨e1, _⟩ | ⟨a, l, c, m, n, D, Pl, e1, _, hl, hm, hmm, _, hx⟩
  · simp at e1
    obtain ⟨rfl, rfl, rfl⟩ := e1
    exact ⟨fun _ _ => 0, fun i hi => absurd hi (by omega), by omega, by unfold maxLen; omega⟩
  · simp at e1
    obtain ⟨rfl, rfl, rfl⟩ := e1
    simp only [if_true] at hmm
    subst hmm
    have each : ∀ i, i < len → ∃ zs : List Int, zs.length = nf ∧ (∀ j, j < nf → w.cell? (a.add (i * nf + j)) = some (.int .i64 (zs.getD j 0))) ∧ ∀ z ∈ zs, (Lit.int .i64 z).wf = true := by
      intro i hi'
      obtain ⟨cs', h1, h2⟩ := hx i (by omega)
      rw [hC] at h1
      obtain ⟨_, hlen, hcell⟩ := World.cells?_some h1
      obtain ⟨zs, hz, rfl, hw⟩ := hop h2
      refine ⟨zs, hz, fun j hj => ?_, hw⟩
      have := hcell j hj
      rw [add_add] at this
      rw [this, List.getElem?_map, List.getElem?_eq_getElem (by omega)]
      simp [show j < zs.length by omega]
    obtain ⟨f, hf⟩ := choose_lt (α := List Int) (p := fun i zs => zs.length = nf ∧ (∀ j, j < nf → w.cell? (a.add (i * nf + j)) = some (.int .i64 (zs.getD j 0))) ∧ ∀ z ∈ zs, (Lit.int .i64 z).wf = true) each
    refine ⟨fun i j => (f i).getD j 0, fun i hi' => ?_, hl, hm⟩
    obtain ⟨h1, h2, h3⟩ := hf i hi'
    obtain ⟨b, off, spot⟩ := a
    have : spot = none := by
      have h0 := (hf 0 (by omega)).2.1 0 hpos
      simpa [Addr.add] using World.cell?_spot h0
    subst this
    refine ⟨b, off, rfl, ?_, fun j hj => ?_, fun j hj => ?_⟩
    · have := World.block_lt_of_cell? _ _ (h2 0 hpos)
      rwa [block_of_add] at this
    · have := h2 j hj
      rw [Addr.add_lit, ← Nat.add_assoc] at this
      exact this
    · have hj' : j < (f i).length := by omega
      have hw := h3 _ (List.getElem_mem (l := f i) hj')
      have e : (f i).getD j 0 = (f i)[j] := by simp [hj']
      show -9223372036854775808 ≤ (f i).getD j 0 ∧ (f i).getD j 0 ≤ 9223372036854775807
      rw [e]
      exact bounds_i64 hw
theorem cells_op : Tryz.prog.cellsOf 31 = 6 := by kernel_rfl
theorem cells_v : Tryz.prog.cellsOf 24 = 2 := by kernel_rfl
theorem cells_i : Tryz.prog.cellsOf 3 = 1 := by kernel_rfl
/-- A call: six numbers. -/
theorem open_op {cs : List Value} {x : DataW H × List MemPlace} (h : DataW.trod enc Tryz.prog w base spare held fuel 31 cs = some x) : ∃ zs : List Int, zs.length = 6 ∧ cs = zs.map (Value.int .i64) ∧ ∀ z ∈ zs, (Lit.int .i64 z).wf = true := by
  obtain ⟨xs, n, rfl, hx, hl, hn, hel⟩ := DataW.trod_struct Tryz.underlying31 h
  rw [cells_op] at hl
  have hn5 : xs.length = 5 := hn
  clear hx hn h
  match cs, hl with
  | [a, b, c, d, e, f], _ =>
    have g : ∀ i, i < 5 → ∃ y, xs[i]? = some y := fun i hi => ⟨_, List.getElem?_eq_getElem (by omega)⟩
    obtain ⟨y0, y0'⟩ := g 0 (by omega)
    obtain ⟨y1, y1'⟩ := g 1 (by omega)
    obtain ⟨y2, y2'⟩ := g 2 (by omega)
    obtain ⟨y3, y3'⟩ := g 3 (by omega)
    obtain ⟨y4, y4'⟩ := g 4 (by omega)
    have h0 : DataW.trod enc Tryz.prog w base spare held n 3 (([a, b, c, d, e, f].drop 0).take (Tryz.prog.cellsOf 3)) = xs[0]? := hel 0 _ rfl
    have h1 : DataW.trod enc Tryz.prog w base spare held n 3 (([a, b, c, d, e, f].drop 1).take (Tryz.prog.cellsOf 3)) = xs[1]? := hel 1 _ rfl
    have h2 : DataW.trod enc Tryz.prog w base spare held n 3 (([a, b, c, d, e, f].drop 2).take (Tryz.prog.cellsOf 3)) = xs[2]? := hel 2 _ rfl
    have h3 : DataW.trod enc Tryz.prog w base spare held n 3 (([a, b, c, d, e, f].drop 3).take (Tryz.prog.cellsOf 3)) = xs[3]? := hel 3 _ rfl
    have h4 : DataW.trod enc Tryz.prog w base spare held n 24 (([a, b, c, d, e, f].drop 4).take (Tryz.prog.cellsOf 24)) = xs[4]? := hel 4 _ rfl
    rw [cells_i, y0'] at h0
    rw [cells_i, y1'] at h1
    rw [cells_i, y2'] at h2
    rw [cells_i, y3'] at h3
    rw [cells_v, y4'] at h4
    obtain ⟨z0, e0, _, w0⟩ := DataW.trod_int Tryz.underlying3 h0
    obtain ⟨z1, e1, _, w1⟩ := DataW.trod_int Tryz.underlying3 h1
    obtain ⟨z2, e2, _, w2⟩ := DataW.trod_int Tryz.underlying3 h2
    obtain ⟨z3, e3, _, w3⟩ := DataW.trod_int Tryz.underlying3 h3
    obtain ⟨zs, hz, hc, _, hw⟩ := gen.open_ints (k := .i64) Tryz.underlying24 (by kernel_rfl) (intFields_at (by kernel_rfl)) cells_v h4
    match zs, hz with
    | [z4, z5], _ =>
      simp at e0 e1 e2 e3 hc
      obtain ⟨rfl, rfl⟩ := hc
      subst e0 e1 e2 e3
      refine ⟨[z0, z1, z2, z3, z4, z5], rfl, rfl, fun z hz => ?_⟩
      simp at hz
      rcases hz with rfl | rfl | rfl | rfl | rfl | rfl
      · exact w0
      · exact w1
      · exact w2
      · exact w3
      · exact hw _ (by simp)
      · exact hw _ (by simp)
end
theorem few_any (A : Option Addr) (n c : Nat) (w : World) (hn : n ≤ c) (hc : c ≤ maxLen) (hA : 0 < n → ∃ ad, A = some ad) :
    Calls Tryz.prog 6 #[.slice A n c] w fun e w' => (∃ m c', m ≤ 40 ∧ m ≤ n ∧ e = .returned (.slice A m c')) ∧ w = w' := by
  unfold maxLen at hc
  by_cases h : 40 < n
  · obtain ⟨ad, rfl⟩ := hA (by omega)
    clear hA
    have l1 : (40 : Int) ≤ c := by omega
    go_enter Tryz.func6, Tryz.ntmps6
    go_wp2
    all_goals
      go_ret
      exact ⟨⟨40, _, by omega, by omega, rfl⟩, rfl⟩
  · clear hA
    go_enter Tryz.func6, Tryz.ntmps6
    go_wp2
    go_ret
    exact ⟨⟨n, _, by omega, by omega, rfl⟩, rfl⟩
end Go.Proofs.YtfhmhlofjoahlaaGreat.st

/- An object that stays: what is told of it. -/
namespace Go.Proofs.YtfhmhlofjoahlaaGreat.st
open Go.ChangeShapes Go.WideShapes Go.ChangeAt Go.RowKit Go.Maps gen calls cls geos ce
set_option linter.unusedVariables false
set_option maxHeartbeats 4000000
set_option maxRecDepth 100000
/-- An object with N fields stands at a, the last of them with the word F. -/
structure Fx (x : Hs) (a s N : Nat) (F : Int) : Prop where
  ob : Ob x a s N
  room : (N : Int) + 1 ≤ bz x.ks a
  last : 1 ≤ N → x.xs.getD (a + N) 0 = F
section
variable {w w' : World} {I : Ids} {x y : Hs} {P : Int → Prop} {a s N : Nat} {F : Int}
theorem Fx.keep (X : Fx x a s N F) (O : Ok x.ks x.xs x.cs x.tk x.fr) (K : Kp P x y) (hP : P a) : Fx y a s N F := by
  obtain ⟨k1, k2, k3⟩ := K a X.ob.tk hP
  have r := X.room
  exact ⟨⟨k1, by rw [k3 a (Int.le_refl _) (by omega)]; exact X.ob.wd, X.ob.n8, X.ob.s8⟩, by rw [k2]; exact r, fun h => by rw [k3 (a + N) (by omega) (by omega)]; exact X.last h⟩
/-- What the last field is told as. -/
structure Told (n vk vn : Int) (sb gb : Bool) (gk gn : Int) : Prop where
  any : (n = 0 ∧ sb = false ∧ gb = false ∧ gk = 0 ∧ gn = 0) ∨ (0 < n ∧ sb = true ∧ gb = true ∧ wd.chk vk vn = 0 ∧ gk = vk ∧ gn = vn) ∨ (0 < n ∧ sb = false ∧ gb = true ∧ wd.chk vk vn ≠ 0 ∧ gk = 0 ∧ gn = 0)
/-- The object that Slow made: its last field is set, if it may be; and is told then. -/
theorem set_case {n vk vn : Int} {z : Hs} (hn : n = N) (n8 : N ≤ 127) (M : Made z x a N) (V : Iv x) (s8 : x.cnt ≤ 1099511627776) (H : Sr w I x) :
    ∃ (sb gb : Bool) (gk gn F : Int), Told n vk vn sb gb gk gn ∧
      (Calls Tryz.prog 9 #[.pointer (some ⟨I.S, 0, none⟩), .int .i64 a, .int .i64 (n - 1), .agg #[.int .i64 vk, .int .i64 vn]] w fun e w' => e = bool1 sb ∧ ∃ y, Sr w' I y ∧ Iv y ∧ y.cnt ≤ x.cnt ∧ y.T = x.T ∧ Fx y a z.cnt N F ∧ Gr I.L w w') ∧
      ∀ (y : Hs) (W : World), Sr W I y → Fx y a z.cnt N F → Calls Tryz.prog 11 #[.pointer (some ⟨I.S, 0, none⟩), .int .i64 a, .int .i64 (n - 1)] W fun e w' => e = wd.ans gk gn gb ∧ W.grownBy w' none := by
  have cz := M.cnt
  have ob : Ob x a z.cnt N := ⟨M.ob.1, M.ob.2, by omega, by omega⟩
  subst hn
  by_cases h0 : N = 0
  · subst h0
    have nf : ∀ y : Hs, Nof y a (((0 : Nat) : Int) - 1) := fun y => .inl (by omega)
    refine ⟨false, false, 0, 0, 0, ⟨.inl ⟨rfl, rfl, rfl, rfl, rfl⟩⟩, (Set_no H vk vn (nf x)).mono fun e w' ⟨he, hg⟩ => ⟨he, x, H.new hg, V, by omega, rfl, ⟨ob, M.room, fun h => absurd h (by omega)⟩, .new hg⟩, fun y W hs X => Get_no hs (nf y)⟩
  · obtain ⟨j, rfl⟩ : ∃ j, N = j + 1 := ⟨N - 1, by omega⟩
    have ej : (((j + 1 : Nat) : Int) - 1) = (j : Int) := by omega
    have ea : a + (j + 1) = a + 1 + j := by omega
    cases hv : wd.vb vk vn with
    | true =>
      have hc : wd.chk vk vn = 0 := by simpa [wd.vb] using hv
      obtain ⟨b1, b2, b3, _⟩ := wd.wd_back hc
      obtain ⟨V1, K1, g0, g1⟩ := V.stored ob M.room (by omega : j < j + 1) (wd_fits vk vn) (by omega)
      refine ⟨true, true, vk, vn, wd.wd vk vn, ⟨.inr (.inl ⟨by omega, rfl, rfl, hc, rfl, rfl⟩)⟩, ?_, fun y W hs X => ?_⟩
      · rw [ej]
        refine (Set_yes H ob (by omega : j < j + 1) M.room hv).mono fun e w' ⟨he, hs, hg⟩ => ⟨by rw [he], _, hs, V1, Nat.le_refl x.cnt, rfl, ⟨⟨M.ob.1, g0, by omega, by omega⟩, M.room, fun _ => by rw [ea]; exact g1⟩, hg⟩
      · rw [ej]
        have hl := X.last (by omega)
        rw [ea] at hl
        exact Get_yes hs X.ob (by omega : j < j + 1) X.room (by rw [hl]; exact b1) (by rw [hl]; exact b2) (by rw [hl]; exact b3)
    | false =>
      have hc : wd.chk vk vn ≠ 0 := by simpa [wd.vb] using hv
      refine ⟨false, true, 0, 0, 0, ⟨.inr (.inr ⟨by omega, rfl, rfl, hc, rfl, rfl⟩)⟩, ?_, fun y W hs X => ?_⟩
      · refine (Set_bad H (.inr ⟨a, z.cnt, j + 1, j, rfl, ej, ob, by omega⟩) hv).mono fun e w' ⟨he, hg⟩ => ⟨he, x, H.new hg, V, by omega, rfl, ⟨ob, M.room, fun _ => M.zero (j + 1) (by omega) (Nat.le_refl _)⟩, .new hg⟩
      · rw [ej]
        have hl := X.last (by omega)
        rw [ea] at hl
        exact Get_yes hs X.ob (by omega : j < j + 1) X.room (by rw [hl]; rfl) (by rw [hl]; rfl) (by rw [hl]; rfl)
end
end Go.Proofs.YtfhmhlofjoahlaaGreat.st

/- The walk of the statement on an object that stays. -/
namespace Go.Proofs.YtfhmhlofjoahlaaGreat.st
open Go.ChangeShapes Go.WideShapes Go.ChangeAt Go.RowKit Go.Maps gen calls cls geos ce
set_option linter.unusedVariables false
set_option maxHeartbeats 8000000
set_option maxRecDepth 100000
/-- What stands through the first script. -/
def Lp1 (w0 : World) (I : Ids) (m : Nat) (i : Value) (w : World) : Prop := ∃ (k : Nat) (y : Hs), k ≤ m ∧ i = .int .i64 k ∧ Sr w I y ∧ Iv y ∧ y.cnt ≤ k ∧ y.T = 4 ∧ w0.grownBy w none
/-- What stands through the second one. -/
def Lp2 (w0 : World) (I : Ids) (m a s N : Nat) (F : Int) (i : Value) (w : World) : Prop := ∃ (k : Nat) (y : Hs), k ≤ m ∧ i = .int .i64 k ∧ Sr w I y ∧ Iv y ∧ y.cnt ≤ 50 + k ∧ Fx y a s N F ∧ w0.grownBy w none
theorem iv_new (k : Nat) (hk : k ≤ 64) : Iv ⟨List.replicate k 0, List.replicate (32 * k) 0, List.replicate 128 0, [], fun _ => [], [], 0, 4⟩ :=
  ⟨Ok.new k hk, fun b hb => (by cases hb), fun o ho => (by cases ho), .nil _⟩
theorem near64 (n : Int) : ∃ k : Nat, pg.near n 0 64 = k ∧ k ≤ 64 := pg.near_nat n 64
theorem err_or {n : Int} (h : ¬ ((0 ≤ n ∧ n ≤ 127) ∧ 0 ≤ (0 : Int) ∧ (0 : Int) < (4 : Nat))) : n < 0 ∨ 127 < n := by omega
/-- The world behind the box of the value. -/
abbrev bxw (w : World) (vk vn : Int) : World := w.alloc (.cells #[.int .i64 vk, .int .i64 vn] 24)
theorem StoreKeeps_any (n0 n vk vn : Int) (A1 A2 : Option Addr) (l1 c1 l2 c2 : Nat) (f1 f2 : Nat → Nat → Int) (w : World) (hc1 : l1 ≤ c1) (hm1 : c1 ≤ maxLen) (ho1 : Rws w w.heap.size A1 l1 6 f1) (hc2 : l2 ≤ c2) (hm2 : c2 ≤ maxLen) (ho2 : Rws w w.heap.size A2 l2 6 f2) :
    Calls Tryz.prog 3 #[.int .i64 n0, .slice A1 l1 c1, .int .i64 n, .agg #[.int .i64 vk, .int .i64 vn], .slice A2 l2 c2] w fun e w' => e = .returned (.bool true) ∧ w.grownBy w' none := by
  obtain ⟨K, hk, hk2⟩ := near64 n0
  have G0 := Lib.hid (World.grownBy_alloc w (.cells #[.int .i64 vk, .int .i64 vn] 24) none)
  have V0 := Lib.hid (ca.Two.new w vk vn 24)
  have HO1 := Lib.hid ho1
  have HO2 := Lib.hid ho2
  have HD1 := Lib.hid (show 0 < l1 → ∃ ad, A1 = some ad from ho1.some)
  have HD2 := Lib.hid (show 0 < l2 → ∃ ad, A2 = some ad from ho2.some)
  have HC1 := Lib.hid hc1
  have HC2 := Lib.hid hc2
  have HM1 := Lib.hid hm1
  have HM2 := Lib.hid hm2
  have IV := Lib.hid (iv_new K hk2)
  have NW := Lib.hid (fun w => New_any n0 4 K 4 hk (by decide) w)
  clear hk hk2 ho1 ho2 hc1 hc2 hm1 hm2
  go_enter Tryz.func3, Tryz.ntmps3
  go_wp2_with (first
    | (go_at_call 4; (with_reducible refine (alive_any _).mono ?_); rintro e w1 ⟨rfl, hg⟩; have G1 := Lib.hid (show (bxw w vk vn).grownBy w1 none from hg); clear hg)
    | (go_at_call 5; (with_reducible refine (NW.out _).mono ?_); rintro e w2 ⟨I, rfl, hs, hl, hg⟩; have H2 := Lib.hid hs; have O := Lib.hid (own_all (fun q hq => Nat.le_trans G1.out.size (hl q hq))); have G2 := Lib.hid (G1.out.trans hg); clear hs hl hg)
    | (have mark := R1; go_at_call 6; (with_reducible refine (few_any _ _ _ _ HC2.out HM2.out HD2.out).mono ?_); rintro e w' ⟨⟨m2, d2, hl2, hl2', rfl⟩, rfl⟩; have R2 := Lib.hid (HO2.out.less hl2'))
    | (go_at_call 6; (with_reducible refine (few_any _ _ _ _ HC1.out HM1.out HD1.out).mono ?_); rintro e w' ⟨⟨m1, d1, hl1, hl1', rfl⟩, rfl⟩; have R1 := Lib.hid (HO1.out.less hl1')))
  clear HO1 HO2 HD1 HD2 HC1 HC2 HM1 HM2 NW
  go_loopw [12] (fun i wr => Lp1 (bxw w vk vn) I m1 i wr) (fun i _ => m1 - (intOf i).toNat)
  case atStart => exact ⟨0, _, Nat.zero_le _, rfl, H2.out, IV.out, Nat.le_refl _, rfl, G2.out⟩
  case round =>
    obtain ⟨k, y, hk, rfl, hs, hv, hcn, hT, hg⟩ := hrel
    have HS := Lib.hid hs
    have HV := Lib.hid hv
    have HG := Lib.hid hg
    have HT := Lib.hid hT
    have HCN := Lib.hid hcn
    clear hs hv hcn hT hg H2 IV
    by_cases hlt : k < m1
    · obtain ⟨b, off, rfl, hb, hc, hw⟩ := (R1.out.kept (G0.out.trans HG.out) (by simp)) k hlt
      have d0 := hc 0 (by omega)
      rw [Nat.add_zero] at d0
      have d1 := hc 1 (by omega)
      have d2 := hc 2 (by omega)
      have d3 := hc 3 (by omega)
      have d4 := hc 4 (by omega)
      have d5 := hc 5 (by omega)
      have W1 := Lib.hid (fits_iff.mpr (hw 1 (by omega)))
      generalize f1 k 0 = x0 at d0
      generalize f1 k 1 = x1 at d1 W1
      generalize f1 k 2 = x2 at d2
      generalize f1 k 3 = x3 at d3
      generalize f1 k 4 = x4 at d4
      generalize f1 k 5 = x5 at d5
      clear hc hw
      have DO := Lib.hid (do_any HS.out HV.out x0 x1 x2 x3 x4 x5 W1.out (by have := HCN.out; omega))
      go_wp2_with (first
        | (go_at_call 7; (with_reducible refine DO.out.mono ?_); rintro e w4 ⟨rfl, y2, hc⟩; have C4 := Lib.hid hc; clear hc))
      go_roundw
      case rel => exact ⟨k + 1, y2, by omega, by go_num, C4.out.sr, C4.out.iv, by have := C4.out.cnt; have := HCN.out; omega, C4.out.T.trans HT.out, Gr.grown HG.out C4.out.gr O.out⟩
      case measure => simp [intOf]; omega
    · have HS1 := Slow_dec HS.out HV.out 0 n (by have := HCN.out; omega)
      rw [HT.out] at HS1
      rcases HS1 with ⟨hn, h1⟩ | h1 | ⟨a, N, z, hN, N8, h1, h2⟩
      · have S1 := Lib.hid h1
        have t0 := err_or hn
        clear h1 hn
        by_cases hn0 : n < 0
        · have t1 : decide (n < 0) = true := by simpa using hn0
          clear t0 hn0
          go_wp2_with (first
            | (go_at_call 8; (with_reducible refine S1.out.mono ?_); rintro e w4 ⟨rfl, hg⟩; have G4 := Lib.hid (HG.out.trans hg); clear hg))
          go_ret
          exact ⟨rfl, G0.out.trans G4.out⟩
        · have t1 : decide (n < 0) = false := by simp; omega
          have t2 : decide (127 < n) = true := by simp; omega
          clear t0 hn0
          go_wp2_with (first
            | (go_at_call 8; (with_reducible refine S1.out.mono ?_); rintro e w4 ⟨rfl, hg⟩; have G4 := Lib.hid (HG.out.trans hg); clear hg))
          go_ret
          exact ⟨rfl, G0.out.trans G4.out⟩
      · have S1 := Lib.hid h1
        clear h1
        go_wp2_with (first
          | (go_at_call 8; (with_reducible refine S1.out.mono ?_); rintro e w4 ⟨rfl, hg⟩; have G4 := Lib.hid (HG.out.trans hg); clear hg))
        go_ret
        exact ⟨rfl, G0.out.trans G4.out⟩
      · have S1 := Lib.hid h1
        have n8 : 0 ≤ n ∧ n ≤ 127 := by omega
        have CN := HCN.out
        have HN := Lib.hid hN
        have NE := Lib.hid h2
        obtain ⟨n1, n2⟩ := n8
        clear h1 hN h2 HV
        go_wp2_with (first
          | (go_at_call 8; (with_reducible refine S1.out.mono ?_); rintro e w4 ⟨rfl, hs, hg⟩; obtain ⟨x4, hch, hmd⟩ := NE.out w4 hs hg; have G4 := Lib.hid (Gr.grown HG.out hg O.out); obtain ⟨v40, v41⟩ := (V0.out.made G4.out).both; obtain ⟨sb, gb, gk, gn, F, hto, hset, hget⟩ := set_case (vk := vk) (vn := vn) HN.out N8 hmd hch.iv (by have := hch.cnt; omega) hch.sr; have CT := Lib.hid hch.cnt; have TO := Lib.hid hto; have SE := Lib.hid hset; have GE := Lib.hid hget; clear hs hg hch hmd hto hset hget)
          | (go_at_call 9; (with_reducible refine SE.out.mono ?_); rintro e w5 ⟨rfl, x5, hs, hv, hc, hT, hx, hg⟩; have H5 := Lib.hid hs; have I5 := Lib.hid hv; have C5 := Lib.hid (show x5.cnt ≤ 50 by have := CT.out; omega); have X5 := Lib.hid hx; have G5 := Lib.hid (Gr.grown G4.out hg O.out); clear hs hv hc hT hx hg)
          | (go_at_call 10; (with_reducible refine (Serial_yes H5.out X5.out.ob).mono ?_); rintro e w6 ⟨rfl, hg⟩; have H6 := Lib.hid (H5.out.new hg); have G6 := Lib.hid (G5.out.trans hg); clear hg))
        generalize hsz : y.cnt = sr at *
        clear S1 SE hsz HCN CN NE
        go_loopw [17] (fun i wr => Lp2 (bxw w vk vn) I m2 a sr N F i wr) (fun i _ => m2 - (intOf i).toNat)
        case atStart => exact ⟨0, x5, Nat.zero_le _, rfl, H6.out, I5.out, by have := C5.out; omega, X5.out, G6.out⟩
        case round =>
          obtain ⟨k2, y2, hk2, rfl, hs, hv, hcn, hx, hg⟩ := hrel
          have HS2 := Lib.hid hs
          have HV2 := Lib.hid hv
          have HC2 := Lib.hid hcn
          have HX2 := Lib.hid hx
          have HG2 := Lib.hid hg
          clear hs hv hcn hx hg H5 I5 C5 X5 G5 G6 H6 v40 v41
          by_cases hlt2 : k2 < m2
          · obtain ⟨b, off, rfl, hb, hc, hw⟩ := (R2.out.kept (G0.out.trans HG2.out) (by simp)) k2 hlt2
            have d0 := hc 0 (by omega)
            rw [Nat.add_zero] at d0
            have d1 := hc 1 (by omega)
            have d2 := hc 2 (by omega)
            have d3 := hc 3 (by omega)
            have d4 := hc 4 (by omega)
            have d5 := hc 5 (by omega)
            have W1 := Lib.hid (fits_iff.mpr (hw 1 (by omega)))
            generalize f2 k2 0 = x0 at d0
            generalize f2 k2 1 = x1 at d1 W1
            generalize f2 k2 2 = x2 at d2
            generalize f2 k2 3 = x3 at d3
            generalize f2 k2 4 = x6 at d4
            generalize f2 k2 5 = x7 at d5
            clear hc hw
            have DO := Lib.hid (do_any HS2.out HV2.out x0 x1 x2 x3 x6 x7 W1.out (by have := HC2.out; omega))
            cases q1 : (x3 != (a : Int))
            · cases q2 : (x0 != 3)
              · go_wp2
                go_roundw
                case rel => exact ⟨k2 + 1, y2, by omega, by go_num, HS2.out, HV2.out, by have := HC2.out; omega, HX2.out, HG2.out⟩
                case measure => simp [intOf]; omega
              · cases q3 : (x0 != 4)
                · go_wp2
                  go_roundw
                  case rel => exact ⟨k2 + 1, y2, by omega, by go_num, HS2.out, HV2.out, by have := HC2.out; omega, HX2.out, HG2.out⟩
                  case measure => simp [intOf]; omega
                · have AL := Lib.hid (show Alone x0 x3 a from .inr ⟨by simpa using q2, by simpa using q3⟩)
                  go_wp2_with (first
                    | (go_at_call 7; (with_reducible refine DO.out.mono ?_); rintro e w7 ⟨rfl, y3, hc⟩; have C7 := Lib.hid hc; clear hc))
                  go_roundw
                  case rel => exact ⟨k2 + 1, y3, by omega, by go_num, C7.out.sr, C7.out.iv, by have := C7.out.cnt; have := HC2.out; omega, HX2.out.keep HV2.out.ok C7.out.kp AL.out, Gr.grown HG2.out C7.out.gr O.out⟩
                  case measure => simp [intOf]; omega
            · have AL := Lib.hid (show Alone x0 x3 a from .inl (by have := q1; simp at this; exact fun e => this e.symm))
              go_wp2_with (first
                | (go_at_call 7; (with_reducible refine DO.out.mono ?_); rintro e w7 ⟨rfl, y3, hc⟩; have C7 := Lib.hid hc; clear hc))
              go_roundw
              case rel => exact ⟨k2 + 1, y3, by omega, by go_num, C7.out.sr, C7.out.iv, by have := C7.out.cnt; have := HC2.out; omega, HX2.out.keep HV2.out.ok C7.out.kp AL.out, Gr.grown HG2.out C7.out.gr O.out⟩
              case measure => simp [intOf]; omega
          · have FD := Lib.hid (fun W (hg : wr.grownBy W none) => (show Calls Tryz.prog 12 #[.pointer (some ⟨I.S, 0, none⟩), .int .i64 a] W fun e w' => e = int1 n ∧ W.grownBy w' none by
              have := Fields_yes (HS2.out.new hg) HX2.out.ob
              rw [← HN.out] at this
              exact this))
            have SD := Lib.hid (fun W (hg : wr.grownBy W none) => Serial_yes (HS2.out.new hg) HX2.out.ob)
            have GD := Lib.hid (GE.out y2 wr HS2.out HX2.out)
            have CK := Lib.hid (fun W => wd.rCheck_any vk vn W)
            have b0 : ((sr : Int) == sr) = true := by simp
            have b1 : (n == n) = true := by simp
            generalize (sr : Int) = sr' at *
            clear GE HS2 HX2 HV2 HC2
            rcases TO.out.any with ⟨rfl, rfl, rfl, rfl, rfl⟩ | ⟨hn, rfl, rfl, hc, rfl, rfl⟩ | ⟨hn, rfl, rfl, hc, rfl, rfl⟩
            · clear TO
              have GD := Lib.hid (show Calls Tryz.prog 11 #[.pointer (some ⟨I.S, 0, none⟩), .int .i64 a, .int .i64 (-1)] wr fun e w' => e = wd.ans 0 0 false ∧ wr.grownBy w' none from GD.out)
              go_wp2_with (first
                | (go_at_call 11; (with_reducible refine GD.out.mono ?_); rintro e w7 ⟨rfl, hg⟩; have G7 := Lib.hid hg; have VC := Lib.hid (V0.out.made (HG2.out.trans hg)); obtain ⟨v70, v71⟩ := VC.out.both; clear hg)
                | (go_at_call 12; (with_reducible refine (FD.out _ (G7.out.trans (World.grownBy_alloc _ _ _))).mono ?_); rintro e w9 ⟨rfl, hg⟩; have G9 := Lib.hid (G7.out.trans ((World.grownBy_alloc _ _ _).trans hg)); have V9 := Lib.hid (VC.out.made ((World.grownBy_alloc _ _ _).trans hg)); have T9 := Lib.hid ((ca.Two.new _ _ _ _).made hg); obtain ⟨v90, v91⟩ := V9.out.both; obtain ⟨t90, t91⟩ := T9.out.both; clear hg)
                | (go_at_call 10; (with_reducible refine (SD.out _ G9.out).mono ?_); rintro e wa ⟨rfl, hg⟩; have Ga := Lib.hid (G9.out.trans hg); have Va := Lib.hid (V9.out.made hg); have Ta := Lib.hid (T9.out.made hg); obtain ⟨va0, va1⟩ := Va.out.both; obtain ⟨ta0, ta1⟩ := Ta.out.both; clear hg)
                | (go_at_call 13; (with_reducible refine (CK.out _).mono ?_); rintro e wb ⟨rfl, hb⟩; have hg := below_new hb; have Gb := Lib.hid (Ga.out.trans hg); have Vb := Lib.hid (Va.out.made hg); have Tb := Lib.hid (Ta.out.made hg); obtain ⟨vb0, vb1⟩ := Vb.out.both; obtain ⟨tb0, tb1⟩ := Tb.out.both; clear hg hb))
              go_ret
              exact ⟨rfl, G0.out.trans (HG2.out.trans Ga.out)⟩
            · have t1 : decide (0 < n) = true := by simpa using hn
              rw [hc] at CK
              have q1 : (gk == gk) = true := by simp
              have q2 : (gn == gn) = true := by simp
              clear TO hc hn
              go_wp2_with (first
                | (go_at_call 11; (with_reducible refine GD.out.mono ?_); rintro e w7 ⟨rfl, hg⟩; have G7 := Lib.hid hg; have VC := Lib.hid (V0.out.made (HG2.out.trans hg)); obtain ⟨v70, v71⟩ := VC.out.both; clear hg)
                | (go_at_call 12; (with_reducible refine (FD.out _ (G7.out.trans (World.grownBy_alloc _ _ _))).mono ?_); rintro e w9 ⟨rfl, hg⟩; have G9 := Lib.hid (G7.out.trans ((World.grownBy_alloc _ _ _).trans hg)); have V9 := Lib.hid (VC.out.made ((World.grownBy_alloc _ _ _).trans hg)); have T9 := Lib.hid ((ca.Two.new _ _ _ _).made hg); obtain ⟨v90, v91⟩ := V9.out.both; obtain ⟨t90, t91⟩ := T9.out.both; clear hg)
                | (go_at_call 10; (with_reducible refine (SD.out _ G9.out).mono ?_); rintro e wa ⟨rfl, hg⟩; have Ga := Lib.hid (G9.out.trans hg); have Va := Lib.hid (V9.out.made hg); have Ta := Lib.hid (T9.out.made hg); obtain ⟨va0, va1⟩ := Va.out.both; obtain ⟨ta0, ta1⟩ := Ta.out.both; clear hg)
                | (go_at_call 13; (with_reducible refine (CK.out _).mono ?_); rintro e wb ⟨rfl, hb⟩; have hg := below_new hb; have Gb := Lib.hid (Ga.out.trans hg); have Vb := Lib.hid (Va.out.made hg); have Tb := Lib.hid (Ta.out.made hg); obtain ⟨vb0, vb1⟩ := Vb.out.both; obtain ⟨tb0, tb1⟩ := Tb.out.both; clear hg hb))
              go_ret
              exact ⟨rfl, G0.out.trans (HG2.out.trans Gb.out)⟩
            · have t1 : decide (0 < n) = true := by simpa using hn
              generalize wd.chk vk vn = ck at *
              have t2 : (ck == 0) = false := by simpa using hc
              clear TO hc hn
              go_wp2_with (first
                | (go_at_call 11; (with_reducible refine GD.out.mono ?_); rintro e w7 ⟨rfl, hg⟩; have G7 := Lib.hid hg; have VC := Lib.hid (V0.out.made (HG2.out.trans hg)); obtain ⟨v70, v71⟩ := VC.out.both; clear hg)
                | (go_at_call 12; (with_reducible refine (FD.out _ (G7.out.trans (World.grownBy_alloc _ _ _))).mono ?_); rintro e w9 ⟨rfl, hg⟩; have G9 := Lib.hid (G7.out.trans ((World.grownBy_alloc _ _ _).trans hg)); have V9 := Lib.hid (VC.out.made ((World.grownBy_alloc _ _ _).trans hg)); have T9 := Lib.hid ((ca.Two.new _ _ _ _).made hg); obtain ⟨v90, v91⟩ := V9.out.both; obtain ⟨t90, t91⟩ := T9.out.both; clear hg)
                | (go_at_call 10; (with_reducible refine (SD.out _ G9.out).mono ?_); rintro e wa ⟨rfl, hg⟩; have Ga := Lib.hid (G9.out.trans hg); have Va := Lib.hid (V9.out.made hg); have Ta := Lib.hid (T9.out.made hg); obtain ⟨va0, va1⟩ := Va.out.both; obtain ⟨ta0, ta1⟩ := Ta.out.both; clear hg)
                | (go_at_call 13; (with_reducible refine (CK.out _).mono ?_); rintro e wb ⟨rfl, hb⟩; have hg := below_new hb; have Gb := Lib.hid (Ga.out.trans hg); have Vb := Lib.hid (Va.out.made hg); have Tb := Lib.hid (Ta.out.made hg); obtain ⟨vb0, vb1⟩ := Vb.out.both; obtain ⟨tb0, tb1⟩ := Tb.out.both; clear hg hb))
              go_ret
              exact ⟨rfl, G0.out.trans (HG2.out.trans Gb.out)⟩
end Go.Proofs.YtfhmhlofjoahlaaGreat.st
