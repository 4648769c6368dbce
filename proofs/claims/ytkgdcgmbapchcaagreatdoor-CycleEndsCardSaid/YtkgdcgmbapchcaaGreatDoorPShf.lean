/- Texts that this claim stands on. -/
import Derived.Shelf.SlGeneric
import Derived.Shelf.SortM.Plain
import Derived.Shelf.SortM.SortNone
import Derived.Ground.SlgmProg
import Derived.Test.YtkgdcgmbapchcaaGreatDoorProg
import Derived.StillTailTactics
import Derived.Lib.SlKeysI
import Derived.Test.YtkgdcgmbapchcaaGreatDoorPCaX
import Derived.Test.YtkgdcgmbapchcaaGreatDoorPGnQ
namespace Go.Proofs
open Go.Shelf
def Tryz.sort_ren : Go.Shelf.Ren := ⟨fun | 5 => 229 | 8 => 275 | 7 => 274 | 19 => 310 | 20 => 311 | 10 => 301 | 11 => 302 | 12 => 303 | 13 => 304 | 14 => 305 | 15 => 306 | 16 => 307 | 17 => 308 | 18 => 309 | 30 => 320 | 31 => 321 | 32 => 322 | 33 => 323 | 34 => 324 | 35 => 325 | 40 => 328 | n => n, fun | 23 => 41 | 25 => 3 | 3 => 3 | 32 => 212 | 22 => 41 | 0 => 0 | 44 => 273 | 46 => 227 | 4 => 4 | 36 => 267 | 35 => 266 | 41 => 68 | 5 => 5 | 9 => 9 | 53 => 276 | 57 => 280 | 63 => 282 | 64 => 94 | n => n, fun | n => n⟩
theorem Tryz.sort : Go.Proofs.SlLaysM.n5 Tryz.prog Tryz.sort_ren := {
  mixed := by kernel_rfl
  f5 := ⟨Tryz.f229.name, by decide, Tryz.func229.trans (congrArg some (by kernel_rfl))⟩
  f7 := ⟨Tryz.f274.name, by decide, Tryz.func274.trans (congrArg some (by kernel_rfl))⟩
  f8 := Tryz.func275.trans (congrArg some (by kernel_rfl))
  f10 := ⟨Tryz.f301.name, by decide, Tryz.func301.trans (congrArg some (by kernel_rfl))⟩
  f11 := ⟨Tryz.f302.name, by decide, Tryz.func302.trans (congrArg some (by kernel_rfl))⟩
  f12 := ⟨Tryz.f303.name, by decide, Tryz.func303.trans (congrArg some (by kernel_rfl))⟩
  f13 := ⟨Tryz.f304.name, by decide, Tryz.func304.trans (congrArg some (by kernel_rfl))⟩
  f14 := ⟨Tryz.f305.name, by decide, Tryz.func305.trans (congrArg some (by kernel_rfl))⟩
  f15 := ⟨Tryz.f306.name, by decide, Tryz.func306.trans (congrArg some (by kernel_rfl))⟩
  f16 := ⟨Tryz.f307.name, by decide, Tryz.func307.trans (congrArg some (by kernel_rfl))⟩
  f17 := ⟨Tryz.f308.name, by decide, Tryz.func308.trans (congrArg some (by kernel_rfl))⟩
  f18 := ⟨Tryz.f309.name, by decide, Tryz.func309.trans (congrArg some (by kernel_rfl))⟩
  f19 := Tryz.func310.trans (congrArg some (by kernel_rfl))
  f20 := Tryz.func311.trans (congrArg some (by kernel_rfl))
  f30 := ⟨Tryz.f320.name, by decide, Tryz.func320.trans (congrArg some (by kernel_rfl))⟩
  f31 := Tryz.func321.trans (congrArg some (by kernel_rfl))
  f32 := Tryz.func322.trans (congrArg some (by kernel_rfl))
  f33 := ⟨Tryz.f323.name, by decide, Tryz.func323.trans (congrArg some (by kernel_rfl))⟩
  f34 := ⟨Tryz.f324.name, by decide, Tryz.func324.trans (congrArg some (by kernel_rfl))⟩
  f35 := ⟨Tryz.f325.name, by decide, Tryz.func325.trans (congrArg some (by kernel_rfl))⟩
  f40 := ⟨Tryz.f328.name, by decide, Tryz.func328.trans (congrArg some (by kernel_rfl))⟩
  t0 := Tryz.underlying0
  a0 := Tryz.isAgg0
  z0 := Tryz.sizeOf0
  v0 := Tryz.zeroValue0
  t3 := Tryz.underlying3
  a3 := Tryz.isAgg3
  z3 := Tryz.sizeOf3
  v3 := Tryz.zeroValue3
  t4 := Tryz.underlying4
  a4 := Tryz.isAgg4
  z4 := Tryz.sizeOf4
  v4 := Tryz.zeroValue4
  t5 := Tryz.underlying5
  a5 := Tryz.isAgg5
  z5 := Tryz.sizeOf5
  v5 := Tryz.zeroValue5
  t9 := Tryz.underlying9
  a9 := Tryz.isAgg9
  z9 := Tryz.sizeOf9
  v9 := Tryz.zeroValue9
  t22 := Tryz.underlying41
  a22 := Tryz.isAgg41
  z22 := Tryz.sizeOf41
  v22 := Tryz.zeroValue41
  t23 := Tryz.underlying41
  a23 := Tryz.isAgg41
  z23 := Tryz.sizeOf41
  v23 := Tryz.zeroValue41
  t25 := Tryz.underlying3
  a25 := Tryz.isAgg3
  z25 := Tryz.sizeOf3
  v25 := Tryz.zeroValue3
  t32 := Tryz.underlying212
  a32 := Tryz.isAgg212
  z32 := Tryz.sizeOf212
  v32 := Tryz.zeroValue212
  t35 := Tryz.underlying266
  a35 := Tryz.isAgg266
  z35 := Tryz.sizeOf266
  v35 := Tryz.zeroValue266
  t36 := Tryz.underlying267
  a36 := Tryz.isAgg267
  z36 := Tryz.sizeOf267
  v36 := Tryz.zeroValue267
  t41 := Tryz.underlying68
  a41 := Tryz.isAgg68
  z41 := Tryz.sizeOf68
  v41 := Tryz.zeroValue68
  t44 := Tryz.underlying273
  a44 := Tryz.isAgg273
  z44 := Tryz.sizeOf273
  v44 := Tryz.zeroValue273
  t46 := Tryz.underlying227
  a46 := Tryz.isAgg227
  z46 := Tryz.sizeOf227
  v46 := Tryz.zeroValue227
  t53 := Tryz.underlying276
  a53 := Tryz.isAgg276
  z53 := Tryz.sizeOf276
  v53 := Tryz.zeroValue276
  t57 := Tryz.underlying280
  a57 := Tryz.isAgg280
  z57 := Tryz.sizeOf280
  v57 := Tryz.zeroValue280
  t63 := Tryz.underlying282
  a63 := Tryz.isAgg282
  z63 := Tryz.sizeOf282
  v63 := Tryz.zeroValue282
  t64 := Tryz.underlying94
  a64 := Tryz.isAgg94
  z64 := Tryz.sizeOf94
  v64 := Tryz.zeroValue94 }
end Go.Proofs
namespace Go.Proofs.YtkgdcgmbapchcaaGreatDoor.ca
open Go.ChangeShapes Go.WideShapes Go.ChangeAt Go.RowKit Go.Maps gen calls cls
set_option linter.unusedVariables false
set_option maxHeartbeats 4000000
set_option maxRecDepth 100000
section
variable {w w' : World} {c mb n : Nat} {m : List Ow} {D : DataW Unit}
def place (n : Nat) (t k : Int) : Bool := decide ((0 ≤ t ∧ t < n) ∧ 1 ≤ k ∧ k ≤ 4)
theorem cl_pos (k : Int) : 0 < cl k ↔ 1 ≤ k ∧ k ≤ 4 := by
  unfold cl
  repeat' split
  all_goals omega
theorem has_any (C : At w c mb n m D) (t k : Int) (hk : fits k = true) :
    Calls Tryz.prog 272 #[.pointer (some ⟨c, 0, none⟩), .agg #[.int .i64 t, .int .i64 k]] w fun e w' => e = .returned (.bool (place n t k)) ∧ w.grownBy w' none := by
  by_cases h0 : t < 0
  · have : place n t k = false := by unfold place; simp; omega
    rw [this]
    exact has_neg _ w h0
  by_cases h1 : t < n
  · have : place n t k = decide (0 < cl k) := by unfold place; simp [cl_pos]; omega
    rw [this]
    exact has_yes C (by omega) h1 hk
  · have : place n t k = false := by unfold place; simp; omega
    rw [this]
    exact has_out C (by omega) (by omega)
theorem Page_any (C : At w c mb n m D) (t k : Int) (ht : fits t = true) (hk : fits k = true) :
    Calls Tryz.prog 153 #[.pointer (some ⟨c, 0, none⟩), .int .i64 t, .int .i64 k] w fun e w' => e = .returned (.int .i64 (page m t k)) ∧ w.grownBy w' none := by
  have CC := Lib.hid C
  have KM := Lib.hid (key_mk ht hk)
  have fl := field_1 n mb
  by_cases hx : ∃ p, (t, k, p) ∈ m
  · have hb := (C.tells.has t k ht hk).2 hx
    obtain ⟨p, hp⟩ := hx
    have e1 : page m t k = p := page_in C.good hp
    have HB := Lib.hid hb
    have AT := Lib.hid (C.tells.at_ _ hp)
    rw [e1]
    clear C ht hk hb hp e1
    go_enter Tryz.func153, Tryz.ntmps153
    go_wp2_with (first
      | (go_at_call 218; (with_reducible refine (made_yes CC.out).mono ?_); rintro e w2 ⟨rfl, hg⟩; have G2 := Lib.hid hg; have C2 := Lib.hid (CC.out.new hg); clear hg)
      | (at_lookup; refine wpList_lookup_own_ok_int _ rfl _ _ 205 rfl 210 3 .i64 klaw Tryz.underlying205 Tryz.underlying3 (zeroE _) mb _ _ rfl C2.out.own _ _ rfl KM.out ?_; intro v hat hwv; rw [HB.out]; obtain rfl : v = p := by (rw [AT.out] at hat; simpa using hat.symm))
      | go_in)
    go_ret
    exact ⟨rfl, G2.out⟩
  · have hb : Maps.has D (kl t k) = false := by rw [← Bool.not_eq_true, C.tells.has t k ht hk]; exact hx
    have e1 : page m t k = -1 := page_no (fun p hp => hx ⟨p, hp⟩)
    have HB := Lib.hid hb
    rw [e1]
    clear C ht hk hb hx e1
    go_enter Tryz.func153, Tryz.ntmps153
    go_wp2_with (first
      | (go_at_call 218; (with_reducible refine (made_yes CC.out).mono ?_); rintro e w2 ⟨rfl, hg⟩; have G2 := Lib.hid hg; have C2 := Lib.hid (CC.out.new hg); clear hg)
      | (at_lookup; refine wpList_lookup_own_ok_int _ rfl _ _ 205 rfl 210 3 .i64 klaw Tryz.underlying205 Tryz.underlying3 (zeroE _) mb _ _ rfl C2.out.own _ _ rfl KM.out ?_; intro v hat hwv; rw [HB.out]; clear hat)
      | go_in)
    go_ret
    exact ⟨rfl, G2.out⟩
theorem met (T : Tells D m) {x : Int × Int} {z : Int} {l : Lit} {y : DataW Unit × List MemPlace} (hkey : keyOf Tryz.prog 210 (.agg #[.int .i64 x.1, .int .i64 x.2]) = some l) (hv : plainElem Tryz.prog 3 (.int .i64 z) = some y)
    (hat : ∀ zd, D.atKey l zd = y.1) : l = kl x.1 x.2 ∧ (x.1, x.2, z) ∈ m := by
  obtain ⟨t, k, e1, rfl, ft, fk⟩ := key_inv hkey
  obtain ⟨e2, e3⟩ : x.1 = t ∧ x.2 = k := by simpa using e1
  obtain ⟨z', e4, rfl, _⟩ := plainElem_int_inv Tryz.underlying3 hv
  obtain rfl : z = z' := by simpa using e4
  obtain ⟨q, hq⟩ := (T.has t k ft fk).1 (Maps.has_true_of_atKey hat)
  have h1 := T.at_ _ hq (.lit (.int .i64 0))
  rw [hat] at h1
  obtain rfl : z = q := by simpa using h1
  subst e2 e3
  exact ⟨rfl, hq⟩
theorem strike (G : Good n m) (hn : n ≤ 9) {left : Lit → Bool} {Q : Ow → Prop} (h : ∀ x ∈ m, left (kl x.1 x.2.1) = true ∨ Q x) {x : Ow} (hx : x ∈ m) (hq : Q x) : ∀ y ∈ m, (left (kl y.1 y.2.1) && !(kl y.1 y.2.1).sameKey (kl x.1 x.2.1)) = true ∨ Q y := fun y hy => by
  by_cases e : y = x
  · subst e; exact .inr hq
  · rcases h y hy with h1 | h1
    · refine .inl ?_
      have fx := G.fit hn hx
      have fy := G.fit hn hy
      have hne : kl y.1 y.2.1 ≠ kl x.1 x.2.1 := fun e2 => by
        have := kl_inj fy.1 fy.2.1 fx.1 fx.2.1 e2
        exact e (G.one hy hx this.1 this.2)
      rw [h1, Maps.sameKey_ne hne]
      rfl
    · exact .inr h1
theorem invK : ∀ key l, keyOf Tryz.prog 210 key = some l → ∃ x : Int × Int, key = .agg #[.int .i64 x.1, .int .i64 x.2] := fun key l h => by
  obtain ⟨t, k, e, _⟩ := key_inv h
  exact ⟨(t, k), e⟩
theorem invV : ∀ v (y : DataW Unit × List MemPlace), plainElem Tryz.prog 3 v = some y → ∃ z : Int, v = .int .i64 z := fun v y h => by
  obtain ⟨z, e, _⟩ := plainElem_int_inv Tryz.underlying3 h
  exact ⟨z, e⟩
theorem Owner_any (C : At w c mb n m D) (p : Int) :
    Calls Tryz.prog 261 #[.pointer (some ⟨c, 0, none⟩), .int .i64 p] w fun e w' => e = .returned (.tuple #[.int .i64 (owner m p).1, .int .i64 (owner m p).2]) ∧ w.grownBy w' none := by
  have CC := Lib.hid C
  have fl := field_1 n mb
  clear C
  go_enter Tryz.func261, Tryz.ntmps261
  go_wp2_with (first
    | (go_at_call 218; (with_reducible refine (made_yes CC.out).mono ?_); rintro e w2 ⟨rfl, hg⟩; have G2 := Lib.hid hg; have C2 := Lib.hid (CC.out.new hg); clear hg)
    | (at_range; refine wpList_range_own _ rfl _ 205 rfl 210 3 klaw Tryz.underlying205 _ mb _ _ rfl C2.out.own ?_; intro w3 hrg0 hg0 hs0)
    | go_in)
  go_frame
  go_loopw [6, 7] (fun _ _ wr => ∃ (left : Lit → Bool) (cnt : Nat), wr.ranges Tryz.prog 210 (plainElem Tryz.prog 3) mb w2.heap.size m.length D left cnt ∧ (∀ x ∈ m, left (kl x.1 x.2.1) = true ∨ x.2.2 ≠ p) ∧ w2.grownBy wr none)
    (fun _ _ wr => wr.rangeLeft mb w2.heap.size)
  case atStart => exact ⟨_, _, hrg0, fun x hx => .inl ((CC.out.tells.has x.1 x.2.1 (CC.out.good.fit CC.out.few hx).1 (CC.out.good.fit CC.out.few hx).2.1).2 ⟨_, hx⟩), hg0⟩
  case round =>
    obtain ⟨left, cnt, hrg, hm, hgw⟩ := hrel
    have HM := Lib.hid hm
    have GW := Lib.hid hgw
    clear hm hgw
    go_wp2_with (first
      | (at_next; refine wpList_next_ranges _ rfl _ rfl 210 klaw (plainElem Tryz.prog 3) (fun x : Int × Int => .agg #[.int .i64 x.1, .int .i64 x.2]) (Value.int .i64) invK invV mb w2.heap.size m.length _ _ _ rfl hrg ?_ ?_)
      | go_in)
    · intro hc0 hl0
      have e1 : owner m p = (-1, 0) := owner_no (fun x hx => (HM.out x hx).resolve_left (by rw [hl0]; simp))
      go_wp2
      go_ret2
      exact ⟨by rw [e1]; rfl, G2.out.trans GW.out⟩
    · intro x1 x2 z l yd yp w4 cnt2 hkey hlk hv hat hrg2 hlt hg2 hs2 hen
      obtain ⟨rfl, hx⟩ := met CC.out.tells (x := (x1, x2)) hkey hv hat
      have HX := Lib.hid hx
      have HR := Lib.hid hrg2
      have HR0 := Lib.hid hrg
      have G4 := Lib.hid (GW.out.andThen hg2 (fun j hj => by cases hj; exact .inl (Nat.le_refl _)))
      clear hs2 hkey hlk hv hat hx hrg2 hg2 hrg
      by_cases hz : z = p
      · subst hz
        have OW := Lib.hid (owner_in CC.out.good HX.out)
        have f0 := Two.new w4 x1 x2 210
        obtain ⟨u0, u1⟩ := f0
        go_wp2
        go_quiet (fail)
        go_wp2
        go_ret2
        exact ⟨by rw [OW.out]; rfl, G2.out.trans (G4.out.trans ((World.grownBy_alloc _ _ _).trans (grown_drewN _ _ _)))⟩
      · have t1 : (z == p) = false := by simpa using hz
        have ST := Lib.hid (strike (Q := fun x => x.2.2 ≠ p) CC.out.good CC.out.few HM.out (x := (x1, x2, z)) HX.out hz)
        go_wp2
        go_roundw
        case rel => exact ⟨_, cnt2, HR.out.alloc _, ST.out, G4.out.trans (World.grownBy_alloc _ _ _)⟩
        case measure => rw [(HR.out.alloc _).left_eq, HR0.out.left_eq]; exact hlt
end
end Go.Proofs.YtkgdcgmbapchcaaGreatDoor.ca
namespace Go.Proofs.YtkgdcgmbapchcaaGreatDoor.ca
open Go.ChangeShapes Go.WideShapes Go.ChangeAt Go.RowKit Go.Maps gen calls cls
set_option linter.unusedVariables false
set_option maxHeartbeats 4000000
set_option maxRecDepth 100000
section
variable {w w' : World} {c mb n : Nat} {m : List Ow} {D : DataW Unit}
def may (n : Nat) (m : List Ow) (t k p : Int) : Bool := place n t k && decide (0 ≤ p) && decide (p < 64) && decide ((owner m p).1 < 0)
def SetAns (c mb n : Nat) (m : List Ow) (w : World) (e : Ending) (w' : World) : Prop := ∃ D', e = .returned (.bool true) ∧ At w' c mb n m D' ∧ w.grownBy w' (some mb)
theorem Set_yes (C : At w c mb n m D) (t k p : Int) (ht : fits t = true) (hk : fits k = true) (h : place n t k = true) (hp : 0 ≤ p ∧ p < 64) (ho : (owner m p).1 = -1) :
    Calls Tryz.prog 226 #[.pointer (some ⟨c, 0, none⟩), .int .i64 t, .int .i64 k, .int .i64 p] w (SetAns c mb n (rest m t k ++ [(t, k, p)]) w) := by
  have G0 := Lib.hid (World.grownBy_alloc w (.cells #[.int .i64 t, .int .i64 k] 210) none)
  have T0 := Lib.hid (Two.new w t k 210)
  have HA := Lib.hid (has_any (C.new G0.out) t k hk)
  rw [h] at HA
  have CC := Lib.hid C
  have OW := Lib.hid (fun W (hg : w.grownBy W none) => Owner_any (C.new hg) p)
  have t1 : decide (p < 0) = false := by simp; omega
  have t2 : decide (64 ≤ p) = false := by simp; omega
  have KM := Lib.hid (key_mk ht hk)
  have pl : (0 ≤ t ∧ t < n) ∧ 1 ≤ k ∧ k ≤ 4 := by simpa [place] using h
  have free : ∀ x ∈ m, x.2.2 ≠ p := (owner_neg C.good p).1 (by omega)
  have GP := Lib.hid (C.good.put ⟨pl.1, pl.2, hp⟩ free)
  have TP := Lib.hid (C.tells.put C.good C.few C.tidy p ht hk (by omega))
  have FP : fits p = true := by rw [fits_iff]; omega
  have PL := Lib.hid (plainElem_int (H := Unit) Tryz.underlying3 (WalkArith.wf_i64 (fits_iff.mp FP)))
  have F9 := Lib.hid C.few
  have LM := Lib.hid (show m.length < maxLen by have := C.good.few; unfold maxLen; omega)
  generalize (owner m p).1 = o1 at OW ho
  generalize (owner m p).2 = o2 at OW
  subst ho
  clear C h hp pl free FP ht hk
  go_enter Tryz.func226, Tryz.ntmps226
  go_wp2_with (first
    | (go_at_call 272; (with_reducible refine HA.out.mono ?_); rintro e w2 ⟨rfl, hg⟩; have G2 := Lib.hid (G0.out.trans hg); have T2 := Lib.hid (T0.out.made hg); clear hg)
    | (go_at_call 261; (with_reducible refine (OW.out _ G2.out).mono ?_); rintro e w3 ⟨rfl, hg⟩; have G3 := Lib.hid (G2.out.trans hg); have T3 := Lib.hid (T2.out.made hg); have C3 := Lib.hid (CC.out.new (G2.out.trans hg)); obtain ⟨u0, u1⟩ := T3.out; have u2 := C3.out.c1; clear hg))
  go_still_tail 6, (by kernel_rfl)
  change wpList _ _ _ _ _ w3.drew
  have C4 := Lib.hid (C3.out.new (grown_drew w3 none))
  have G4 := Lib.hid (G3.out.trans (grown_drew w3 none))
  generalize w3.drew = w4 at C4 G4 ⊢
  clear u0 u1 u2
  go_wp2_with (first
    | (at_mapUpdate; refine wpList_mapUpdate_own _ rfl _ _ _ 205 rfl 210 3 klaw Tryz.underlying205 _ mb m.length _ rfl C4.out.own LM.out _ _ _ rfl rfl KM.out _ [] PL.out ?_; intro w5 hown1 hgrow1; have O5 := Lib.hid hown1; have G5 := Lib.hid hgrow1; clear hown1 hgrow1)
    | go_in)
  go_ret
  have O6 := own_tight O5.out
  rw [TP.out.size] at O6
  exact ⟨_, rfl, ⟨(G5.out.block c C4.out.lt.1 (fun e => C4.out.ne (by simpa using e.symm))).trans C4.out.box, O6, TP.out, GP.out, F9.out⟩, (G4.out.but _).trans G5.out⟩
theorem owner_neg1 (C : At w c mb n m D) (p : Int) : (owner m p).1 < 0 ↔ (owner m p).1 = -1 := by
  constructor
  · intro h
    rw [owner_no ((owner_neg C.good p).1 h)]
  · intro h
    omega
theorem Set_may (C : At w c mb n m D) (t k p : Int) (ht : fits t = true) (hk : fits k = true) (h : may n m t k p = true) :
    Calls Tryz.prog 226 #[.pointer (some ⟨c, 0, none⟩), .int .i64 t, .int .i64 k, .int .i64 p] w (SetAns c mb n (rest m t k ++ [(t, k, p)]) w) := by
  simp [may] at h
  exact Set_yes C t k p ht hk h.1.1.1 ⟨h.1.1.2, h.1.2⟩ ((owner_neg1 C p).1 h.2)
end
end Go.Proofs.YtkgdcgmbapchcaaGreatDoor.ca
namespace Go.Proofs.YtkgdcgmbapchcaaGreatDoor.ca
open Go.ChangeShapes Go.WideShapes Go.ChangeAt Go.RowKit Go.Maps gen calls cls Go.Sort
set_option linter.unusedVariables false
set_option maxHeartbeats 4000000
set_option maxRecDepth 100000
def srt (xs : List Int) : List Int := xs.mergeSort fun x y => decide (x ≤ y)
theorem srt_perm (xs : List Int) : (srt xs).Perm xs := List.mergeSort_perm _ _
theorem srt_length (xs : List Int) : (srt xs).length = xs.length := (srt_perm xs).length_eq
theorem srt_rising {xs ys : List Int} (h : xs.Perm ys) (hd : xs.Nodup) : srt xs = bm.rising ys := by
  have h1 : (srt xs).Pairwise (fun x y => decide (x ≤ y) = true) := List.pairwise_mergeSort (fun a b c => by simp; omega) (fun a b => by simp; omega) xs
  have h2 : (srt xs).Nodup := (srt_perm xs).nodup_iff.2 hd
  have h3 : (srt xs).Pairwise (· < ·) := (h1.and h2).imp (fun {a b} ⟨e1, e2⟩ => by simp at e1; omega)
  refine bm.up_eq h3 (bm.rising_up _) (fun z => ?_)
  rw [(srt_perm xs).mem_iff, bm.mem_rising, h.mem_iff]
theorem Sort_any {w : World} {base n c : Nat} {A : Option Addr} {zs : List Int} (ho : w.ownsRow base 3 1 (.slice A n c) n (bm.ints zs)) (hn : zs.length = n) (hs : n < 4611686018427387904) :
    Calls Tryz.prog 229 #[.slice A n c] w fun e w' => e = .returned (.tuple #[]) ∧ w'.ownsRow base 3 1 (.slice A n c) n (bm.ints (srt zs)) ∧ w.grownBy w' (Value.slice A n c).ownBlock := by
  subst hn
  rcases ho.2 with ⟨e1, hz⟩ | ⟨g, cap, cur, e1, hbase, hg, r1, r2, r3, r4⟩
  · obtain rfl : zs = [] := List.eq_nil_of_length_eq_zero hz
    refine (AnyM.slices_Sort_int_none Tryz.sort A c w).mono fun e w' ⟨h1, h2⟩ => ?_
    subst h2
    exact ⟨h1, by rw [show srt [] = [] by simp [srt]]; exact ho, World.grownBy.refl _ _⟩
  · obtain ⟨rfl, rfl⟩ : A = some ⟨g, 0, none⟩ ∧ c = cap := by simpa using e1
    have hH : Holds encZ w g 0 zs.toArray := holds_of_block_i hg (by simpa [bm.ints] using r4)
    have hgl : g < w.heap.size := (Array.getElem?_eq_some_iff.1 hg).1
    refine (AnyM.slices_Sort_int Tryz.sort g 0 c zs w hH hgl hs).mono fun e w' ⟨h1, n', os, h2⟩ => ?_
    subst h2
    exact ⟨h1, ownsRow_sorted_i (by simp) hbase hg r1 r2 r3, grownBy_sorted_i _⟩
theorem own_off {w : World} {base n k : Nat} {v : Value} {xs : List Value} {o : Obj} (ho : w.ownsRow base 3 1 v n xs) (hk : w.heap[k]? = some o) (hn : ∀ cs t z, o ≠ .cells cs t z) : some k ≠ v.ownBlock := fun e => by
  rcases ho.2 with ⟨rfl, _⟩ | ⟨g, cap, cur, rfl, _, hg, _⟩
  · cases e
  · injection e with e
    subst e
    rw [hg] at hk
    injection hk with hk
    exact hn _ _ _ hk.symm
section
variable {w w' : World} {c mb n r N : Nat} {m gs : List Ow} {D : DataW Unit} {left : Lit → Bool} {cnt : Nat}
theorem ranges_off {base k : Nat} {v : Value} {xs : List Value} (h : w.ranges Tryz.prog 210 (plainElem Tryz.prog 3) mb r N D left cnt) (ho : w.ownsRow base 3 1 v k xs) : some mb ≠ v.ownBlock ∧ some r ≠ v.ownBlock := by
  obtain ⟨es, clock, since, seen, c0, hb, _, _, _, hr, _⟩ := h
  exact ⟨own_off ho hb (fun _ _ _ e => by cases e), own_off ho hr (fun _ _ _ e => by cases e)⟩
structure Part (m : List Ow) (t : Int) (left : Lit → Bool) (gs : List Ow) : Prop where
  nodup : gs.Nodup
  sub : ∀ x ∈ gs, x ∈ m ∧ x.1 = t
  all : ∀ x ∈ m, left (kl x.1 x.2.1) = true ∨ (x.1 ≠ t ∨ x ∈ gs)
theorem Part.stay {t : Int} (P : Part m t left gs) (G : Good n m) (hn : n ≤ 9) {x : Ow} (hx : x ∈ m) (ht : x.1 ≠ t) : Part m t (fun z => left z && !z.sameKey (kl x.1 x.2.1)) gs :=
  ⟨P.nodup, P.sub, strike (Q := fun x => x.1 ≠ t ∨ x ∈ gs) G hn P.all hx (.inl ht)⟩
theorem Part.take {t : Int} (P : Part m t left gs) (G : Good n m) (hn : n ≤ 9) {x : Ow} (hx : x ∈ m) (hg : x ∉ gs) (ht : x.1 = t) : Part m t (fun z => left z && !z.sameKey (kl x.1 x.2.1)) (gs ++ [x]) := by
  refine ⟨?_, fun y hy => ?_, strike (Q := fun x => x.1 ≠ t ∨ x ∈ gs ++ _) G hn (fun y hy => ?_) hx (.inr (by simp))⟩
  · rw [List.nodup_append]
    refine ⟨P.nodup, by simp, fun a ha b hb e => ?_⟩
    simp at hb
    subst e hb
    exact hg ha
  · rcases List.mem_append.1 hy with hy | hy
    · exact P.sub y hy
    · simp at hy
      subst hy
      exact ⟨hx, ht⟩
  · rcases P.all y hy with h | h | h
    · exact .inl h
    · exact .inr (.inl h)
    · exact .inr (.inr (List.mem_append.2 (.inl h)))
def less (m gs : List Ow) : List Ow := m.filter fun x => decide (x ∉ gs)
theorem less_nil (m : List Ow) : less m [] = m := by
  unfold less
  exact List.filter_eq_self.2 (fun x _ => by simp)
theorem less_more (m gs : List Ow) (x : Ow) : (less m gs).filter (fun y => decide (y ≠ x)) = less m (gs ++ [x]) := by
  unfold less
  rw [List.filter_filter]
  refine List.filter_congr fun y hy => ?_
  by_cases h1 : y = x <;> by_cases h2 : y ∈ gs <;> simp [h1, h2]
  all_goals (subst h1; simp [h2])
theorem hit0 (t : Int) (x : Ow) : hit t 0 x = (x.1 == t) := by simp [hit]
theorem Part.less {t : Int} (P : Part m t left gs) (hl : ∀ l, left l = false) : less m gs = rest m t 0 := by
  unfold ca.less rest
  refine List.filter_congr fun x hx => ?_
  rw [hit0]
  by_cases h1 : x ∈ gs
  · have := (P.sub x h1).2
    simp [h1, this]
  · have := (P.all x hx).resolve_left (by rw [hl]; simp)
    have h2 := this.resolve_right h1
    simp [h1, h2]
theorem Part.perm {t : Int} (P : Part m t left gs) (G : Good n m) (hl : ∀ l, left l = false) : (gs.map (·.2.2)).Perm (gone m t 0) := by
  have nd : m.Nodup := G.keys.imp (fun {a b} h e => h (by subst e; exact ⟨rfl, rfl⟩))
  refine List.Perm.map _ ((List.perm_ext_iff_of_nodup P.nodup (nd.filter _)).2 fun x => ?_)
  rw [List.mem_filter, hit0]
  constructor
  · intro h
    exact ⟨(P.sub x h).1, by simpa using (P.sub x h).2⟩
  · intro ⟨hx, h⟩
    exact ((P.all x hx).resolve_left (by rw [hl]; simp)).resolve_left (fun e => e (by simpa using h))
theorem gone_nodup (G : Good n m) (t k : Int) : (gone m t k).Nodup := List.pairwise_map.2 (G.pages.filter _)
def DropAns (c mb n : Nat) (m : List Ow) (t : Int) (w : World) (e : Ending) (w' : World) : Prop :=
  ∃ A k L D', e = .returned (.slice A L k) ∧ L = (bm.rising (gone m t 0)).length ∧ w'.ownsRow w.heap.size 3 1 (.slice A L k) L (bm.ints (bm.rising (gone m t 0))) ∧ At w' c mb n (rest m t 0) D' ∧ w.grownBy w' (some mb)
theorem Drop_any (C : At w c mb n m D) (t : Int) :
    Calls Tryz.prog 162 #[.pointer (some ⟨c, 0, none⟩), .int .i64 t] w (DropAns c mb n m t w) := by
  have CC := Lib.hid C
  have fl := field_1 n mb
  obtain ⟨i0, hi, hz0, hz1, hz2⟩ := info_parts bm.info_int
  have E : Hid (i0.zero = some (.int .i64 0) ∧ i0.size = 1 ∧ i0.bytes = 8 ∧ Tryz.prog.info? 3 = some i0) := ⟨hz0, hz1, hz2, hi⟩
  clear C hi hz0 hz1 hz2
  go_enter Tryz.func162, Tryz.ntmps162
  go_wp2_with (first
    | (go_at_call 218; (with_reducible refine (made_yes CC.out).mono ?_); rintro e w2 ⟨rfl, hg⟩; have G2 := Lib.hid hg; have C2 := Lib.hid (CC.out.new hg); clear hg)
    | (at_range; refine wpList_range_own _ rfl _ 205 rfl 210 3 klaw Tryz.underlying205 _ mb _ _ rfl C2.out.own ?_; intro w3 hrg0 hg0 hs0)
    | go_in)
  go_frame
  go_loopw [5, 7, 8] (fun v _ _ wr => ∃ (left : Lit → Bool) (cnt : Nat) (gs : List Ow) (D' : DataW Unit) (A' : Option Addr) (k c' : Nat), v = .slice A' k c' ∧ k = gs.length ∧ wr.ranges Tryz.prog 210 (plainElem Tryz.prog 3) mb w2.heap.size m.length D' left cnt ∧
      Part m t left gs ∧ Tells D' (less m gs) ∧ wr.ownsRow w2.heap.size 3 1 (.slice A' k c') k (bm.ints (gs.map (·.2.2))) ∧ w2.grownBy wr (some mb))
    (fun _ _ _ wr => wr.rangeLeft mb w2.heap.size)
  case atStart => exact ⟨_, _, [], D, none, 0, 0, rfl, rfl, hrg0, ⟨.nil, fun x hx => by simp at hx, fun x hx => .inl ((CC.out.tells.has x.1 x.2.1 (CC.out.good.fit CC.out.few hx).1 (CC.out.good.fit CC.out.few hx).2.1).2 ⟨_, hx⟩)⟩, by rw [less_nil]; exact CC.out.tells, World.ownsRow_nil _ _ _ _, hg0.but _⟩
  case round =>
    obtain ⟨left, cnt, gs, D', A', k, c', rfl, hk, hrg, hp, ht, ho, hgw⟩ := hrel
    have HP := Lib.hid hp
    have HT := Lib.hid ht
    have HO := Lib.hid ho
    have GW := Lib.hid hgw
    have HK := Lib.hid hk
    clear hp ht ho hgw hk
    go_wp2_with (first
      | (at_next; refine wpList_next_ranges _ rfl _ rfl 210 klaw (plainElem Tryz.prog 3) (fun x : Int × Int => .agg #[.int .i64 x.1, .int .i64 x.2]) (Value.int .i64) invK invV mb w2.heap.size m.length _ _ _ rfl hrg ?_ ?_)
      | go_in)
    · intro hc0 hl0
      have HR := Lib.hid hrg
      have HL := Lib.hid hl0
      have KL := Lib.hid (show k < 4611686018427387904 by have := HK.out; have h1 := (HP.out.perm CC.out.good HL.out).length_eq; have h2 := CC.out.good.few; unfold gone at h1; have h3 := List.length_filter_le (hit t 0) m; simp only [List.length_map] at h1; omega)
      clear hrg hl0
      go_wp2_with (first
        | (go_at_call 229; (with_reducible refine (Sort_any HO.out (by rw [List.length_map]; exact HK.out.symm) KL.out).mono ?_); rintro e w5 ⟨rfl, ho, hg⟩; have O5 := Lib.hid ho; have G5 := Lib.hid hg; clear ho hg))
      go_ret
      have pm := HP.out.perm CC.out.good HL.out
      have sr : srt (gs.map (·.2.2)) = bm.rising (gone m t 0) := srt_rising pm (pm.nodup_iff.2 (gone_nodup CC.out.good t 0))
      have off := ranges_off HR.out HO.out
      have O6 := own_tight (HR.out.owns.kept G5.out off.1)
      have T6 := HT.out
      rw [HP.out.less HL.out] at T6
      rw [T6.size] at O6
      have o5 := bm.own_mono O5.out G2.out.size
      rw [sr] at o5
      have lc := C2.out.lt.1
      have c1 : some c ≠ some mb := fun e => C2.out.ne (by simpa using e.symm)
      have c2 : some c ≠ (Value.slice A' k c').ownBlock := fun e => by have := (HO.out.lt c e.symm).1; omega
      refine ⟨A', c', k, D', rfl, ?_, o5, ⟨(G5.out.block c (Nat.lt_of_lt_of_le lc GW.out.size) c2).trans ((GW.out.block c lc c1).trans C2.out.box), O6, T6, CC.out.good.filter _, CC.out.few⟩, ((G2.out.but _).trans GW.out).andThen G5.out (fun j hj => .inl (Nat.le_trans G2.out.size (HO.out.lt j hj).1))⟩
      rw [HK.out, ← sr, srt_length, List.length_map]
    · intro x1 x2 z l yd yp w4 cnt2 hkey hlk hv hat hrg2 hlt hg2 hs2 hen
      obtain ⟨rfl, hx⟩ := met HT.out (x := (x1, x2)) hkey hv hat
      obtain ⟨hx1, hx2⟩ : (x1, x2, z) ∈ m ∧ (x1, x2, z) ∉ gs := by have := List.mem_filter.1 hx; exact ⟨this.1, by simpa using this.2⟩
      have X1 := Lib.hid hx1
      have X2 := Lib.hid hx2
      have XX := Lib.hid hx
      have HR0 := Lib.hid hrg
      have HR := Lib.hid hrg2
      have G4 := Lib.hid (GW.out.andThen hg2 (fun j hj => by cases hj; exact .inl (Nat.le_refl _)))
      have O4 := Lib.hid (HO.out.kept hg2 (.inr (ranges_off hrg HO.out).2.symm))
      have S4 := Lib.hid (show w2.heap.size ≤ w4.heap.size from Nat.le_trans GW.out.size hg2.size)
      have T0 := Lib.hid (Two.new w4 x1 x2 210)
      have KM := Lib.hid hkey
      have FEW := Lib.hid (show k ≤ 64 by have h1 := CC.out.good.few; have h2 := pigeon 64 (gs.map (·.2.2)) (List.pairwise_map.2 (HP.out.nodup.imp_of_mem (fun {a b} ha hb hne e => hne (CC.out.good.one' (HP.out.sub a ha).1 (HP.out.sub b hb).1 e)))) (fun y hy => by obtain ⟨a, ha, rfl⟩ := List.mem_map.1 hy; have := CC.out.good.bnd a (HP.out.sub a ha).1; omega); rw [List.length_map] at h2; rw [HK.out]; exact h2)
      clear hs2 hkey hlk hv hat hx hrg2 hg2 hrg hx1 hx2
      by_cases hz : x1 = t
      · subst hz
        have NE := Lib.hid (show some w4.heap.size ≠ (Value.slice A' k c').ownBlock from fun e => by have := (O4.out.lt _ e.symm).2; omega)
        have OFF := Lib.hid (ranges_off HR.out O4.out)
        have T7 := Lib.hid (HT.out.del (CC.out.good.filter _) CC.out.few (HR.out.owns.tidy klaw) XX.out)
        rw [show ((less m gs).filter fun y => decide (y ≠ (x1, x2, z))) = less m (gs ++ [(x1, x2, z)]) from less_more m gs _] at T7
        have P4 := Lib.hid (HP.out.take CC.out.good CC.out.few (x := (x1, x2, z)) X1.out X2.out rfl)
        go_wp2_with (first
          | (refine wpList_append_rd rfl (.tmp 23) (.tmp 25) 41 rfl w2.heap.size 3 i0 (.int .i64 0) 8 Tryz.underlying41 E.out.2.2.2 E.out.1 E.out.2.1 E.out.2.2.1 rfl _ k (gs.map (·.2.2)) rfl ((O4.out.alloc _).alloc _) (some ⟨w4.heap.size + 1, 0, none⟩) 1 1 _ [z] rfl (li.Rd.one_at _ _ _ (by simp)) (by unfold maxLen; have := FEW.out; omega) (by have := FEW.out; omega) (by have := S4.out; simp; omega) ?_; intro A3 c3 w6 own1 rd1 gr1; have O6 := Lib.hid own1; obtain ⟨v0, v1⟩ := (T0.out.made (World.grownBy_alloc _ _ none)).kept gr1 NE.out; have HR6 := Lib.hid (((HR.out.alloc _).alloc _).kept gr1 OFF.out.1 OFF.out.2); have G6 := Lib.hid (((G4.out.trans (World.grownBy_alloc _ _ _)).trans (World.grownBy_alloc _ _ _)).andThen gr1 (fun j hj => .inl (O4.out.lt j hj).1)); clear own1 gr1 rd1)
          | (at_delete; refine wpList_delete_ranges _ rfl _ _ 205 210 rfl 3 klaw Tryz.underlying205 _ mb w2.heap.size _ _ _ _ rfl HR6.out _ _ rfl KM.out ?_; intro w7 cnt7 hrg7 hle7 hturn7; rw [strike_twice] at hrg7; have HR7 := Lib.hid hrg7; have LE7 := Lib.hid hle7; have TU7 := Lib.hid hturn7; clear hrg7 hle7 hturn7; go_frame)
          | go_in)
        go_roundw
        case rel => exact ⟨_, cnt7, gs ++ [(x1, x2, z)], _, A3, k + 1, c3, rfl, by rw [List.length_append, ← HK.out]; rfl, HR7.out, P4.out, T7.out, by rw [List.map_append]; exact O6.out.kept TU7.out.grown (.inr (ranges_off HR6.out O6.out).1.symm), G6.out.trans TU7.out.grown⟩
        case measure => rw [HR7.out.left_eq, HR0.out.left_eq]; have := LE7.out; omega
      · have t1 : (x1 == t) = false := by simpa using hz
        have ST := Lib.hid (HP.out.stay CC.out.good CC.out.few (x := (x1, x2, z)) X1.out hz)
        go_wp2
        go_roundw
        case rel => exact ⟨_, cnt2, gs, D', A', k, c', rfl, HK.out, HR.out.alloc _, ST.out, HT.out, O4.out.alloc _, G4.out.trans (World.grownBy_alloc _ _ _)⟩
        case measure => rw [(HR.out.alloc _).left_eq, HR0.out.left_eq]; exact hlt
end
end Go.Proofs.YtkgdcgmbapchcaaGreatDoor.ca
