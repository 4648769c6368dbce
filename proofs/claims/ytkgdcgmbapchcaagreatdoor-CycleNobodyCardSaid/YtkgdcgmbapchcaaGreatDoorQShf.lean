/- Texts that this claim stands on. -/
import Derived.Shelf.SlGeneric
import Derived.Shelf.SortM.Plain
import Derived.Shelf.SortM.SortNone
import Derived.Ground.SlgmProg
import Derived.Test.YtkgdcgmbapchcaaGreatDoorProg
import Derived.StillTailTactics
import Derived.Lib.SlKeysI
import Derived.Test.YtkgdcgmbapchcaaGreatDoorQCaX
import Derived.Test.YtkgdcgmbapchcaaGreatDoorQGnQ
namespace Go.Proofs
open Go.Shelf
def Tryz.sort_ren : Go.Shelf.Ren := ⟨fun | 5 => 229 | 8 => 275 | 7 => 274 | 19 => 310 | 20 => 311 | 10 => 301 | 11 => 302 | 12 => 303 | 13 => 304 | 14 => 305 | 15 => 306 | 16 => 307 | 17 => 308 | 18 => 309 | 30 => 320 | 31 => 321 | 32 => 322 | 33 => 323 | 34 => 324 | 35 => 325 | 40 => 328 | n => n, fun | 23 => 41 | 25 => 3 | 3 => 3 | 32 => 212 | 22 => 41 | 0 => 0 | 44 => 273 | 46 => 227 | 4 => 4 | 36 => 267 | 35 => 266 | 41 => 68 | 5 => 5 | 9 => 9 | 53 => 276 | 57 => 280 | 63 => 282 | 64 => 94 | n => n, fun | n => n⟩
theorem Tryz.sort : Go.Proofs.SlLaysM.n5 Tryz.prog Tryz.sort_ren := {
  mixed := by kernel_rfl
  f5 := ⟨Tryz.f229.name, by decide, Tryz.func229.trans (congrArg some (by kernel_rfl))⟩
  f7 := ⟨Tryz.f274.name, by decide, Tryz.func274.trans (congrArg some (by kernel_rfl))⟩
  f8 := Tryz.func275.trans (congrArg some (by kernel_rfl))
  f10 := ⟨Tryz.f301.name, by decide, Tryz.func301.trans (congrArg some (by kernel_rfl))⟩
  f11 := ⟨Tryz.f302.name, by decide, Tryz.func302.trans (congrArg some (by kernel_rfl))⟩
  f12 := ⟨Tryz.f303.name, by decide, Tryz.func303.trans (congrArg some (by kernel_rfl))⟩
  f13 := ⟨Tryz.f304.name, by decide, Tryz.func304.trans (congrArg some (by kernel_rfl))⟩
  f14 := ⟨Tryz.f305.name, by decide, Tryz.func305.trans (congrArg some (by kernel_rfl))⟩
  f15 := ⟨Tryz.f306.name, by decide, Tryz.func306.trans (congrArg some (by kernel_rfl))⟩
  f16 := ⟨Tryz.f307.name, by decide, Tryz.func307.trans (congrArg some (by kernel_rfl))⟩
  f17 := ⟨Tryz.f308.name, by decide, Tryz.func308.trans (congrArg some (by kernel_rfl))⟩
  f18 := ⟨Tryz.f309.name, by decide, Tryz.func309.trans (congrArg some (by kernel_rfl))⟩
  f19 := Tryz.func310.trans (congrArg some (by kernel_rfl))
  f20 := Tryz.func311.trans (congrArg some (by kernel_rfl))
  f30 := ⟨Tryz.f320.name, by decide, Tryz.func320.trans (congrArg some (by kernel_rfl))⟩
  f31 := Tryz.func321.trans (congrArg some (by kernel_rfl))
  f32 := Tryz.func322.trans (congrArg some (by kernel_rfl))
  f33 := ⟨Tryz.f323.name, by decide, Tryz.func323.trans (congrArg some (by kernel_rfl))⟩
  f34 := ⟨Tryz.f324.name, by decide, Tryz.func324.trans (congrArg some (by kernel_rfl))⟩
  f35 := ⟨Tryz.f325.name, by decide, Tryz.func325.trans (congrArg some (by kernel_rfl))⟩
  f40 := ⟨Tryz.f328.name, by decide, Tryz.func328.trans (congrArg some (by kernel_rfl))⟩
  t0 := Tryz.underlying0
  a0 := Tryz.isAgg0
  z0 := Tryz.sizeOf0
  v0 := Tryz.zeroValue0
  t3 := Tryz.underlying3
  a3 := Tryz.isAgg3
  z3 := Tryz.sizeOf3
  v3 := Tryz.zeroValue3
  t4 := Tryz.underlying4
  a4 := Tryz.isAgg4
  z4 := Tryz.sizeOf4
  v4 := Tryz.zeroValue4
  t5 := Tryz.underlying5
  a5 := Tryz.isAgg5
  z5 := Tryz.sizeOf5
  v5 := Tryz.zeroValue5
  t9 := Tryz.underlying9
  a9 := Tryz.isAgg9
  z9 := Tryz.sizeOf9
  v9 := Tryz.zeroValue9
  t22 := Tryz.underlying41
  a22 := Tryz.isAgg41
  z22 := Tryz.sizeOf41
  v22 := Tryz.zeroValue41
  t23 := Tryz.underlying41
  a23 := Tryz.isAgg41
  z23 := Tryz.sizeOf41
  v23 := Tryz.zeroValue41
  t25 := Tryz.underlying3
  a25 := Tryz.isAgg3
  z25 := Tryz.sizeOf3
  v25 := Tryz.zeroValue3
  t32 := Tryz.underlying212
  a32 := Tryz.isAgg212
  z32 := Tryz.sizeOf212
  v32 := Tryz.zeroValue212
  t35 := Tryz.underlying266
  a35 := Tryz.isAgg266
  z35 := Tryz.sizeOf266
  v35 := Tryz.zeroValue266
  t36 := Tryz.underlying267
  a36 := Tryz.isAgg267
  z36 := Tryz.sizeOf267
  v36 := Tryz.zeroValue267
  t41 := Tryz.underlying68
  a41 := Tryz.isAgg68
  z41 := Tryz.sizeOf68
  v41 := Tryz.zeroValue68
  t44 := Tryz.underlying273
  a44 := Tryz.isAgg273
  z44 := Tryz.sizeOf273
  v44 := Tryz.zeroValue273
  t46 := Tryz.underlying227
  a46 := Tryz.isAgg227
  z46 := Tryz.sizeOf227
  v46 := Tryz.zeroValue227
  t53 := Tryz.underlying276
  a53 := Tryz.isAgg276
  z53 := Tryz.sizeOf276
  v53 := Tryz.zeroValue276
  t57 := Tryz.underlying280
  a57 := Tryz.isAgg280
  z57 := Tryz.sizeOf280
  v57 := Tryz.zeroValue280
  t63 := Tryz.underlying282
  a63 := Tryz.isAgg282
  z63 := Tryz.sizeOf282
  v63 := Tryz.zeroValue282
  t64 := Tryz.underlying94
  a64 := Tryz.isAgg94
  z64 := Tryz.sizeOf94
  v64 := Tryz.zeroValue94 }
end Go.Proofs
namespace Go.Proofs.YtkgdcgmbapchcaaGreatDoor.ca
open Go.ChangeShapes Go.WideShapes Go.ChangeAt Go.RowKit Go.Maps gen calls cls
set_option linter.unusedVariables false
set_option maxHeartbeats 4000000
set_option maxRecDepth 100000
section
variable {w w' : World} {c mb n : Nat} {m : List Ow} {D : DataW Unit}
def place (n : Nat) (t k : Int) : Bool := decide ((0 ≤ t ∧ t < n) ∧ 1 ≤ k ∧ k ≤ 4)
theorem cl_pos (k : Int) : 0 < cl k ↔ 1 ≤ k ∧ k ≤ 4 := by
  unfold cl
  repeat' split
  all_goals omega
theorem has_any (C : At w c mb n m D) (t k : Int) (hk : fits k = true) :
    Calls Tryz.prog 272 #[.pointer (some ⟨c, 0, none⟩), .agg #[.int .i64 t, .int .i64 k]] w fun e w' => e = .returned (.bool (place n t k)) ∧ w.grownBy w' none := by
  by_cases h0 : t < 0
  · have : place n t k = false := by unfold place; simp; omega
    rw [this]
    exact has_neg _ w h0
  by_cases h1 : t < n
  · have : place n t k = decide (0 < cl k) := by unfold place; simp [cl_pos]; omega
    rw [this]
    exact has_yes C (by omega) h1 hk
  · have : place n t k = false := by unfold place; simp; omega
    rw [this]
    exact has_out C (by omega) (by omega)
theorem Page_any (C : At w c mb n m D) (t k : Int) (ht : fits t = true) (hk : fits k = true) :
    Calls Tryz.prog 153 #[.pointer (some ⟨c, 0, none⟩), .int .i64 t, .int .i64 k] w fun e w' => e = .returned (.int .i64 (page m t k)) ∧ w.grownBy w' none := by
  have CC := Lib.hid C
  have KM := Lib.hid (key_mk ht hk)
  have fl := field_1 n mb
  by_cases hx : ∃ p, (t, k, p) ∈ m
  · have hb := (C.tells.has t k ht hk).2 hx
    obtain ⟨p, hp⟩ := hx
    have e1 : page m t k = p := page_in C.good hp
    have HB := Lib.hid hb
    have AT := Lib.hid (C.tells.at_ _ hp)
    rw [e1]
    clear C ht hk hb hp e1
    go_enter Tryz.func153, Tryz.ntmps153
    go_wp2_with (first
      | (go_at_call 218; (with_reducible refine (made_yes CC.out).mono ?_); rintro e w2 ⟨rfl, hg⟩; have G2 := Lib.hid hg; have C2 := Lib.hid (CC.out.new hg); clear hg)
      | (at_lookup; refine wpList_lookup_own_ok_int _ rfl _ _ 205 rfl 210 3 .i64 klaw Tryz.underlying205 Tryz.underlying3 (zeroE _) mb _ _ rfl C2.out.own _ _ rfl KM.out ?_; intro v hat hwv; rw [HB.out]; obtain rfl : v = p := by (rw [AT.out] at hat; simpa using hat.symm))
      | go_in)
    go_ret
    exact ⟨rfl, G2.out⟩
  · have hb : Maps.has D (kl t k) = false := by rw [← Bool.not_eq_true, C.tells.has t k ht hk]; exact hx
    have e1 : page m t k = -1 := page_no (fun p hp => hx ⟨p, hp⟩)
    have HB := Lib.hid hb
    rw [e1]
    clear C ht hk hb hx e1
    go_enter Tryz.func153, Tryz.ntmps153
    go_wp2_with (first
      | (go_at_call 218; (with_reducible refine (made_yes CC.out).mono ?_); rintro e w2 ⟨rfl, hg⟩; have G2 := Lib.hid hg; have C2 := Lib.hid (CC.out.new hg); clear hg)
      | (at_lookup; refine wpList_lookup_own_ok_int _ rfl _ _ 205 rfl 210 3 .i64 klaw Tryz.underlying205 Tryz.underlying3 (zeroE _) mb _ _ rfl C2.out.own _ _ rfl KM.out ?_; intro v hat hwv; rw [HB.out]; clear hat)
      | go_in)
    go_ret
    exact ⟨rfl, G2.out⟩
theorem met (T : Tells D m) {x : Int × Int} {z : Int} {l : Lit} {y : DataW Unit × List MemPlace} (hkey : keyOf Tryz.prog 210 (.agg #[.int .i64 x.1, .int .i64 x.2]) = some l) (hv : plainElem Tryz.prog 3 (.int .i64 z) = some y)
    (hat : ∀ zd, D.atKey l zd = y.1) : l = kl x.1 x.2 ∧ (x.1, x.2, z) ∈ m := by
  obtain ⟨t, k, e1, rfl, ft, fk⟩ := key_inv hkey
  obtain ⟨e2, e3⟩ : x.1 = t ∧ x.2 = k := by simpa using e1
  obtain ⟨z', e4, rfl, _⟩ := plainElem_int_inv Tryz.underlying3 hv
  obtain rfl : z = z' := by simpa using e4
  obtain ⟨q, hq⟩ := (T.has t k ft fk).1 (Maps.has_true_of_atKey hat)
  have h1 := T.at_ _ hq (.lit (.int .i64 0))
  rw [hat] at h1
  obtain rfl : z = q := by simpa using h1
  subst e2 e3
  exact ⟨rfl, hq⟩
theorem strike (G : Good n m) (hn : n ≤ 9) {left : Lit → Bool} {Q : Ow → Prop} (h : ∀ x ∈ m, left (kl x.1 x.2.1) = true ∨ Q x) {x : Ow} (hx : x ∈ m) (hq : Q x) : ∀ y ∈ m, (left (kl y.1 y.2.1) && !(kl y.1 y.2.1).sameKey (kl x.1 x.2.1)) = true ∨ Q y := fun y hy => by
  by_cases e : y = x
  · subst e; exact .inr hq
  · rcases h y hy with h1 | h1
    · refine .inl ?_
      have fx := G.fit hn hx
      have fy := G.fit hn hy
      have hne : kl y.1 y.2.1 ≠ kl x.1 x.2.1 := fun e2 => by
        have := kl_inj fy.1 fy.2.1 fx.1 fx.2.1 e2
        exact e (G.one hy hx this.1 this.2)
      rw [h1, Maps.sameKey_ne hne]
      rfl
    · exact .inr h1
theorem invK : ∀ key l, keyOf Tryz.prog 210 key = some l → ∃ x : Int × Int, key = .agg #[.int .i64 x.1, .int .i64 x.2] := fun key l h => by
  obtain ⟨t, k, e, _⟩ := key_inv h
  exact ⟨(t, k), e⟩
theorem invV : ∀ v (y : DataW Unit × List MemPlace), plainElem Tryz.prog 3 v = some y → ∃ z : Int, v = .int .i64 z := fun v y h => by
  obtain ⟨z, e, _⟩ := plainElem_int_inv Tryz.underlying3 h
  exact ⟨z, e⟩
theorem Owner_any (C : At w c mb n m D) (p : Int) :
    Calls Tryz.prog 261 #[.pointer (some ⟨c, 0, none⟩), .int .i64 p] w fun e w' => e = .returned (.tuple #[.int .i64 (owner m p).1, .int .i64 (owner m p).2]) ∧ w.grownBy w' none := by
  have CC := Lib.hid C
  have fl := field_1 n mb
  clear C
  go_enter Tryz.func261, Tryz.ntmps261
  go_wp2_with (first
    | (go_at_call 218; (with_reducible refine (made_yes CC.out).mono ?_); rintro e w2 ⟨rfl, hg⟩; have G2 := Lib.hid hg; have C2 := Lib.hid (CC.out.new hg); clear hg)
    | (at_range; refine wpList_range_own _ rfl _ 205 rfl 210 3 klaw Tryz.underlying205 _ mb _ _ rfl C2.out.own ?_; intro w3 hrg0 hg0 hs0)
    | go_in)
  go_frame
  go_loopw [6, 7] (fun _ _ wr => ∃ (left : Lit → Bool) (cnt : Nat), wr.ranges Tryz.prog 210 (plainElem Tryz.prog 3) mb w2.heap.size m.length D left cnt ∧ (∀ x ∈ m, left (kl x.1 x.2.1) = true ∨ x.2.2 ≠ p) ∧ w2.grownBy wr none)
    (fun _ _ wr => wr.rangeLeft mb w2.heap.size)
  case atStart => exact ⟨_, _, hrg0, fun x hx => .inl ((CC.out.tells.has x.1 x.2.1 (CC.out.good.fit CC.out.few hx).1 (CC.out.good.fit CC.out.few hx).2.1).2 ⟨_, hx⟩), hg0⟩
  case round =>
    obtain ⟨left, cnt, hrg, hm, hgw⟩ := hrel
    have HM := Lib.hid hm
    have GW := Lib.hid hgw
    clear hm hgw
    go_wp2_with (first
      | (at_next; refine wpList_next_ranges _ rfl _ rfl 210 klaw (plainElem Tryz.prog 3) (fun x : Int × Int => .agg #[.int .i64 x.1, .int .i64 x.2]) (Value.int .i64) invK invV mb w2.heap.size m.length _ _ _ rfl hrg ?_ ?_)
      | go_in)
    · intro hc0 hl0
      have e1 : owner m p = (-1, 0) := owner_no (fun x hx => (HM.out x hx).resolve_left (by rw [hl0]; simp))
      go_wp2
      go_ret2
      exact ⟨by rw [e1]; rfl, G2.out.trans GW.out⟩
    · intro x1 x2 z l yd yp w4 cnt2 hkey hlk hv hat hrg2 hlt hg2 hs2 hen
      obtain ⟨rfl, hx⟩ := met CC.out.tells (x := (x1, x2)) hkey hv hat
      have HX := Lib.hid hx
      have HR := Lib.hid hrg2
      have HR0 := Lib.hid hrg
      have G4 := Lib.hid (GW.out.andThen hg2 (fun j hj => by cases hj; exact .inl (Nat.le_refl _)))
      clear hs2 hkey hlk hv hat hx hrg2 hg2 hrg
      by_cases hz : z = p
      · subst hz
        have OW := Lib.hid (owner_in CC.out.good HX.out)
        have f0 := Two.new w4 x1 x2 210
        obtain ⟨u0, u1⟩ := f0
        go_wp2
        go_quiet (fail)
        go_wp2
        go_ret2
        exact ⟨by rw [OW.out]; rfl, G2.out.trans (G4.out.trans ((World.grownBy_alloc _ _ _).trans (grown_drewN _ _ _)))⟩
      · have t1 : (z == p) = false := by simpa using hz
        have ST := Lib.hid (strike (Q := fun x => x.2.2 ≠ p) CC.out.good CC.out.few HM.out (x := (x1, x2, z)) HX.out hz)
        go_wp2
        go_roundw
        case rel => exact ⟨_, cnt2, HR.out.alloc _, ST.out, G4.out.trans (World.grownBy_alloc _ _ _)⟩
        case measure => rw [(HR.out.alloc _).left_eq, HR0.out.left_eq]; exact hlt
end
end Go.Proofs.YtkgdcgmbapchcaaGreatDoor.ca
namespace Go.Proofs.YtkgdcgmbapchcaaGreatDoor.ca
open Go.ChangeShapes Go.WideShapes Go.ChangeAt Go.RowKit Go.Maps gen calls cls
set_option linter.unusedVariables false
set_option maxHeartbeats 4000000
set_option maxRecDepth 100000
section
variable {w w' : World} {c mb n : Nat} {m : List Ow} {D : DataW Unit}
def may (n : Nat) (m : List Ow) (t k p : Int) : Bool := place n t k && decide (0 ≤ p) && decide (p < 64) && decide ((owner m p).1 < 0)
def SetAns (c mb n : Nat) (m : List Ow) (w : World) (e : Ending) (w' : World) : Prop := ∃ D', e = .returned (.bool true) ∧ At w' c mb n m D' ∧ w.grownBy w' (some mb)
theorem Set_yes (C : At w c mb n m D) (t k p : Int) (ht : fits t = true) (hk : fits k = true) (h : place n t k = true) (hp : 0 ≤ p ∧ p < 64) (ho : (owner m p).1 = -1) :
    Calls Tryz.prog 226 #[.pointer (some ⟨c, 0, none⟩), .int .i64 t, .int .i64 k, .int .i64 p] w (SetAns c mb n (rest m t k ++ [(t, k, p)]) w) := by
  have G0 := Lib.hid (World.grownBy_alloc w (.cells #[.int .i64 t, .int .i64 k] 210) none)
  have T0 := Lib.hid (Two.new w t k 210)
  have HA := Lib.hid (has_any (C.new G0.out) t k hk)
  rw [h] at HA
  have CC := Lib.hid C
  have OW := Lib.hid (fun W (hg : w.grownBy W none) => Owner_any (C.new hg) p)
  have t1 : decide (p < 0) = false := by simp; omega
  have t2 : decide (64 ≤ p) = false := by simp; omega
  have KM := Lib.hid (key_mk ht hk)
  have pl : (0 ≤ t ∧ t < n) ∧ 1 ≤ k ∧ k ≤ 4 := by simpa [place] using h
  have free : ∀ x ∈ m, x.2.2 ≠ p := (owner_neg C.good p).1 (by omega)
  have GP := Lib.hid (C.good.put ⟨pl.1, pl.2, hp⟩ free)
  have TP := Lib.hid (C.tells.put C.good C.few C.tidy p ht hk (by omega))
  have FP : fits p = true := by rw [fits_iff]; omega
  have PL := Lib.hid (plainElem_int (H := Unit) Tryz.underlying3 (WalkArith.wf_i64 (fits_iff.mp FP)))
  have F9 := Lib.hid C.few
  have LM := Lib.hid (show m.length < maxLen by have := C.good.few; unfold maxLen; omega)
  generalize (owner m p).1 = o1 at OW ho
  generalize (owner m p).2 = o2 at OW
  subst ho
  clear C h hp pl free FP ht hk
  go_enter Tryz.func226, Tryz.ntmps226
  go_wp2_with (first
    | (go_at_call 272; (with_reducible refine HA.out.mono ?_); rintro e w2 ⟨rfl, hg⟩; have G2 := Lib.hid (G0.out.trans hg); have T2 := Lib.hid (T0.out.made hg); clear hg)
    | (go_at_call 261; (with_reducible refine (OW.out _ G2.out).mono ?_); rintro e w3 ⟨rfl, hg⟩; have G3 := Lib.hid (G2.out.trans hg); have T3 := Lib.hid (T2.out.made hg); have C3 := Lib.hid (CC.out.new (G2.out.trans hg)); obtain ⟨u0, u1⟩ := T3.out; have u2 := C3.out.c1; clear hg))
  go_still_tail 6, (by kernel_rfl)
  change wpList _ _ _ _ _ w3.drew
  have C4 := Lib.hid (C3.out.new (grown_drew w3 none))
  have G4 := Lib.hid (G3.out.trans (grown_drew w3 none))
  generalize w3.drew = w4 at C4 G4 ⊢
  clear u0 u1 u2
  go_wp2_with (first
    | (at_mapUpdate; refine wpList_mapUpdate_own _ rfl _ _ _ 205 rfl 210 3 klaw Tryz.underlying205 _ mb m.length _ rfl C4.out.own LM.out _ _ _ rfl rfl KM.out _ [] PL.out ?_; intro w5 hown1 hgrow1; have O5 := Lib.hid hown1; have G5 := Lib.hid hgrow1; clear hown1 hgrow1)
    | go_in)
  go_ret
  have O6 := own_tight O5.out
  rw [TP.out.size] at O6
  exact ⟨_, rfl, ⟨(G5.out.block c C4.out.lt.1 (fun e => C4.out.ne (by simpa using e.symm))).trans C4.out.box, O6, TP.out, GP.out, F9.out⟩, (G4.out.but _).trans G5.out⟩
theorem owner_neg1 (C : At w c mb n m D) (p : Int) : (owner m p).1 < 0 ↔ (owner m p).1 = -1 := by
  constructor
  · intro h
    rw [owner_no ((owner_neg C.good p).1 h)]
  · intro h
    omega
theorem Set_may (C : At w c mb n m D) (t k p : Int) (ht : fits t = true) (hk : fits k = true) (h : may n m t k p = true) :
    Calls Tryz.prog 226 #[.pointer (some ⟨c, 0, none⟩), .int .i64 t, .int .i64 k, .int .i64 p] w (SetAns c mb n (rest m t k ++ [(t, k, p)]) w) := by
  simp [may] at h
  exact Set_yes C t k p ht hk h.1.1.1 ⟨h.1.1.2, h.1.2⟩ ((owner_neg1 C p).1 h.2)
end
end Go.Proofs.YtkgdcgmbapchcaaGreatDoor.ca
namespace Go.Proofs.YtkgdcgmbapchcaaGreatDoor.ca
open Go.ChangeShapes Go.WideShapes Go.ChangeAt Go.RowKit Go.Maps gen calls cls Go.Sort
set_option linter.unusedVariables false
set_option maxHeartbeats 4000000
set_option maxRecDepth 100000
section
variable {w w' : World} {c mb n r N : Nat} {m gs : List Ow} {D : DataW Unit} {left : Lit → Bool} {cnt : Nat}
end
end Go.Proofs.YtkgdcgmbapchcaaGreatDoor.ca
