/- The program's cache: Page, Owner. -/
import Derived.Test.YtagahkofjgbfhaaCaC
namespace Go.Proofs.Ytagahkofjgbfhaa.ca
open Go.ChangeShapes Go.WideShapes Go.ChangeAt Go.RowKit Go.Maps gen calls cls
set_option linter.unusedVariables false
set_option maxHeartbeats 4000000
set_option maxRecDepth 100000
section
variable {w w' : World} {c mb n : Nat} {m : List Ow} {D : DataW Unit}
/-- Whether there is such a place. -/
def place (n : Nat) (t k : Int) : Bool := decide ((0 ≤ t ∧ t < n) ∧ 1 ≤ k ∧ k ≤ 4)
theorem cl_pos (k : Int) : 0 < cl k ↔ 1 ≤ k ∧ k ≤ 4 := by
  unfold cl
  repeat' split
  all_goals omega
theorem has_any (C : At w c mb n m D) (t k : Int) (hk : fits k = true) :
    Calls Try.prog 24 #[.pointer (some ⟨c, 0, none⟩), .agg #[.int .i64 t, .int .i64 k]] w fun e w' => e = .returned (.bool (place n t k)) ∧ w.grownBy w' none := by
  by_cases h0 : t < 0
  · have : place n t k = false := by unfold place; simp; omega
    rw [this]
    exact has_neg _ w h0
  by_cases h1 : t < n
  · have : place n t k = decide (0 < cl k) := by unfold place; simp [cl_pos]; omega
    rw [this]
    exact has_yes C (by omega) h1 hk
  · have : place n t k = false := by unfold place; simp; omega
    rw [this]
    exact has_out C (by omega) (by omega)
theorem Page_any (C : At w c mb n m D) (t k : Int) (ht : fits t = true) (hk : fits k = true) :
    Calls Try.prog 14 #[.pointer (some ⟨c, 0, none⟩), .int .i64 t, .int .i64 k] w fun e w' => e = .returned (.int .i64 (page m t k)) ∧ w.grownBy w' none := by
  have CC := Lib.hid C
  have KM := Lib.hid (key_mk ht hk)
  have fl := field_1 n mb
  by_cases hx : ∃ p, (t, k, p) ∈ m
  · have hb := (C.tells.has t k ht hk).2 hx
    obtain ⟨p, hp⟩ := hx
    have e1 : page m t k = p := page_in C.good hp
    have HB := Lib.hid hb
    have AT := Lib.hid (C.tells.at_ _ hp)
    rw [e1]
    clear C ht hk hb hp e1
    go_enter Try.func14, Try.ntmps14
    go_wp2_with (first
      | (go_at_call 22; (with_reducible refine (made_yes CC.out).mono ?_); rintro e w2 ⟨rfl, hg⟩; have G2 := Lib.hid hg; have C2 := Lib.hid (CC.out.new hg); clear hg)
      | (at_lookup; refine wpList_lookup_own_ok_int _ rfl _ _ 44 rfl 55 3 .i64 klaw Try.underlying44 Try.underlying3 (zeroE _) mb _ _ rfl C2.out.own _ _ rfl KM.out ?_; intro v hat hwv; rw [HB.out]; obtain rfl : v = p := by (rw [AT.out] at hat; simpa using hat.symm))
      | go_in)
    go_ret
    exact ⟨rfl, G2.out⟩
  · have hb : Maps.has D (kl t k) = false := by rw [← Bool.not_eq_true, C.tells.has t k ht hk]; exact hx
    have e1 : page m t k = -1 := page_no (fun p hp => hx ⟨p, hp⟩)
    have HB := Lib.hid hb
    rw [e1]
    clear C ht hk hb hx e1
    go_enter Try.func14, Try.ntmps14
    go_wp2_with (first
      | (go_at_call 22; (with_reducible refine (made_yes CC.out).mono ?_); rintro e w2 ⟨rfl, hg⟩; have G2 := Lib.hid hg; have C2 := Lib.hid (CC.out.new hg); clear hg)
      | (at_lookup; refine wpList_lookup_own_ok_int _ rfl _ _ 44 rfl 55 3 .i64 klaw Try.underlying44 Try.underlying3 (zeroE _) mb _ _ rfl C2.out.own _ _ rfl KM.out ?_; intro v hat hwv; rw [HB.out]; clear hat)
      | go_in)
    go_ret
    exact ⟨rfl, G2.out⟩
/-- The entry that has come is one of the list. -/
theorem met (T : Tells D m) {x : Int × Int} {z : Int} {l : Lit} {y : DataW Unit × List MemPlace} (hkey : keyOf Try.prog 55 (.agg #[.int .i64 x.1, .int .i64 x.2]) = some l) (hv : plainElem Try.prog 3 (.int .i64 z) = some y)
    (hat : ∀ zd, D.atKey l zd = y.1) : l = kl x.1 x.2 ∧ (x.1, x.2, z) ∈ m := by
  obtain ⟨t, k, e1, rfl, ft, fk⟩ := key_inv hkey
  obtain ⟨e2, e3⟩ : x.1 = t ∧ x.2 = k := by simpa using e1
  obtain ⟨z', e4, rfl, _⟩ := plainElem_int_inv Try.underlying3 hv
  obtain rfl : z = z' := by simpa using e4
  obtain ⟨q, hq⟩ := (T.has t k ft fk).1 (Maps.has_true_of_atKey hat)
  have h1 := T.at_ _ hq (.lit (.int .i64 0))
  rw [hat] at h1
  obtain rfl : z = q := by simpa using h1
  subst e2 e3
  exact ⟨rfl, hq⟩
theorem strike (G : Good n m) (hn : n ≤ 9) {left : Lit → Bool} {Q : Ow → Prop} (h : ∀ x ∈ m, left (kl x.1 x.2.1) = true ∨ Q x) {x : Ow} (hx : x ∈ m) (hq : Q x) : ∀ y ∈ m, (left (kl y.1 y.2.1) && !(kl y.1 y.2.1).sameKey (kl x.1 x.2.1)) = true ∨ Q y := fun y hy => by
  by_cases e : y = x
  · subst e; exact .inr hq
  · rcases h y hy with h1 | h1
    · refine .inl ?_
      have fx := G.fit hn hx
      have fy := G.fit hn hy
      have hne : kl y.1 y.2.1 ≠ kl x.1 x.2.1 := fun e2 => by
        have := kl_inj fy.1 fy.2.1 fx.1 fx.2.1 e2
        exact e (G.one hy hx this.1 this.2)
      rw [h1, Maps.sameKey_ne hne]
      rfl
    · exact .inr h1
theorem invK : ∀ key l, keyOf Try.prog 55 key = some l → ∃ x : Int × Int, key = .agg #[.int .i64 x.1, .int .i64 x.2] := fun key l h => by
  obtain ⟨t, k, e, _⟩ := key_inv h
  exact ⟨(t, k), e⟩
theorem invV : ∀ v (y : DataW Unit × List MemPlace), plainElem Try.prog 3 v = some y → ∃ z : Int, v = .int .i64 z := fun v y h => by
  obtain ⟨z, e, _⟩ := plainElem_int_inv Try.underlying3 h
  exact ⟨z, e⟩
theorem Owner_any (C : At w c mb n m D) (p : Int) :
    Calls Try.prog 13 #[.pointer (some ⟨c, 0, none⟩), .int .i64 p] w fun e w' => e = .returned (.tuple #[.int .i64 (owner m p).1, .int .i64 (owner m p).2]) ∧ w.grownBy w' none := by
  have CC := Lib.hid C
  have fl := field_1 n mb
  clear C
  go_enter Try.func13, Try.ntmps13
  go_wp2_with (first
    | (go_at_call 22; (with_reducible refine (made_yes CC.out).mono ?_); rintro e w2 ⟨rfl, hg⟩; have G2 := Lib.hid hg; have C2 := Lib.hid (CC.out.new hg); clear hg)
    | (at_range; refine wpList_range_own _ rfl _ 44 rfl 55 3 klaw Try.underlying44 _ mb _ _ rfl C2.out.own ?_; intro w3 hrg0 hg0 hs0)
    | go_in)
  go_frame
  go_loopw [6, 7] (fun _ _ wr => ∃ (left : Lit → Bool) (cnt : Nat), wr.ranges Try.prog 55 (plainElem Try.prog 3) mb w2.heap.size m.length D left cnt ∧ (∀ x ∈ m, left (kl x.1 x.2.1) = true ∨ x.2.2 ≠ p) ∧ w2.grownBy wr none)
    (fun _ _ wr => wr.rangeLeft mb w2.heap.size)
  case atStart => exact ⟨_, _, hrg0, fun x hx => .inl ((CC.out.tells.has x.1 x.2.1 (CC.out.good.fit CC.out.few hx).1 (CC.out.good.fit CC.out.few hx).2.1).2 ⟨_, hx⟩), hg0⟩
  case round =>
    obtain ⟨left, cnt, hrg, hm, hgw⟩ := hrel
    have HM := Lib.hid hm
    have GW := Lib.hid hgw
    clear hm hgw
    go_wp2_with (first
      | (at_next; refine wpList_next_ranges _ rfl _ rfl 55 klaw (plainElem Try.prog 3) (fun x : Int × Int => .agg #[.int .i64 x.1, .int .i64 x.2]) (Value.int .i64) invK invV mb w2.heap.size m.length _ _ _ rfl hrg ?_ ?_)
      | go_in)
    · intro hc0 hl0
      have e1 : owner m p = (-1, 0) := owner_no (fun x hx => (HM.out x hx).resolve_left (by rw [hl0]; simp))
      go_wp2
      go_ret2
      exact ⟨by rw [e1]; rfl, G2.out.trans GW.out⟩
    · intro x1 x2 z l yd yp w4 cnt2 hkey hlk hv hat hrg2 hlt hg2 hs2 hen
      obtain ⟨rfl, hx⟩ := met CC.out.tells (x := (x1, x2)) hkey hv hat
      have HX := Lib.hid hx
      have HR := Lib.hid hrg2
      have HR0 := Lib.hid hrg
      have G4 := Lib.hid (GW.out.andThen hg2 (fun j hj => by cases hj; exact .inl (Nat.le_refl _)))
      clear hs2 hkey hlk hv hat hx hrg2 hg2 hrg
      by_cases hz : z = p
      · subst hz
        have OW := Lib.hid (owner_in CC.out.good HX.out)
        have f0 := Two.new w4 x1 x2 55
        obtain ⟨u0, u1⟩ := f0
        go_wp2
        go_quiet (fail)
        go_wp2
        go_ret2
        exact ⟨by rw [OW.out]; rfl, G2.out.trans (G4.out.trans ((World.grownBy_alloc _ _ _).trans (grown_drewN _ _ _)))⟩
      · have t1 : (z == p) = false := by simpa using hz
        have ST := Lib.hid (strike (Q := fun x => x.2.2 ≠ p) CC.out.good CC.out.few HM.out (x := (x1, x2, z)) HX.out hz)
        go_wp2
        go_roundw
        case rel => exact ⟨_, cnt2, HR.out.alloc _, ST.out, G4.out.trans (World.grownBy_alloc _ _ _)⟩
        case measure => rw [(HR.out.alloc _).left_eq, HR0.out.left_eq]; exact hlt
end
end Go.Proofs.Ytagahkofjgbfhaa.ca
