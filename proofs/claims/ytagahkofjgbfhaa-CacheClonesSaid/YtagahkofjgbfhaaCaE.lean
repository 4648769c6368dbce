/- The program's cache: Set. -/
import Derived.Test.YtagahkofjgbfhaaCaD
import Derived.StillTailTactics
namespace Go.Proofs.Ytagahkofjgbfhaa.ca
open Go.ChangeShapes Go.WideShapes Go.ChangeAt Go.RowKit Go.Maps gen calls cls
set_option linter.unusedVariables false
set_option maxHeartbeats 4000000
set_option maxRecDepth 100000
section
variable {w w' : World} {c mb n : Nat} {m : List Ow} {D : DataW Unit}
def may (n : Nat) (m : List Ow) (t k p : Int) : Bool := place n t k && decide (0 ≤ p) && decide (p < 64) && decide ((owner m p).1 < 0)
theorem Set_no1 (C : At w c mb n m D) (t k p : Int) (hk : fits k = true) (h : place n t k = false ∨ p < 0 ∨ 64 ≤ p) :
    Calls Try.prog 12 #[.pointer (some ⟨c, 0, none⟩), .int .i64 t, .int .i64 k, .int .i64 p] w fun e w' => e = .returned (.bool false) ∧ w.grownBy w' none := by
  have G0 := Lib.hid (World.grownBy_alloc w (.cells #[.int .i64 t, .int .i64 k] 55) none)
  have HA := Lib.hid (has_any (C.new G0.out) t k hk)
  obtain ⟨b, hb⟩ : ∃ b, place n t k = b := ⟨_, rfl⟩
  rw [hb] at HA h
  clear hb C
  cases b
  · clear h
    go_enter Try.func12, Try.ntmps12
    go_wp2_with (first
      | (go_at_call 24; (with_reducible refine HA.out.mono ?_); rintro e w2 ⟨rfl, hg⟩; have G2 := Lib.hid (G0.out.trans hg); clear hg))
    go_ret
    exact ⟨rfl, G2.out⟩
  · have h2 := h.resolve_left (by simp)
    clear h
    by_cases h3 : p < 0
    · have t1 : decide (p < 0) = true := by simpa using h3
      clear h2
      go_enter Try.func12, Try.ntmps12
      go_wp2_with (first
        | (go_at_call 24; (with_reducible refine HA.out.mono ?_); rintro e w2 ⟨rfl, hg⟩; have G2 := Lib.hid (G0.out.trans hg); clear hg))
      go_ret
      exact ⟨rfl, G2.out⟩
    · have h4 : 64 ≤ p := h2.resolve_left h3
      have t1 : decide (p < 0) = false := by simp; omega
      have t2 : decide (64 ≤ p) = true := by simpa using h4
      clear h2
      go_enter Try.func12, Try.ntmps12
      go_wp2_with (first
        | (go_at_call 24; (with_reducible refine HA.out.mono ?_); rintro e w2 ⟨rfl, hg⟩; have G2 := Lib.hid (G0.out.trans hg); clear hg))
      go_ret
      exact ⟨rfl, G2.out⟩
theorem Set_no2 (C : At w c mb n m D) (t k p : Int) (hk : fits k = true) (h : place n t k = true) (hp : 0 ≤ p ∧ p < 64) (ho : ¬ (owner m p).1 = -1) :
    Calls Try.prog 12 #[.pointer (some ⟨c, 0, none⟩), .int .i64 t, .int .i64 k, .int .i64 p] w fun e w' => e = .returned (.bool false) ∧ w.grownBy w' none := by
  have G0 := Lib.hid (World.grownBy_alloc w (.cells #[.int .i64 t, .int .i64 k] 55) none)
  have HA := Lib.hid (has_any (C.new G0.out) t k hk)
  rw [h] at HA
  have CC := Lib.hid C
  have OW := Lib.hid (fun W (hg : w.grownBy W none) => Owner_any (C.new hg) p)
  have t1 : decide (p < 0) = false := by simp; omega
  have t2 : decide (64 ≤ p) = false := by simp; omega
  generalize (owner m p).1 = o1 at OW ho
  generalize (owner m p).2 = o2 at OW
  have t3 : (o1 != -1) = true := by simpa using ho
  clear C h hp ho
  go_enter Try.func12, Try.ntmps12
  go_wp2_with (first
    | (go_at_call 24; (with_reducible refine HA.out.mono ?_); rintro e w2 ⟨rfl, hg⟩; have G2 := Lib.hid (G0.out.trans hg); clear hg)
    | (go_at_call 13; (with_reducible refine (OW.out _ G2.out).mono ?_); rintro e w3 ⟨rfl, hg⟩; have G3 := Lib.hid (G2.out.trans hg); clear hg))
  go_ret
  exact ⟨rfl, G3.out⟩
/-- What a Set that may be answers. -/
def SetAns (c mb n : Nat) (m : List Ow) (w : World) (e : Ending) (w' : World) : Prop := ∃ D', e = .returned (.bool true) ∧ At w' c mb n m D' ∧ w.grownBy w' (some mb)
theorem Set_yes (C : At w c mb n m D) (t k p : Int) (ht : fits t = true) (hk : fits k = true) (h : place n t k = true) (hp : 0 ≤ p ∧ p < 64) (ho : (owner m p).1 = -1) :
    Calls Try.prog 12 #[.pointer (some ⟨c, 0, none⟩), .int .i64 t, .int .i64 k, .int .i64 p] w (SetAns c mb n (rest m t k ++ [(t, k, p)]) w) := by
  have G0 := Lib.hid (World.grownBy_alloc w (.cells #[.int .i64 t, .int .i64 k] 55) none)
  have T0 := Lib.hid (Two.new w t k 55)
  have HA := Lib.hid (has_any (C.new G0.out) t k hk)
  rw [h] at HA
  have CC := Lib.hid C
  have OW := Lib.hid (fun W (hg : w.grownBy W none) => Owner_any (C.new hg) p)
  have t1 : decide (p < 0) = false := by simp; omega
  have t2 : decide (64 ≤ p) = false := by simp; omega
  have KM := Lib.hid (key_mk ht hk)
  have pl : (0 ≤ t ∧ t < n) ∧ 1 ≤ k ∧ k ≤ 4 := by simpa [place] using h
  have free : ∀ x ∈ m, x.2.2 ≠ p := (owner_neg C.good p).1 (by omega)
  have GP := Lib.hid (C.good.put ⟨pl.1, pl.2, hp⟩ free)
  have TP := Lib.hid (C.tells.put C.good C.few C.tidy p ht hk (by omega))
  have FP : fits p = true := by rw [fits_iff]; omega
  have PL := Lib.hid (plainElem_int (H := Unit) Try.underlying3 (WalkArith.wf_i64 (fits_iff.mp FP)))
  have F9 := Lib.hid C.few
  have LM := Lib.hid (show m.length < maxLen by have := C.good.few; unfold maxLen; omega)
  generalize (owner m p).1 = o1 at OW ho
  generalize (owner m p).2 = o2 at OW
  subst ho
  clear C h hp pl free FP ht hk
  go_enter Try.func12, Try.ntmps12
  go_wp2_with (first
    | (go_at_call 24; (with_reducible refine HA.out.mono ?_); rintro e w2 ⟨rfl, hg⟩; have G2 := Lib.hid (G0.out.trans hg); have T2 := Lib.hid (T0.out.made hg); clear hg)
    | (go_at_call 13; (with_reducible refine (OW.out _ G2.out).mono ?_); rintro e w3 ⟨rfl, hg⟩; have G3 := Lib.hid (G2.out.trans hg); have T3 := Lib.hid (T2.out.made hg); have C3 := Lib.hid (CC.out.new (G2.out.trans hg)); obtain ⟨u0, u1⟩ := T3.out; have u2 := C3.out.c1; clear hg))
  go_still_tail 6, (by kernel_rfl)
  change wpList _ _ _ _ _ w3.drew
  have C4 := Lib.hid (C3.out.new (grown_drew w3 none))
  have G4 := Lib.hid (G3.out.trans (grown_drew w3 none))
  generalize w3.drew = w4 at C4 G4 ⊢
  clear u0 u1 u2
  go_wp2_with (first
    | (at_mapUpdate; refine wpList_mapUpdate_own _ rfl _ _ _ 44 rfl 55 3 klaw Try.underlying44 _ mb m.length _ rfl C4.out.own LM.out _ _ _ rfl rfl KM.out _ [] PL.out ?_; intro w5 hown1 hgrow1; have O5 := Lib.hid hown1; have G5 := Lib.hid hgrow1; clear hown1 hgrow1)
    | go_in)
  go_ret
  have O6 := own_tight O5.out
  rw [TP.out.size] at O6
  exact ⟨_, rfl, ⟨(G5.out.block c C4.out.lt.1 (fun e => C4.out.ne (by simpa using e.symm))).trans C4.out.box, O6, TP.out, GP.out, F9.out⟩, (G4.out.but _).trans G5.out⟩
theorem owner_neg1 (C : At w c mb n m D) (p : Int) : (owner m p).1 < 0 ↔ (owner m p).1 = -1 := by
  constructor
  · intro h
    rw [owner_no ((owner_neg C.good p).1 h)]
  · intro h
    omega
/-- Set, whatever is asked. -/
theorem Set_may (C : At w c mb n m D) (t k p : Int) (ht : fits t = true) (hk : fits k = true) (h : may n m t k p = true) :
    Calls Try.prog 12 #[.pointer (some ⟨c, 0, none⟩), .int .i64 t, .int .i64 k, .int .i64 p] w (SetAns c mb n (rest m t k ++ [(t, k, p)]) w) := by
  simp [may] at h
  exact Set_yes C t k p ht hk h.1.1.1 ⟨h.1.1.2, h.1.2⟩ ((owner_neg1 C p).1 h.2)
theorem Set_not (C : At w c mb n m D) (t k p : Int) (hk : fits k = true) (h : may n m t k p = false) :
    Calls Try.prog 12 #[.pointer (some ⟨c, 0, none⟩), .int .i64 t, .int .i64 k, .int .i64 p] w fun e w' => e = .returned (.bool false) ∧ w.grownBy w' none := by
  by_cases h1 : place n t k = false ∨ p < 0 ∨ 64 ≤ p
  · exact Set_no1 C t k p hk h1
  · have h2 : place n t k = true := by
      cases hpl : place n t k
      · exact absurd (.inl hpl) h1
      · rfl
    refine Set_no2 C t k p hk h2 (by omega) (fun e => ?_)
    have h3 := (owner_neg1 C p).2 e
    simp [may, h2] at h
    omega
end
end Go.Proofs.Ytagahkofjgbfhaa.ca
