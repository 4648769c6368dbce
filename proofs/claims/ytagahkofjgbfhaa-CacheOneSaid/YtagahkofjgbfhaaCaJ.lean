/- A step of a script, by the program and by the list. -/
import Derived.Test.YtagahkofjgbfhaaCaI
namespace Go.Proofs.Ytagahkofjgbfhaa.ca
open Go.ChangeShapes Go.WideShapes Go.ChangeAt Go.RowKit Go.Maps gen calls cls
set_option linter.unusedVariables false
set_option maxHeartbeats 8000000
set_option maxRecDepth 100000
/-- The four cells of a call at the head of block B. -/
structure Four (w : World) (B : Nat) (q t k p : Int) : Prop where
  t0 : w.cell? ⟨B, 0, none⟩ = some (.int .i64 q)
  t1 : w.cell? ⟨B, 1, none⟩ = some (.int .i64 t)
  t2 : w.cell? ⟨B, 2, none⟩ = some (.int .i64 k)
  t3 : w.cell? ⟨B, 3, none⟩ = some (.int .i64 p)
theorem Four.new (w : World) (q t k p : Int) (T : TypeId) : Four (w.alloc (.cells #[.int .i64 q, .int .i64 t, .int .i64 k, .int .i64 p] T)) w.heap.size q t k p := ⟨by simp [go_sem], by simp [go_sem], by simp [go_sem], by simp [go_sem]⟩
theorem Four.kept {w w' : World} {B : Nat} {q t k p : Int} {row : Option Nat} (h : Four w B q t k p) (hg : w.grownBy w' row) (hr : some B ≠ row) : Four w' B q t k p := ⟨hg.cell h.t0 hr, hg.cell h.t1 hr, hg.cell h.t2 hr, hg.cell h.t3 hr⟩
theorem Four.made {w w' : World} {B : Nat} {q t k p : Int} (h : Four w B q t k p) (hg : w.grownBy w' none) : Four w' B q t k p := h.kept hg (by simp)
section
variable {w w' : World} {c mb n : Nat} {m : List Ow} {D : DataW Unit} {v : Value}
/-- What a script's calls answer. -/
def SAns (c mb n : Nat) (m : List Ow) (w : World) (e : Ending) (w' : World) : Prop :=
  ∃ v' D', e = .returned (.tuple #[v', .bool true]) ∧ At w' c mb n m D' ∧ Lo w' 0 v' m ∧ w.grownBy w' (some mb)
theorem sz_pos (k : Int) : 0 < sz k ↔ 1 ≤ k ∧ k ≤ 4 := by
  unfold sz
  repeat' split
  all_goals omega
theorem step_no (C : At w c mb n m D) (L : Lo w 0 v m) (t k p : Int) (ht : fits t = true) (hk : fits k = true) (h : may n m t k p = false) :
    Calls Try.prog 19 #[.pointer (some ⟨c, 0, none⟩), .int .i64 n, v, .agg #[.int .i64 1, .int .i64 t, .int .i64 k, .int .i64 p]] w (SAns c mb n m w) := by
  have G0 := Lib.hid (World.grownBy_alloc w (.cells #[.int .i64 1, .int .i64 t, .int .i64 k, .int .i64 p] 33) none)
  have T0 := Lib.hid (Four.new w 1 t k p 33)
  have CC := Lib.hid C
  have LL := Lib.hid L
  have OW := Lib.hid (fun W (hg : w.grownBy W none) => owner_any (L.new hg) (by have := C.good.few; omega) ⟨n, C.good⟩ p)
  have ST := Lib.hid (fun W (hg : w.grownBy W none) => Set_not (C.new hg) t k p hk h)
  have HK := Lib.hid hk
  have ways : decide (0 ≤ t) = false ∨ (decide (0 ≤ t) = true ∧ decide (t < (n : Int)) = false) ∨ (decide (0 ≤ t) = true ∧ decide (t < (n : Int)) = true ∧ decide (0 < sz k) = false) ∨
      (decide (0 ≤ t) = true ∧ decide (t < (n : Int)) = true ∧ decide (0 < sz k) = true ∧ decide (0 ≤ p) = false) ∨ (decide (0 ≤ t) = true ∧ decide (t < (n : Int)) = true ∧ decide (0 < sz k) = true ∧ decide (0 ≤ p) = true ∧ decide (p < 64) = false) ∨
      (decide (0 ≤ t) = true ∧ decide (t < (n : Int)) = true ∧ decide (0 < sz k) = true ∧ decide (0 ≤ p) = true ∧ decide (p < 64) = true ∧ decide ((owner m p).1 < 0) = false) := by
    simp only [decide_eq_true_eq, decide_eq_false_iff_not, sz_pos]
    simp [may, place] at h
    omega
  obtain ⟨z, hz⟩ : ∃ z, sz k = z := ⟨_, rfl⟩
  have HZ := Lib.hid hz
  rw [hz] at ways
  generalize (owner m p).1 = o1 at OW ways
  generalize (owner m p).2 = o2 at OW
  obtain ⟨u0, u1, u2, u3⟩ := T0.out
  clear C L ht hk h hz
  rcases ways with e1 | ⟨e1, e2⟩ | ⟨e1, e2, e3⟩ | ⟨e1, e2, e3, e4⟩ | ⟨e1, e2, e3, e4, e5⟩ | ⟨e1, e2, e3, e4, e5, e6⟩
  all_goals
    go_enter Try.func19, Try.ntmps19
    go_wp2_with (first
      | (go_at_call 28; (with_reducible refine (OW.out _ G0.out).mono ?_); rintro e w2 ⟨rfl, hg⟩; have G2 := Lib.hid (G0.out.trans hg); have T2 := Lib.hid (T0.out.made hg); have T3 := Lib.hid (T0.out.made hg); have G3 := Lib.hid (G0.out.trans hg); obtain ⟨v0, v1, v2, v3⟩ := T2.out; clear hg)
      | (go_at_call 29; (with_reducible refine (rSize_any _ _ HK.out).mono ?_); rintro e w3 ⟨rfl, hb⟩; rw [HZ.out]; have hg := below_grown hb; have G3 := Lib.hid (G2.out.trans hg); have T3 := Lib.hid (T2.out.made hg); obtain ⟨y0, y1, y2, y3⟩ := T3.out; clear hb hg)
      | (go_at_call 12; (with_reducible refine (ST.out _ G3.out).mono ?_); rintro e w4 ⟨rfl, hg⟩; have G4 := Lib.hid (G3.out.trans hg); clear hg))
    go_ret2
    exact ⟨_, _, rfl, CC.out.new G4.out, LL.out.new G4.out, G4.out.but _⟩
end
end Go.Proofs.Ytagahkofjgbfhaa.ca
