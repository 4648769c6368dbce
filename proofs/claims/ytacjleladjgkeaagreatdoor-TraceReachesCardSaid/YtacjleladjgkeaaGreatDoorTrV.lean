/- Behind all units: what the statement's last look is told. -/
import Derived.Test.YtacjleladjgkeaaGreatDoorRcY
import Derived.Test.YtacjleladjgkeaaGreatDoorTrY
namespace Go.Proofs.YtacjleladjgkeaaGreatDoor.tr
open Go.ChangeShapes Go.WideShapes Go.ChangeAt Go.RowKit gen calls cls geos ce st sh
set_option linter.unusedVariables false
set_option maxHeartbeats 16000000
set_option maxRecDepth 100000
theorem unit_idle {r N c : Nat} {F : Int → Option (List va.Va)} {G : Int → List Int} {z : tc.Ts} (h : tc.Ts.idle z = true) : tc.Ts.unit r N c F G z = z := by
  unfold tc.Ts.idle at h
  simp only [Bool.and_eq_true, decide_eq_true_eq, Bool.not_eq_true'] at h
  obtain ⟨⟨i1, i2⟩, i3⟩ := h
  unfold tc.Ts.unit
  rw [if_neg (by simp [i1]), if_neg (by omega), if_neg (by simp [i3])]
theorem rd_more {w w' : World} {n c : Nat} {A : Option Addr} {xs : List Int} (h : Rd w w.heap.size A n c xs) (hg : w.grownBy w' none) : Rd w' w'.heap.size A n c xs :=
  ⟨h.1, h.2.1, fun ad e i hi => ⟨Nat.lt_of_lt_of_le (h.2.2 ad e i hi).1 hg.size, hg.cell (h.2.2 ad e i hi).2 (by simp)⟩⟩
section
variable {w0 W : World} {B : Nat} {I : Ids} {x : Hs} {g r t N c H M : Nat} {s : Ps} {p : Int} {b : Option Nat} {sh : List Int}
theorem Fr.ends (h : Fr w0 B I g r t N c H M x s p b W) (U : rc.Un x sh r N s p) (hi : tc.Ts.idle ⟨s, p⟩ = true) (hT : bm.Tab w0) (R : Rk N x) (hN : N ≤ 12) {A : Option Addr} {m c5 : Nat} (hr : Rd W W.heap.size A m c5 sh) (hS : ∀ a ∈ sh, a ∈ x.tk) (hm : m = sh.length) (hl : m ≤ 20) (hA : (A = none ∧ m = 0 ∧ c5 = 0) ∨ ∃ ad, A = some ad ∧ 0 < m) :
    ∃ (xs : List Int) (k : Nat), xs.length = k ∧ k ≤ 2048 ∧
      (∀ W2, W.grownBy W2 none → Calls Tryz.prog 16 #[.pointer (some ⟨g, 0, none⟩)] W2 fun e w' => ∃ A c, e = .returned (.slice A k c) ∧ Rd w' w'.heap.size A k c xs ∧ W.grownBy w' none) ∧
      (∀ W2, W.grownBy W2 none → ∀ Y A2 c2, Rd W2 Y A2 k c2 xs → Calls Tryz.prog 17 #[.pointer (some ⟨H, 0, none⟩), .slice A m c5] W2 fun e w' => ∃ A3 c3, e = .returned (.slice A3 k c3) ∧ (Rd w' w'.heap.size A3 k c3 xs ∧ Rd w' Y A2 k c2 xs) ∧ W.grownBy w' none) ∧
      (∀ W2, W.grownBy W2 none → ∀ Y A2 c2 Z A3 c3, Rd W2 Y A2 k c2 xs → Rd W2 Z A3 k c3 xs → Calls Tryz.prog 15 #[.slice A2 k c2, .slice A3 k c3] W2 fun e w' => e = .returned (.bool true) ∧ W.grownBy w' none) ∧
      (∀ W2, W.grownBy W2 none → Calls Tryz.prog 18 #[.pointer (some ⟨t, 0, none⟩)] W2 fun e w' => e = .returned (.bool true) ∧ W.grownBy w' none) ∧
      (∀ W2, W.grownBy W2 none → Calls Tryz.prog 19 #[.pointer (some ⟨g, 0, none⟩)] W2 fun e w' => e = .returned (.int .i64 0) ∧ W.grownBy w' none) := by
  obtain ⟨e1, hmk⟩ := U.marks hi
  have hb : ∀ W2, W.grownBy W2 none → ∃ L K J, Wp w0 W2 B I x L g r s t N c (tc.left N p) K H (ph.toq x) J M none0 (-1) := fun W2 hg => (h.rz.new hg).1
  have hp := h.2
  have hV := h.rz.iv.1
  refine ⟨bm.nums s.ws, _, rfl, pre_len s.ws 2048, fun W2 hg => ?_, fun W2 hg Y A2 c2 r2 => ?_, fun W2 hg Y A2 c2 Z A3 c3 r2 r3 => ?_, fun W2 hg => ?_, fun W2 hg => ?_⟩
  · obtain ⟨L, K, J, h1⟩ := hb W2 hg
    refine (All_any h1.tw.gy (hT.kept h1.gr (by simp))).mono fun e w' k => ?_
    obtain ⟨A, c, k1, k2, k3⟩ := k
    exact ⟨A, c, k1, bm.rd_own k2, hg.trans k3⟩
  · obtain ⟨L, K, J, h1⟩ := hb W2 hg
    rcases hA with ⟨rfl, h0, rfl⟩ | ⟨ad, rfl, h0⟩
    · subst h0
      have hn : sh = [] := List.length_eq_zero_iff.1 hm.symm
      have hz : bm.nums s.ws = [] := List.eq_nil_iff_forall_not_mem.2 fun a ha => by
        have h2 := (hmk a).1 ha
        rw [hn] at h2
        exact h2 (fun _ => False) (fun b hb => by cases hb) (fun b v hb _ _ => hb.elim)
      rw [hz] at r2 ⊢
      refine rc.closure_nil.mono fun e w' k => ?_
      obtain ⟨A', c', k1, k2, k3⟩ := k
      exact ⟨A', c', k1, ⟨k2, rd_new r2 k3⟩, hg.trans k3⟩
    · refine (rc.closure_any h1.gp.pl hV R hN hS (by omega) (rd_more hr hg) h0).mono fun e w' k => ?_
      obtain ⟨xs, ⟨A', c', k1, k2, k3⟩, k4, k5⟩ := k
      have e2 : xs = bm.nums s.ws := bm.up_eq k4 (bm.nums_up _) fun a => (k5 a).trans (hmk a).symm
      subst e2
      exact ⟨A', c', k1, ⟨k2, rd_new r2 k3⟩, hg.trans k3⟩
  · have hle : (bm.nums s.ws).length ≤ 4194304 := Nat.le_trans (pre_len s.ws 2048) (by omega)
    exact (bm.Ints_true _ _ _ _ _ _ _ _ _ W2 hle rfl r2 r3).mono fun e w' k => ⟨k.1, hg.trans (drew_grown k.2 _)⟩
  · obtain ⟨L, K, J, h1⟩ := hb W2 hg
    exact (tc.Idle_any h1.tw rfl hp).mono fun e w' k => ⟨by rw [k.1, hi], k.2 ▸ hg⟩
  · obtain ⟨L, K, J, h1⟩ := hb W2 hg
    refine (Waiting_any h1.tw.gy).mono fun e w' k => ⟨?_, k.2 ▸ hg⟩
    unfold tc.Ts.idle at hi
    simp only [Bool.and_eq_true, decide_eq_true_eq, Bool.not_eq_true'] at hi
    rw [k.1, hi.1.1]
    rfl
end
end Go.Proofs.YtacjleladjgkeaaGreatDoor.tr
