/- Texts that this claim stands on. -/
import Derived.Test.YtfhebjkoojodiaaDoorQGpR
namespace Go.Proofs.YtfhebjkoojodiaaDoor.gp
open Go.ChangeShapes Go.WideShapes Go.ChangeAt Go.RowKit gen va cd
set_option linter.unusedVariables false
set_option maxHeartbeats 2000000
set_option maxRecDepth 100000
def Vr (w : World) (B : Nat) (A : Option Addr) (n : Nat) (rs : List (List Va)) : Prop := rs.length = n ∧ ∀ i, i < n → ∃ b off C k c, A = some ⟨b, off, none⟩ ∧ b < B ∧ w.cell? ⟨b, off + i, none⟩ = some (.slice C k c) ∧ Rv w B C k c (rs.getD i []) ∧ ∀ ad, C = some ad → ad.block < B
def Vn (w : World) (B : Nat) (A : Option Addr) (n : Nat) (ns : List (Int × List Va)) : Prop := ns.length = n ∧ ∀ i, i < n → ∃ b off C k c, A = some ⟨b, off, none⟩ ∧ b < B ∧ w.cell? ⟨b, off + i * 2, none⟩ = some (.int .i64 (ns.getD i (0, [])).1) ∧ w.cell? ⟨b, off + i * 2 + 1, none⟩ = some (.slice C k c) ∧ Rv w B C k c (ns.getD i (0, [])).2 ∧ ∀ ad, C = some ad → ad.block < B
theorem rv_far {w w' : World} {B n c : Nat} {A : Option Addr} {m : List Va} {row : Option Nat} (h : Rv w B A n c m) (hg : w.grownBy w' row) (hr : ∀ q, row = some q → B ≤ q) : Rv w' B A n c m := by
  refine ⟨h.1, h.2.1, h.2.2.1, fun i hi => ?_⟩
  obtain ⟨b, off, e, hb, h1, h2⟩ := h.2.2.2 i hi
  have hne : some b ≠ row := fun e => by have := hr b e.symm; omega
  exact ⟨b, off, e, hb, hg.cell h1 hne, hg.cell h2 hne⟩
theorem Vr.far {w w' : World} {B n : Nat} {A : Option Addr} {rs : List (List Va)} {row : Option Nat} (h : Vr w B A n rs) (hg : w.grownBy w' row) (hr : ∀ q, row = some q → B ≤ q) : Vr w' B A n rs := by
  refine ⟨h.1, fun i hi => ?_⟩
  obtain ⟨b, off, C, k, c, e, hb, h1, h2, h3⟩ := h.2 i hi
  have hne : some b ≠ row := fun e => by have := hr b e.symm; omega
  exact ⟨b, off, C, k, c, e, hb, hg.cell h1 hne, rv_far h2 hg hr, h3⟩
theorem Vn.far {w w' : World} {B n : Nat} {A : Option Addr} {ns : List (Int × List Va)} {row : Option Nat} (h : Vn w B A n ns) (hg : w.grownBy w' row) (hr : ∀ q, row = some q → B ≤ q) : Vn w' B A n ns := by
  refine ⟨h.1, fun i hi => ?_⟩
  obtain ⟨b, off, C, k, c, e, hb, h0, h1, h2, h3⟩ := h.2 i hi
  have hne : some b ≠ row := fun e => by have := hr b e.symm; omega
  exact ⟨b, off, C, k, c, e, hb, hg.cell h0 hne, hg.cell h1 hne, rv_far h2 hg hr, h3⟩
section
variable {w : World} {rs : List (List Va)} {ns : List (Int × List Va)} {B1 B2 : Nat} {A1 A2 N1 N2 : Option Addr} {n1 n2 m1 m2 c1 c2 d1 d2 : Nat}
theorem View_true (h1 : Vr w B1 A1 n1 rs) (h2 : Vr w B2 A2 n2 rs) (k1 : Vn w B1 N1 m1 ns) (k2 : Vn w B2 N2 m2 ns) (hn : rs.length ≤ 100000) (hm : ns.length ≤ 100000) (hr : ∀ i, (rs.getD i []).length ≤ 100000) (hf : ∀ i, (ns.getD i (0, [])).2.length ≤ 100000) (hs : B1 ≤ w.heap.size) (ht : B2 ≤ w.heap.size) :
    Calls Tryd.prog 14 #[.agg #[.slice A1 n1 c1, .slice N1 m1 d1], .agg #[.slice A2 n2 c2, .slice N2 m2 d2]] w fun e w' => e = .returned (.bool true) ∧ w.grownBy w' none := by
  obtain rfl : n1 = n2 := by rw [← h1.1, ← h2.1]
  obtain rfl : m1 = m2 := by rw [← k1.1, ← k2.1]
  have l1 := h1.1
  have l2 := k1.1
  have R1 := Lib.hid h1
  have R2 := Lib.hid h2
  have S1 := Lib.hid k1
  have S2 := Lib.hid k2
  have HR := Lib.hid hr
  have HF := Lib.hid hf
  obtain ⟨wb, hwb⟩ : ∃ wb, wb = (w.alloc (.cells #[.slice A1 n1 c1, .slice N1 m1 d1] 45)).alloc (.cells #[.slice A2 n1 c2, .slice N2 m1 d2] 45) := ⟨_, rfl⟩
  have G0 := Lib.hid (show w.grownBy wb none by rw [hwb]; exact (grown_alloc _ _).trans (grown_alloc _ _))
  have f0 : wb.cell? ⟨w.heap.size, 0, none⟩ = some (.slice A1 n1 c1) := by rw [hwb]; simp [go_sem]
  have f1 : wb.cell? ⟨w.heap.size, 1, none⟩ = some (.slice N1 m1 d1) := by rw [hwb]; simp [go_sem]
  have f2 : wb.cell? ⟨w.heap.size + 1, 0, none⟩ = some (.slice A2 n1 c2) := by rw [hwb]; simp [go_sem]
  have f3 : wb.cell? ⟨w.heap.size + 1, 1, none⟩ = some (.slice N2 m1 d2) := by rw [hwb]; simp [go_sem]
  have F := Lib.hid (And.intro f0 (And.intro f1 (And.intro f2 f3)))
  have HW := Lib.hid hwb
  clear h1 h2 k1 k2 hwb f0 f1 f2 f3 hr hf
  go_enter Tryd.func14, Tryd.ntmps14
  go_wp2
  go_loopw [5] (fun x wr => ∃ k : Nat, k ≤ n1 ∧ x = .int .i64 (k : Int) ∧ wb.grownBy wr none) (fun x _ => n1 - (intOf x).toNat)
  case atStart => exact ⟨0, Nat.zero_le _, rfl, by rw [HW.out]; exact World.grownBy.refl _ _⟩
  case round =>
    obtain ⟨k, hk, rfl, hg⟩ := hrel
    have f0 := hg.cell F.out.1 (by simp)
    have f1 := hg.cell F.out.2.1 (by simp)
    have f2 := hg.cell F.out.2.2.1 (by simp)
    have f3 := hg.cell F.out.2.2.2 (by simp)
    have GX := Lib.hid hg
    have GW := Lib.hid (G0.out.trans hg)
    clear hg
    by_cases hlt : k < n1
    · obtain ⟨b, off, C, j, c, rfl, hb, e1, e2, -⟩ := (R1.out.far GW.out (by simp)).2 k hlt
      obtain ⟨b', off', C', j', c', rfl, hb', e1', e2', -⟩ := (R2.out.far GW.out (by simp)).2 k hlt
      have E2 := Lib.hid e2
      have E2' := Lib.hid e2'
      have l3 : (0 : Int) ≤ (k : Int) := by omega
      have l4 : (k : Int) < (n1 : Int) := by omega
      clear e2 e2'
      have LJ := Lib.hid (show j ≤ 4194304 by have := HR.out k; have := E2.out.1; omega)
      have LE := Lib.hid (E2.out.1.symm.trans E2'.out.1)
      have V := Lib.hid (fun W (hg : wr.grownBy W none) => And.intro (rv_far E2.out hg (by simp)) (rv_far E2'.out hg (by simp)))
      go_wp2
      go_region_held3 (fun W => W.cell? ⟨w.heap.size, 0, none⟩ = some (.slice (some ⟨b, off, none⟩) n1 c1) ∧ W.cell? ⟨w.heap.size + 1, 0, none⟩ = some (.slice (some ⟨b', off', none⟩) n1 c2) ∧ W.cell? ⟨b, off + k, none⟩ = some (.slice C j c) ∧ W.cell? ⟨b', off' + k, none⟩ = some (.slice C' j' c')) (go_keep) (first
        | (go_at_call 27; (with_reducible refine (Values_true _ _ _ _ _ _ _ _ _ _ LJ.out LE.out (V.out _ (by first | with_reducible exact gr.grown_drew _ _ | with_reducible exact World.grownBy.refl _ _)).1 (V.out _ (by first | with_reducible exact gr.grown_drew _ _ | with_reducible exact World.grownBy.refl _ _)).2).mono ?_); rintro r w5 ⟨rfl, q5, rfl⟩))
      go_wp2
      exact ⟨⟨k + 1, by omega, by go_num, GX.out.trans (li.grown_drewN _ _ _)⟩, by simp [intOf]; omega⟩
    · have ek : k = n1 := by omega
      subst ek
      go_wp2
      go_loopw [6] (fun x wr => ∃ k : Nat, k ≤ m1 ∧ x = .int .i64 (k : Int) ∧ wb.grownBy wr none) (fun x _ => m1 - (intOf x).toNat)
      case atStart => exact ⟨0, Nat.zero_le _, rfl, GX.out⟩
      case round =>
        obtain ⟨i, hi, rfl, hg⟩ := hrel
        have f0 := hg.cell F.out.1 (by simp)
        have f1 := hg.cell F.out.2.1 (by simp)
        have f2 := hg.cell F.out.2.2.1 (by simp)
        have f3 := hg.cell F.out.2.2.2 (by simp)
        have GX := Lib.hid hg
        have GW := Lib.hid (G0.out.trans hg)
        clear hg
        by_cases hlt : i < m1
        · obtain ⟨b, off, C, j, c, rfl, hb, e0, e1, e2, -⟩ := (S1.out.far GW.out (by simp)).2 i hlt
          obtain ⟨b', off', C', j', c', rfl, hb', e0', e1', e2', -⟩ := (S2.out.far GW.out (by simp)).2 i hlt
          have E2 := Lib.hid e2
          have E2' := Lib.hid e2'
          have LJ := Lib.hid (show j ≤ 4194304 by have := HF.out i; have := E2.out.1; omega)
          have LE := Lib.hid (E2.out.1.symm.trans E2'.out.1)
          have V := Lib.hid (fun W (hg : wr.grownBy W none) => And.intro (rv_far E2.out hg (by simp)) (rv_far E2'.out hg (by simp)))
          obtain ⟨x, hx⟩ : ∃ x, x = (ns.getD i (0, [])).1 := ⟨_, rfl⟩
          rw [← hx] at e0 e0'
          have l3 : (0 : Int) ≤ (i : Int) := by omega
          have l4 : (i : Int) < (m1 : Int) := by omega
          clear e2 e2'
          go_wp2
          go_region_held3 (fun W => W.cell? ⟨w.heap.size, 1, none⟩ = some (.slice (some ⟨b, off, none⟩) m1 d1) ∧ W.cell? ⟨w.heap.size + 1, 1, none⟩ = some (.slice (some ⟨b', off', none⟩) m1 d2) ∧ W.cell? ⟨b, off + i * 2, none⟩ = some (.int .i64 x) ∧ W.cell? ⟨b', off' + i * 2, none⟩ = some (.int .i64 x) ∧ W.cell? ⟨b, off + i * 2 + 1, none⟩ = some (.slice C j c) ∧ W.cell? ⟨b', off' + i * 2 + 1, none⟩ = some (.slice C' j' c')) (go_keep) (first
            | (go_at_call 27; (with_reducible refine (Values_true _ _ _ _ _ _ _ _ _ _ LJ.out LE.out (V.out _ (by first | with_reducible exact gr.grown_drew _ _ | with_reducible exact World.grownBy.refl _ _)).1 (V.out _ (by first | with_reducible exact gr.grown_drew _ _ | with_reducible exact World.grownBy.refl _ _)).2).mono ?_); rintro r w5 ⟨rfl, q5, rfl⟩))
          go_wp2
          exact ⟨⟨i + 1, by omega, by go_num, GX.out.trans (li.grown_drewN _ _ _)⟩, by simp [intOf]; omega⟩
        · have ei : i = m1 := by omega
          subst ei
          go_wp2
          exact bodyPost_ret (v := .bool true) (by simp [results, Tryd.results14, go_sem, *]) rfl ⟨rfl, GW.out⟩
end
end Go.Proofs.YtfhebjkoojodiaaDoor.gp
