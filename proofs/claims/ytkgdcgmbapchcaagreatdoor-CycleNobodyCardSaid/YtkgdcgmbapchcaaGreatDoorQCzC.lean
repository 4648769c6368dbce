/- Texts that this claim stands on. -/
import Derived.Deep.RegionWith
import Derived.Test.YtkgdcgmbapchcaaGreatDoorQCzB
namespace Go.Proofs.YtkgdcgmbapchcaaGreatDoor.cy
open Go.ChangeShapes Go.WideShapes Go.ChangeAt Go.RowKit gen calls cls geos ce st sh
set_option linter.unusedVariables false
set_option maxHeartbeats 4000000
set_option maxRecDepth 100000
section
variable {w w' : World} {k : Kn} {c : Cb} {L K M : List Nat} {σ : Cy} {B g r n cc : Nat} {s : Ps}
theorem there_any (B : Nat) (w : World) : Calls Tryz.prog 64 #[.pointer (some ⟨B, 0, none⟩)] w fun e w' => e = .returned (.pointer (some ⟨B, 0, none⟩)) ∧ w = w' := by
  go_enter Tryz.func64, Tryz.ntmps64
  go_wp2
  go_ret
  exact ⟨rfl, rfl⟩
theorem Phase_any (h : Cw w k c L K σ) : Calls Tryz.prog 21 #[.pointer (some ⟨c.B, 0, none⟩)] w fun e w' => e = .returned (.int .i64 σ.ph) ∧ w = w' := by
  obtain ⟨c0, c1, c2, c3, c4, c5, c6, c7, c8, c9, fz, hz⟩ := h.cells
  clear h
  go_enter Tryz.func21, Tryz.ntmps21
  go_wp2_with (go_at_call 64; (with_reducible refine (there_any _ _).mono ?_); rintro e w' ⟨rfl, rfl⟩)
  go_ret
  exact ⟨rfl, rfl⟩
theorem Cycles_any (h : Cw w k c L K σ) : Calls Tryz.prog 24 #[.pointer (some ⟨c.B, 0, none⟩)] w fun e w' => e = .returned (.int .i64 σ.cy) ∧ w = w' := by
  obtain ⟨c0, c1, c2, c3, c4, c5, c6, c7, c8, c9, fz, hz⟩ := h.cells
  clear h
  go_enter Tryz.func24, Tryz.ntmps24
  go_wp2_with (go_at_call 64; (with_reducible refine (there_any _ _).mono ?_); rintro e w' ⟨rfl, rfl⟩)
  go_ret
  exact ⟨rfl, rfl⟩
theorem Global_any (h : Cw w k c L K σ) : Calls Tryz.prog 42 #[.pointer (some ⟨c.B, 0, none⟩)] w fun e w' => e = .returned (.int .i64 k.gl) ∧ w = w' := by
  obtain ⟨c0, c1, c2, c3, c4, c5, c6, c7, c8, c9, fz, hz⟩ := h.cells
  clear h
  go_enter Tryz.func42, Tryz.ntmps42
  go_wp2_with (go_at_call 64; (with_reducible refine (there_any _ _).mono ?_); rintro e w' ⟨rfl, rfl⟩)
  go_ret
  exact ⟨rfl, rfl⟩
theorem Live_any (h : Cw w k c L K σ) (t : Int) : Calls Tryz.prog 38 #[.pointer (some ⟨c.B, 0, none⟩), .int .i64 t] w fun e w' => e = .returned (.bool (σ.lv t)) ∧ w = w' := by
  obtain ⟨c0, c1, c2, c3, c4, c5, c6, c7, c8, c9, fz, hz⟩ := h.cells
  have CC := Lib.hid (ep.Live_any h.rg t)
  clear h
  go_enter Tryz.func38, Tryz.ntmps38
  go_wp2_with (first
    | (go_at_call 64; (with_reducible refine (there_any _ _).mono ?_); rintro e w' ⟨rfl, rfl⟩)
    | (go_at_call 95; (with_reducible refine CC.out.mono ?_); rintro e w2 ⟨rfl, rfl⟩))
  go_ret
  exact ⟨rfl, rfl⟩
theorem Fields_any (h : Cw w k c L K σ) (a : Int) : Calls Tryz.prog 40 #[.pointer (some ⟨c.B, 0, none⟩), .int .i64 a] w fun e w' => e = .returned (.int .i64 (flen σ.x a)) ∧ w.grownBy w' none := by
  obtain ⟨c0, c1, c2, c3, c4, c5, c6, c7, c8, c9, fz, hz⟩ := h.cells
  have CC := Lib.hid (sFields h.tw.sr h.tw.iv h.tw.s8 a)
  clear h
  go_enter Tryz.func40, Tryz.ntmps40
  go_wp2_with (first
    | (go_at_call 64; (with_reducible refine (there_any _ _).mono ?_); rintro e w' ⟨rfl, rfl⟩)
    | (go_at_call 97; (with_reducible refine CC.out.mono ?_); rintro e w2 ⟨rfl, hg⟩; have G2 := Lib.hid hg; clear hg))
  go_ret
  exact ⟨rfl, G2.out⟩
theorem shs_take {xs : List Int} {j : Nat} (h : j < xs.length) (r : Nat) (s : Ps) : shs r s (xs.take (j + 1)) = (shs r s (xs.take j)).shade r (xs.getD j 0) := by
  unfold shs
  rw [li.take_more h 0, List.foldl_append]
  rfl
theorem hshade_any (c1 : w.cell? ⟨B, 1, none⟩ = some (.pointer (some ⟨g, 0, none⟩))) (h : Gy w L g r s) (hB : B ∉ L) {b : Nat} {A : Option Addr} {xs : List Int} (hr : Rd w b A n cc xs) (hJ : ∀ ad, A = some ad → 0 < n → ad.block ∉ L) (hn : n ≤ 4096) (hb : ∀ ad, A = some ad → 0 < n → ad.block < w.heap.size) :
    Calls Tryz.prog 69 #[.pointer (some ⟨B, 0, none⟩), .slice A n cc] w (Ga L g r (.tuple #[]) (shs r s xs) w) := by
  have HH := Lib.hid h
  have HR := Lib.hid hr
  have HJ := Lib.hid hJ
  have HC := Lib.hid c1
  have HBl := Lib.hid hB
  have HLt := Lib.hid hb
  have TM := Lib.hid (fun j (hj : j < n) => shs_take (xs := xs) (j := j) (by rw [hr.1]; exact hj) r s)
  have FU := Lib.hid (show xs.take n = xs by rw [List.take_of_length_le (by rw [hr.1]; omega)])
  clear h hr hJ c1 hB hb
  go_enter Tryz.func69, Tryz.ntmps69
  go_wp2
  go_loopw [5, 8] (fun u i wr => ∃ (j : Nat) (L1 : List Nat), j ≤ n ∧ i = .int .i64 j ∧ (∀ q, q ∈ L1 → q ∈ L ∨ w.heap.size ≤ q) ∧ Gy wr L1 g r (shs r s (xs.take j)) ∧ Gr L w wr) (fun _ i _ => n - (intOf i).toNat)
  case atStart => exact ⟨0, L, Nat.zero_le _, rfl, fun q hq => .inl hq, HH.out, ⟨rfl, rfl, rfl, Nat.le_refl _, fun _ _ _ => rfl⟩⟩
  case round =>
    obtain ⟨j, L1, hj, rfl, hl1, hy1, hg1⟩ := hrel
    have HL1 := Lib.hid hl1
    have HY1 := Lib.hid hy1
    have HG1 := Lib.hid hg1
    clear hl1 hy1 hg1
    by_cases hlt : j < n
    · have c1 := HG1.out.cell HC.out HBl.out
      obtain ⟨b1, o1, e, g1⟩ := HR.out.at_ hlt
      have g1 := HG1.out.cell g1 (show b1 ∉ L from HJ.out ⟨b1, o1, none⟩ e (by omega))
      have M1 := Lib.hid (TM.out j hlt)
      have l1 : (0 : Int) ≤ (j : Int) := by omega
      have l2 : (j : Int) < n := by omega
      subst e
      generalize xs.getD j 0 = z at *
      have SH := Lib.hid (Shade_any HY1.out z)
      go_wp2_with (go_at_call 132; (with_reducible refine SH.out.mono ?_); rintro e2 w2 ⟨rfl, L2, h1, h2, h3⟩; have R2 := Lib.hid (And.intro h1 (And.intro h2 h3)); clear h1 h2 h3)
      go_roundw
      case rel =>
        obtain ⟨h1, h2, h3⟩ := R2.out
        exact ⟨j + 1, L2, by omega, by go_num, fun q hq => (h1 q hq).elim (HL1.out q) (fun e => .inr (Nat.le_trans HG1.out.size e)), by rw [M1.out]; exact h2, HG1.out.own h3 HL1.out⟩
      case measure => first | (simp [intOf]; done) | (simp [intOf]; omega)
    · obtain rfl : j = n := by omega
      go_wp2
      go_end0
      have h1 := HY1.out
      rw [FU.out] at h1
      exact ⟨rfl, L1, HL1.out, h1, HG1.out⟩
end
end Go.Proofs.YtkgdcgmbapchcaaGreatDoor.cy
namespace Go.Proofs.YtkgdcgmbapchcaaGreatDoor.cy
end Go.Proofs.YtkgdcgmbapchcaaGreatDoor.cy
namespace Go.Proofs.YtkgdcgmbapchcaaGreatDoor.cy
open Go.ChangeShapes Go.WideShapes Go.ChangeAt Go.RowKit gen calls cls geos ce st sh
set_option linter.unusedVariables false
set_option maxHeartbeats 4000000
set_option maxRecDepth 100000
def clrs (s : Ps) (l : List Int) : Ps := l.foldl (fun s a => s.clear a) s
theorem clrs_take {xs : List Int} {j : Nat} (h : j < xs.length) (s : Ps) : clrs s (xs.take (j + 1)) = (clrs s (xs.take j)).clear (xs.getD j 0) := by
  unfold clrs
  rw [li.take_more h 0, List.foldl_append]
  rfl
section
variable {w0 W w w' : World} {k : Kn} {c : Cb} {L0 K0 L K M : List Nat} {σ : Cy} {B g r n cc : Nat} {s : Ps}
theorem hunmark_any (c1 : w.cell? ⟨B, 1, none⟩ = some (.pointer (some ⟨g, 0, none⟩))) (h : Gy w L g r s) (hB : B ∉ L) {b : Nat} {A : Option Addr} {xs : List Int} (hr : Rd w b A n cc xs) (hJ : ∀ ad, A = some ad → 0 < n → ad.block ∉ L) (hn : n ≤ 4096) :
    Calls Tryz.prog 148 #[.pointer (some ⟨B, 0, none⟩), .slice A n cc] w (Ga L g r (.tuple #[]) (clrs s xs) w) := by
  have HH := Lib.hid h
  have HR := Lib.hid hr
  have HJ := Lib.hid hJ
  have HC := Lib.hid c1
  have HBl := Lib.hid hB
  have TM := Lib.hid (fun j (hj : j < n) => clrs_take (xs := xs) (j := j) (by rw [hr.1]; exact hj) s)
  have FU := Lib.hid (show xs.take n = xs by rw [List.take_of_length_le (by rw [hr.1]; omega)])
  clear h hr hJ c1 hB
  go_enter Tryz.func148, Tryz.ntmps148
  go_wp2
  go_loopw [5, 8] (fun u i wr => ∃ (j : Nat) (L1 : List Nat), j ≤ n ∧ i = .int .i64 j ∧ (∀ q, q ∈ L1 → q ∈ L ∨ w.heap.size ≤ q) ∧ Gy wr L1 g r (clrs s (xs.take j)) ∧ Gr L w wr) (fun _ i _ => n - (intOf i).toNat)
  case atStart => exact ⟨0, L, Nat.zero_le _, rfl, fun q hq => .inl hq, HH.out, ⟨rfl, rfl, rfl, Nat.le_refl _, fun _ _ _ => rfl⟩⟩
  case round =>
    obtain ⟨j, L1, hj, rfl, hl1, hy1, hg1⟩ := hrel
    have HL1 := Lib.hid hl1
    have HY1 := Lib.hid hy1
    have HG1 := Lib.hid hg1
    clear hl1 hy1 hg1
    by_cases hlt : j < n
    · have c1 := HG1.out.cell HC.out HBl.out
      obtain ⟨b1, o1, e, g1⟩ := HR.out.at_ hlt
      have g1 := HG1.out.cell g1 (show b1 ∉ L from HJ.out ⟨b1, o1, none⟩ e (by omega))
      have M1 := Lib.hid (TM.out j hlt)
      have l1 : (0 : Int) ≤ (j : Int) := by omega
      have l2 : (j : Int) < n := by omega
      subst e
      generalize xs.getD j 0 = z at *
      have SH := Lib.hid (Clear_any HY1.out z)
      go_wp2_with (go_at_call 213; (with_reducible refine SH.out.mono ?_); rintro e2 w2 ⟨rfl, L2, h1, h2, h3⟩; have R2 := Lib.hid (And.intro h1 (And.intro h2 h3)); clear h1 h2 h3)
      go_roundw
      case rel =>
        obtain ⟨h1, h2, h3⟩ := R2.out
        exact ⟨j + 1, L2, by omega, by go_num, fun q hq => (h1 q hq).elim (HL1.out q) (fun e => .inr (Nat.le_trans HG1.out.size e)), by rw [M1.out]; exact h2, HG1.out.own h3 HL1.out⟩
      case measure => first | (simp [intOf]; done) | (simp [intOf]; omega)
    · obtain rfl : j = n := by omega
      go_wp2
      go_end0
      have h1 := HY1.out
      rw [FU.out] at h1
      exact ⟨rfl, L1, HL1.out, h1, HG1.out⟩
theorem Cx.hshade (h : Cx w0 k c L0 K0 σ W) {b : Nat} {A : Option Addr} {xs : List Int} (hr : Rd W b A n cc xs) (hJ : ∀ L K, Cw W k c L K σ → ∀ ad, A = some ad → 0 < n → ad.block ∉ L) (hn : n ≤ 4096) (hb : ∀ ad, A = some ad → 0 < n → ad.block < W.heap.size) :
    Calls Tryz.prog 69 #[.pointer (some ⟨c.B, 0, none⟩), .slice A n cc] W fun e w' => e = .returned (.tuple #[]) ∧ Cx w0 k c L0 K0 { σ with s := shs k.r σ.s xs } w' :=
  h.grey fun L K hw => hshade_any hw.cells.2.1 hw.tw.gy hw.dj.B.2.1 hr (hJ L K hw) hn hb
theorem Cx.hunmark (h : Cx w0 k c L0 K0 σ W) {b : Nat} {A : Option Addr} {xs : List Int} (hr : Rd W b A n cc xs) (hJ : ∀ L K, Cw W k c L K σ → ∀ ad, A = some ad → 0 < n → ad.block ∉ L) (hn : n ≤ 4096) :
    Calls Tryz.prog 148 #[.pointer (some ⟨c.B, 0, none⟩), .slice A n cc] W fun e w' => e = .returned (.tuple #[]) ∧ Cx w0 k c L0 K0 { σ with s := clrs σ.s xs } w' :=
  h.grey fun L K hw => hunmark_any hw.cells.2.1 hw.tw.gy hw.dj.B.2.1 hr (hJ L K hw) hn
theorem int_off (hw : Cw W k c L K σ) {b : Nat} {cs : Array Value} {z : Nat × Nat} (hb : W.heap[b]? = some (.cells cs 3 z)) : b ∉ L := hw.tw.gy.off hb (by decide) (by decide) (by decide) (by decide)
end
end Go.Proofs.YtkgdcgmbapchcaaGreatDoor.cy
