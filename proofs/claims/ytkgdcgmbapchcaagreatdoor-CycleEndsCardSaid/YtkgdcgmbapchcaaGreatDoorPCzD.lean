/- Texts that this claim stands on. -/
import Derived.Deep.RegionWith
import Derived.Test.YtkgdcgmbapchcaaGreatDoorPCzB
import Derived.Test.YtkgdcgmbapchcaaGreatDoorPTcY
namespace Go.Proofs.YtkgdcgmbapchcaaGreatDoor.cy
open Go.ChangeShapes Go.WideShapes Go.ChangeAt Go.RowKit gen calls cls geos ce st sh
set_option linter.unusedVariables false
set_option maxHeartbeats 4000000
set_option maxRecDepth 100000
def Cy.tks (σ : Cy) (v : Va) : Bool := decide (wd.chk v.1 v.2 = 0) && (decide (v.1 ≠ 2) || decide (v.2 ∈ σ.x.tk))
section
variable {w w' : World} {k : Kn} {c : Cb} {L K M : List Nat} {σ : Cy}
theorem same_symm {f : Nat} {a : Array Value} {r : Ending} (h : Calls Tryz.prog f a w fun e w' => e = r ∧ w = w') : Calls Tryz.prog f a w fun e w' => e = r ∧ w' = w := h.mono fun e w' ⟨a, b⟩ => ⟨a, b.symm⟩
theorem takes_any (h : Cw w k c L K σ) (v1 v2 : Int) : Calls Tryz.prog 89 #[.pointer (some ⟨c.B, 0, none⟩), .agg #[.int .i64 v1, .int .i64 v2]] w fun e w' => e = .returned (.bool (σ.tks (v1, v2))) ∧ w.grownBy w' none := by
  have C0 := Lib.hid (wd.Two.new w 36 v1 v2 rfl)
  have G0 := Lib.hid (World.grownBy_alloc w (.cells #[.int .i64 v1, .int .i64 v2] 36) none)
  have HS := Lib.hid (fun W (hg : w.grownBy W none) => has_any (h.new hg) v2)
  have HE := Lib.hid (show σ.tks (v1, v2) = (decide (wd.chk v1 v2 = 0) && (decide (v1 ≠ 2) || decide (v2 ∈ σ.x.tk))) from rfl)
  have CK := Lib.hid (fun W => wd.Check_any v1 v2 W)
  generalize σ.tks (v1, v2) = y at *
  generalize decide (v2 ∈ σ.x.tk) = b at *
  clear h
  by_cases h0 : wd.chk v1 v2 = 0
  · have t0 : (wd.chk v1 v2 == 0) = true := by simpa using h0
    by_cases h2 : v1 = 2
    · subst h2
      have HB := Lib.hid (show y = b by rw [HE.out]; simp [h0])
      generalize wd.chk 2 v2 = z at *
      clear h0 HE
      go_enter Tryz.func89, Tryz.ntmps89
      go_wp2_with (first
        | (go_at_call 164; (with_reducible refine (CK.out _).mono ?_); rintro e w1 ⟨rfl, hb⟩; obtain ⟨d0, d1, d2, d3⟩ := wd.Two.below hb C0.out; have G1 := Lib.hid (G0.out.trans (ro.grown_of hb)); clear hb)
        | (go_at_call 129; (with_reducible refine (HS.out _ G1.out).mono ?_); rintro e w2 ⟨rfl, hg⟩; have G2 := Lib.hid (G1.out.trans hg); clear hg))
      go_ret
      exact ⟨by rw [HB.out]; rfl, G2.out⟩
    · have t2 : (v1 != 2) = true := by simpa using h2
      have HB := Lib.hid (show y = true by rw [HE.out]; simp [h0, h2])
      generalize wd.chk v1 v2 = z at *
      clear h0 h2 HE
      go_enter Tryz.func89, Tryz.ntmps89
      go_wp2_with (go_at_call 164; (with_reducible refine (CK.out _).mono ?_); rintro e w1 ⟨rfl, hb⟩; obtain ⟨d0, d1, d2, d3⟩ := wd.Two.below hb C0.out; have G1 := Lib.hid (G0.out.trans (ro.grown_of hb)); clear hb)
      go_ret
      exact ⟨by rw [HB.out]; rfl, G1.out⟩
  · have t0 : (wd.chk v1 v2 == 0) = false := by simpa using h0
    have HB := Lib.hid (show y = false by rw [HE.out]; simp [h0])
    generalize wd.chk v1 v2 = z at *
    clear h0 HE
    go_enter Tryz.func89, Tryz.ntmps89
    go_wp2_with (go_at_call 164; (with_reducible refine (CK.out _).mono ?_); rintro e w1 ⟨rfl, hb⟩; have G1 := Lib.hid (G0.out.trans (ro.grown_of hb)); clear hb)
    go_ret
    exact ⟨by rw [HB.out]; rfl, G1.out⟩
theorem marked_any (h : Cw w k c L K σ) (a : Int) : Calls Tryz.prog 66 #[.pointer (some ⟨c.B, 0, none⟩), .int .i64 a] w fun e w' => e = .returned (.bool (decide (a ∈ σ.x.tk) && isb σ.s.ws a)) ∧ w.grownBy w' none := by
  have HS := Lib.hid (has_any h a)
  have IS := Lib.hid (fun W (hg : w.grownBy W none) => Is_any (h.new hg).tw.gy a)
  have CC := Lib.hid (fun W (hg : w.grownBy W none) => (h.new hg).cells.2.1)
  generalize decide (a ∈ σ.x.tk) = b at *
  generalize isb σ.s.ws a = b2 at *
  clear h
  cases b with
  | true =>
    go_enter Tryz.func66, Tryz.ntmps66
    go_wp2_with (first
      | (go_at_call 129; (with_reducible refine HS.out.mono ?_); rintro e w1 ⟨rfl, hg⟩; have G1 := Lib.hid hg; have c1 := CC.out _ hg; clear hg)
      | (go_at_call 130; (with_reducible refine (IS.out _ G1.out).mono ?_); rintro e w2 ⟨rfl, hg⟩; have G2 := Lib.hid (G1.out.trans hg); clear hg))
    go_ret
    exact ⟨rfl, G2.out⟩
  | false =>
    go_enter Tryz.func66, Tryz.ntmps66
    go_wp2_with (go_at_call 129; (with_reducible refine HS.out.mono ?_); rintro e w1 ⟨rfl, hg⟩; have G1 := Lib.hid hg; clear hg)
    go_ret
    exact ⟨rfl, G1.out⟩
theorem Marked_any (h : Cw w k c L K σ) (a : Int) : Calls Tryz.prog 22 #[.pointer (some ⟨c.B, 0, none⟩), .int .i64 a] w fun e w' => e = .returned (.bool (decide (a ∈ σ.x.tk) && isb σ.s.ws a)) ∧ w.grownBy w' none := by
  have MK := Lib.hid (marked_any h a)
  generalize (decide (a ∈ σ.x.tk) && isb σ.s.ws a) = b at *
  clear h
  go_enter Tryz.func22, Tryz.ntmps22
  go_wp2_with (first
    | (go_at_call 64; (with_reducible refine (there_any _ _).mono ?_); rintro e w' ⟨rfl, rfl⟩)
    | (go_at_call 66; (with_reducible refine MK.out.mono ?_); rintro e w1 ⟨rfl, hg⟩; have G1 := Lib.hid hg; clear hg))
  go_ret
  exact ⟨rfl, G1.out⟩
theorem white_no (h : Cw w k c L K σ) {v1 v2 : Int} (hv : v1 ≠ 2) : Calls Tryz.prog 92 #[.pointer (some ⟨c.B, 0, none⟩), .agg #[.int .i64 v1, .int .i64 v2]] w fun e w' => e = .returned (.bool (σ.white (v1, v2))) ∧ w.grownBy w' none := by
  have C0 := Lib.hid (wd.Two.new w 36 v1 v2 rfl)
  have G0 := Lib.hid (World.grownBy_alloc w (.cells #[.int .i64 v1, .int .i64 v2] 36) none)
  have HB := Lib.hid (show σ.white (v1, v2) = false by unfold Cy.white; simp [hv])
  have t0 : (v1 == 2) = false := by simpa using hv
  generalize σ.white (v1, v2) = y at *
  obtain ⟨d0, d1, d2, d3⟩ := C0.out
  clear h hv
  go_enter Tryz.func92, Tryz.ntmps92
  go_wp2
  go_quiet (fail)
  go_wp2
  go_ret
  exact ⟨by rw [HB.out]; rfl, G0.out.trans (li.grown_drewN _ _ _)⟩
theorem white_yes (h : Cw w k c L K σ) {v2 : Int} (hv : v2 ∈ σ.x.tk) : Calls Tryz.prog 92 #[.pointer (some ⟨c.B, 0, none⟩), .agg #[.int .i64 2, .int .i64 v2]] w fun e w' => e = .returned (.bool (σ.white (2, v2))) ∧ w.grownBy w' none := by
  have C0 := Lib.hid (wd.Two.new w 36 2 v2 rfl)
  have G0 := Lib.hid (World.grownBy_alloc w (.cells #[.int .i64 2, .int .i64 v2] 36) none)
  have HB := Lib.hid (show σ.white (2, v2) = !isb σ.s.ws v2 by unfold Cy.white; simp [hv])
  have HS := Lib.hid (fun W (hg : w.grownBy W none) => show Calls Tryz.prog 129 #[.pointer (some ⟨c.B, 0, none⟩), .int .i64 v2] W fun e w' => e = .returned (.bool true) ∧ W.grownBy w' none by have := has_any (h.new hg) v2; rwa [decide_eq_true hv] at this)
  have IS := Lib.hid (fun W (hg : w.grownBy W none) => Is_any (h.new hg).tw.gy v2)
  have CC := Lib.hid (fun W (hg : w.grownBy W none) => (h.new hg).cells.2.1)
  have DD := Lib.hid (fun W (hg : (w.alloc (.cells #[.int .i64 2, .int .i64 v2] 36)).grownBy W none) => (show W.cell? ⟨w.heap.size, 0, none⟩ = some (.int .i64 2) ∧ W.cell? ⟨w.heap.size, 1, none⟩ = some (.int .i64 v2) from by obtain ⟨d0, d1, _⟩ := wd.Two.below (li.grown_below hg) C0.out; exact ⟨d0, d1⟩))
  generalize isb σ.s.ws v2 = b2 at *
  generalize σ.white (2, v2) = y at *
  have c1 := CC.out _ G0.out
  obtain ⟨d0, d1⟩ := DD.out _ (World.grownBy.refl _ _)
  clear h hv
  go_enter Tryz.func92, Tryz.ntmps92
  go_wp2
  go_region_held3 (fun W => W.cell? ⟨c.B, 1, none⟩ = some (.pointer (some ⟨c.g, 0, none⟩)) ∧ W.cell? ⟨w.heap.size, 0, none⟩ = some (.int .i64 2) ∧ W.cell? ⟨w.heap.size, 1, none⟩ = some (.int .i64 v2)) (first | with_reducible exact ⟨c1, d0, d1⟩ | with_reducible exact H1.out | with_reducible exact H2.out | go_keep) (first
    | (go_at_call 129; (with_reducible refine (HS.out _ (by first | exact G0.out | exact G0.out.trans (li.grown_drewN _ _ _) | exact G0.out.trans (gr.grown_drew _ _))).mono ?_); rintro e w1 ⟨rfl, hg⟩; have G1 := Lib.hid (show (w.alloc (.cells #[.int .i64 2, .int .i64 v2] 36)).grownBy w1 none from World.grownBy.trans (by first | exact World.grownBy.refl _ _ | exact (li.grown_drewN _ _ _) | exact (gr.grown_drew _ _)) hg); have H1 := Lib.hid (And.intro (CC.out _ (G0.out.trans G1.out)) (DD.out _ G1.out)); clear hg)
    | (go_at_call 130; (with_reducible refine (IS.out _ (by first | exact G0.out.trans G1.out | exact (G0.out.trans G1.out).trans (li.grown_drewN _ _ _) | exact (G0.out.trans G1.out).trans (gr.grown_drew _ _))).mono ?_); rintro e w2 ⟨rfl, hg⟩; have G2 := Lib.hid (show (w.alloc (.cells #[.int .i64 2, .int .i64 v2] 36)).grownBy w2 none from World.grownBy.trans (by first | exact G1.out | exact G1.out.trans (li.grown_drewN _ _ _) | exact G1.out.trans (gr.grown_drew _ _)) hg); have H2 := Lib.hid (And.intro (CC.out _ (G0.out.trans G2.out)) (DD.out _ G2.out)); clear hg))
  all_goals
    go_wp2
    go_ret
    exact ⟨by rw [HB.out]; rfl, by first | exact G0.out.trans G2.out | exact (G0.out.trans G2.out).trans (li.grown_drewN _ _ _) | exact (G0.out.trans G2.out).trans (gr.grown_drew _ _)⟩
end
end Go.Proofs.YtkgdcgmbapchcaaGreatDoor.cy
namespace Go.Proofs.YtkgdcgmbapchcaaGreatDoor.cy
open Go.ChangeShapes Go.WideShapes Go.ChangeAt Go.RowKit gen calls cls geos ce st sh
set_option linter.unusedVariables false
set_option maxHeartbeats 4000000
set_option maxRecDepth 100000
def clrs (s : Ps) (l : List Int) : Ps := l.foldl (fun s a => s.clear a) s
theorem clrs_take {xs : List Int} {j : Nat} (h : j < xs.length) (s : Ps) : clrs s (xs.take (j + 1)) = (clrs s (xs.take j)).clear (xs.getD j 0) := by
  unfold clrs
  rw [li.take_more h 0, List.foldl_append]
  rfl
theorem clear_no {s : Ps} {a : Int} (h : isb s.ws a = false) : s.clear a = s := by
  unfold Ps.clear rmd
  rw [if_neg (by rw [h]; decide)]
section
variable {w0 W w w' : World} {k : Kn} {c : Cb} {L0 K0 L K M : List Nat} {σ : Cy} {B g r n cc : Nat} {s : Ps}
theorem hunmark_any (c1 : w.cell? ⟨B, 1, none⟩ = some (.pointer (some ⟨g, 0, none⟩))) (h : Gy w L g r s) (hB : B ∉ L) {b : Nat} {A : Option Addr} {xs : List Int} (hr : Rd w b A n cc xs) (hJ : ∀ ad, A = some ad → 0 < n → ad.block ∉ L) (hn : n ≤ 4096) :
    Calls Tryz.prog 148 #[.pointer (some ⟨B, 0, none⟩), .slice A n cc] w (Ga L g r (.tuple #[]) (clrs s xs) w) := by
  have HH := Lib.hid h
  have HR := Lib.hid hr
  have HJ := Lib.hid hJ
  have HC := Lib.hid c1
  have HBl := Lib.hid hB
  have TM := Lib.hid (fun j (hj : j < n) => clrs_take (xs := xs) (j := j) (by rw [hr.1]; exact hj) s)
  have FU := Lib.hid (show xs.take n = xs by rw [List.take_of_length_le (by rw [hr.1]; omega)])
  clear h hr hJ c1 hB
  go_enter Tryz.func148, Tryz.ntmps148
  go_wp2
  go_loopw [5, 8] (fun u i wr => ∃ (j : Nat) (L1 : List Nat), j ≤ n ∧ i = .int .i64 j ∧ (∀ q, q ∈ L1 → q ∈ L ∨ w.heap.size ≤ q) ∧ Gy wr L1 g r (clrs s (xs.take j)) ∧ Gr L w wr) (fun _ i _ => n - (intOf i).toNat)
  case atStart => exact ⟨0, L, Nat.zero_le _, rfl, fun q hq => .inl hq, HH.out, ⟨rfl, rfl, rfl, Nat.le_refl _, fun _ _ _ => rfl⟩⟩
  case round =>
    obtain ⟨j, L1, hj, rfl, hl1, hy1, hg1⟩ := hrel
    have HL1 := Lib.hid hl1
    have HY1 := Lib.hid hy1
    have HG1 := Lib.hid hg1
    clear hl1 hy1 hg1
    by_cases hlt : j < n
    · have c1 := HG1.out.cell HC.out HBl.out
      obtain ⟨b1, o1, e, g1⟩ := HR.out.at_ hlt
      have g1 := HG1.out.cell g1 (show b1 ∉ L from HJ.out ⟨b1, o1, none⟩ e (by omega))
      have M1 := Lib.hid (TM.out j hlt)
      have l1 : (0 : Int) ≤ (j : Int) := by omega
      have l2 : (j : Int) < n := by omega
      subst e
      generalize xs.getD j 0 = z at *
      have SH := Lib.hid (Clear_any HY1.out z)
      go_wp2_with (go_at_call 213; (with_reducible refine SH.out.mono ?_); rintro e2 w2 ⟨rfl, L2, h1, h2, h3⟩; have R2 := Lib.hid (And.intro h1 (And.intro h2 h3)); clear h1 h2 h3)
      go_roundw
      case rel =>
        obtain ⟨h1, h2, h3⟩ := R2.out
        exact ⟨j + 1, L2, by omega, by go_num, fun q hq => (h1 q hq).elim (HL1.out q) (fun e => .inr (Nat.le_trans HG1.out.size e)), by rw [M1.out]; exact h2, HG1.out.own h3 HL1.out⟩
      case measure => first | (simp [intOf]; done) | (simp [intOf]; omega)
    · obtain rfl : j = n := by omega
      go_wp2
      go_end0
      have h1 := HY1.out
      rw [FU.out] at h1
      exact ⟨rfl, L1, HL1.out, h1, HG1.out⟩
theorem Cx.hshade (h : Cx w0 k c L0 K0 σ W) {b : Nat} {A : Option Addr} {xs : List Int} (hr : Rd W b A n cc xs) (hJ : ∀ L K, Cw W k c L K σ → ∀ ad, A = some ad → 0 < n → ad.block ∉ L) (hn : n ≤ 4096) (hb : ∀ ad, A = some ad → 0 < n → ad.block < W.heap.size) :
    Calls Tryz.prog 69 #[.pointer (some ⟨c.B, 0, none⟩), .slice A n cc] W fun e w' => e = .returned (.tuple #[]) ∧ Cx w0 k c L0 K0 { σ with s := shs k.r σ.s xs } w' :=
  h.grey fun L K hw => hshade_any hw.cells.2.1 hw.tw.gy hw.dj.B.2.1 hr (hJ L K hw) hn hb
theorem Cx.hunmark (h : Cx w0 k c L0 K0 σ W) {b : Nat} {A : Option Addr} {xs : List Int} (hr : Rd W b A n cc xs) (hJ : ∀ L K, Cw W k c L K σ → ∀ ad, A = some ad → 0 < n → ad.block ∉ L) (hn : n ≤ 4096) :
    Calls Tryz.prog 148 #[.pointer (some ⟨c.B, 0, none⟩), .slice A n cc] W fun e w' => e = .returned (.tuple #[]) ∧ Cx w0 k c L0 K0 { σ with s := clrs σ.s xs } w' :=
  h.grey fun L K hw => hunmark_any hw.cells.2.1 hw.tw.gy hw.dj.B.2.1 hr (hJ L K hw) hn
theorem int_off (hw : Cw W k c L K σ) {b : Nat} {cs : Array Value} {z : Nat × Nat} (hb : W.heap[b]? = some (.cells cs 3 z)) : b ∉ L := hw.tw.gy.off hb (by decide) (by decide) (by decide) (by decide)
theorem made_any (h : Cw w k c L K σ) {a : Nat} (ha : a < 2048) (hd : ¬ σ.ph = 2 → ¬ (σ.ph = 3 ∨ σ.ph = 4 ∨ (σ.ph = 5 ∧ (σ.q : Int) ≤ (a : Int) / 32)) → isb σ.s.ws a = false) :
    Calls Tryz.prog 81 #[.pointer (some ⟨c.B, 0, none⟩), .int .i64 a] w fun e w' => e = .returned (.tuple #[]) ∧ Cx w k c L K { σ with s := σ.col k a } w' := by
  obtain ⟨c0, c1, c2, c3, c4, c5, c6, c7, c8, c9, fz, hz⟩ := h.cells
  have X := Lib.hid (Cx.start h)
  have SH := Lib.hid (fun (W : World) (hg : w.grownBy W none) (b : Nat) (hb : W.heap[b]? = some (.cells #[.int .i64 a] 3 (0, 0))) (hr : Rd W W.heap.size (some ⟨b, 0, none⟩) 1 1 [(a : Int)]) => (X.out.new hg).hshade hr (fun L K hw ad e _ => by injection e with e; subst e; exact int_off hw hb) (by omega) (fun ad e _ => by injection e with e; subst e; exact (Array.getElem?_eq_some_iff.1 hb).1))
  have UM := Lib.hid (fun (W : World) (hg : w.grownBy W none) (b : Nat) (hb : W.heap[b]? = some (.cells #[.int .i64 a] 3 (0, 0))) (hr : Rd W W.heap.size (some ⟨b, 0, none⟩) 1 1 [(a : Int)]) => (X.out.new hg).hunmark hr (fun L K hw ad e _ => by injection e with e; subst e; exact int_off hw hb) (by omega))
  have BL := Lib.hid (fun (W : World) (hg : w.grownBy W none) => (X.out.new hg).grey fun L K hw => Black_any hw.tw.gy (a : Int))
  have AT := Lib.hid (sw.At_any h.so)
  have PG := Lib.hid (fun w => page_any (a : Int) w)
  have HCo := Lib.hid (show σ.col k a = if σ.ph = 2 then σ.s.shade k.r a else if σ.ph = 3 ∨ σ.ph = 4 ∨ (σ.ph = 5 ∧ (σ.q : Int) ≤ (a : Int) / 32) then σ.s.black a else σ.s from rfl)
  have HP := Lib.hid (show pgOf a = (a : Int) / 32 by unfold pgOf; rw [if_neg (by omega)])
  rw [HP.out] at PG
  have HD := Lib.hid hd
  have CN := Lib.hid (fun hn : isb σ.s.ws a = false => clear_no hn)
  clear HP hd
  generalize σ.col k a = sc at *
  obtain ⟨p, hp⟩ : ∃ p, σ.ph = p := ⟨_, rfl⟩
  obtain ⟨qq, hqq⟩ : ∃ qq, σ.q = qq := ⟨_, rfl⟩
  have HPP := Lib.hid (And.intro hp hqq)
  rw [hp] at c7
  rw [hqq] at AT
  have e1 := HPP.out.1
  have e2 := HPP.out.2
  by_cases q2 : p = 2
  · have FN := Lib.hid (show sc = shs k.r σ.s [(a : Int)] by rw [HCo.out, if_pos (by omega)]; rfl)
    have t1 : ((p : Int) == 2) = true := by simp; omega
    clear hp hqq e1 e2 q2
    go_enter Tryz.func81, Tryz.ntmps81
    go_wp2_with (go_at_call 69; (with_reducible refine (SH.out _ (World.grownBy_alloc _ _ _) _ (heap_alloc_new _ _) (li.Rd.one_at _ _ _ rfl)).mono ?_); rintro e w2 ⟨rfl, h2⟩; have R2 := Lib.hid h2; clear h2)
    go_end0
    rw [FN.out]
    exact ⟨rfl, R2.out⟩
  have t1 : ((p : Int) == 2) = false := by simp; omega
  by_cases q3 : p = 3
  · have FN := Lib.hid (show sc = σ.s.black a by rw [HCo.out, if_neg (by omega), if_pos (by omega)])
    have t2 : ((p : Int) == 3) = true := by simp; omega
    clear hp hqq e1 e2 q2 q3
    go_enter Tryz.func81, Tryz.ntmps81
    go_wp2_with (go_at_call 156; (with_reducible refine (BL.out _ (by first | exact World.grownBy.refl _ _ | exact li.grown_drewN _ _ _)).mono ?_); rintro e w2 ⟨rfl, h2⟩; have R2 := Lib.hid h2; clear h2)
    go_end0
    rw [FN.out]
    exact ⟨rfl, R2.out⟩
  have t2 : ((p : Int) == 3) = false := by simp; omega
  by_cases q4 : p = 4
  · have FN := Lib.hid (show sc = σ.s.black a by rw [HCo.out, if_neg (by omega), if_pos (by omega)])
    have t3 : ((p : Int) == 4) = true := by simp; omega
    clear hp hqq e1 e2 q2 q3 q4
    go_enter Tryz.func81, Tryz.ntmps81
    go_wp2_with (go_at_call 156; (with_reducible refine (BL.out _ (by first | exact World.grownBy.refl _ _ | exact li.grown_drewN _ _ _)).mono ?_); rintro e w2 ⟨rfl, h2⟩; have R2 := Lib.hid h2; clear h2)
    go_end0
    rw [FN.out]
    exact ⟨rfl, R2.out⟩
  have t3 : ((p : Int) == 4) = false := by simp; omega
  by_cases q5 : p = 5
  · have t4 : ((p : Int) == 5) = true := by simp; omega
    by_cases q6 : (qq : Int) ≤ (a : Int) / 32
    · have FN := Lib.hid (show sc = σ.s.black a by rw [HCo.out, if_neg (by omega), if_pos (by omega)])
      have t5 : decide ((qq : Int) ≤ (a : Int) / 32) = true := by simpa using q6
      generalize (a : Int) / 32 = pa at *
      clear hp hqq e1 e2 q2 q3 q4 q5 q6
      go_enter Tryz.func81, Tryz.ntmps81
      go_wp2_with (first | (go_at_call 67; (with_reducible refine AT.out.mono ?_); rintro e w1 ⟨rfl, rfl⟩) | (go_at_call 155; (with_reducible refine (PG.out _).mono ?_); rintro e w1 ⟨rfl, rfl⟩) | (go_at_call 156; (with_reducible refine (BL.out _ (by first | exact World.grownBy.refl _ _ | exact li.grown_drewN _ _ _)).mono ?_); rintro e w2 ⟨rfl, h2⟩; have R2 := Lib.hid h2; clear h2))
      go_end0
      rw [FN.out]
      exact ⟨rfl, R2.out⟩
    · have FN := Lib.hid (show sc = clrs σ.s [(a : Int)] by rw [HCo.out, if_neg (by omega), if_neg (by omega)]; exact (CN.out (HD.out (by omega) (by omega))).symm)
      have t5 : decide ((qq : Int) ≤ (a : Int) / 32) = false := by simpa using q6
      generalize (a : Int) / 32 = pa at *
      clear hp hqq e1 e2 q2 q3 q4 q5 q6
      go_enter Tryz.func81, Tryz.ntmps81
      go_wp2_with (first | (go_at_call 67; (with_reducible refine AT.out.mono ?_); rintro e w1 ⟨rfl, rfl⟩) | (go_at_call 155; (with_reducible refine (PG.out _).mono ?_); rintro e w1 ⟨rfl, rfl⟩) | (go_at_call 148; (with_reducible refine (UM.out _ (World.grownBy_alloc _ _ _) _ (heap_alloc_new _ _) (li.Rd.one_at _ _ _ rfl)).mono ?_); rintro e w2 ⟨rfl, h2⟩; have R2 := Lib.hid h2; clear h2))
      go_end0
      rw [FN.out]
      exact ⟨rfl, R2.out⟩
  · have FN := Lib.hid (show sc = clrs σ.s [(a : Int)] by rw [HCo.out, if_neg (by omega), if_neg (by omega)]; exact (CN.out (HD.out (by omega) (by omega))).symm)
    have t4 : ((p : Int) == 5) = false := by simp; omega
    clear hp hqq e1 e2 q2 q3 q4 q5
    go_enter Tryz.func81, Tryz.ntmps81
    go_wp2_with (go_at_call 148; (with_reducible refine (UM.out _ (World.grownBy_alloc _ _ _) _ (heap_alloc_new _ _) (li.Rd.one_at _ _ _ rfl)).mono ?_); rintro e w2 ⟨rfl, h2⟩; have R2 := Lib.hid h2; clear h2)
    go_end0
    rw [FN.out]
    exact ⟨rfl, R2.out⟩
end
end Go.Proofs.YtkgdcgmbapchcaaGreatDoor.cy
namespace Go.Proofs.YtkgdcgmbapchcaaGreatDoor.cy
open Go.ChangeShapes Go.WideShapes Go.ChangeAt Go.RowKit gen calls cls geos ce st sh
set_option linter.unusedVariables false
set_option maxHeartbeats 4000000
set_option maxRecDepth 100000
section
variable {w0 W w w' : World} {k : Kn} {c : Cb} {L0 K0 L K M : List Nat} {σ τ : Cy}
theorem Cx.one (h : Cx w0 k c L0 K0 σ w) (a : Nat) (W : World) (hg : w.grownBy W none) (b : Nat) (hb : W.heap[b]? = some (.cells #[.int .i64 a] 3 (0, 0))) (hr : Rd W W.heap.size (some ⟨b, 0, none⟩) 1 1 [(a : Int)]) :
    Calls Tryz.prog 69 #[.pointer (some ⟨c.B, 0, none⟩), .slice (some ⟨b, 0, none⟩) 1 1] W fun e w' => e = .returned (.tuple #[]) ∧ Cx w0 k c L0 K0 { σ with s := σ.s.shade k.r a } w' :=
  (h.new hg).hshade hr (fun L K hw ad e _ => by injection e with e; subst e; exact int_off hw hb) (by omega) (fun ad e _ => by injection e with e; subst e; exact (Array.getElem?_eq_some_iff.1 hb).1)
theorem Cx.clear (h : Cx w0 k c L0 K0 σ W) : Calls Tryz.prog 205 #[.pointer (some ⟨c.b, 0, none⟩)] W fun e w' => e = .returned (.int .i64 (bf.tot σ.bf : Int)) ∧ Cx w0 k c L0 K0 { σ with bf := List.replicate σ.bf.length [] } w' :=
  h.bufs fun L K hw => (bf.Clear_any hw.bf).mono fun e w' ⟨K', k1, k2, k3, k4⟩ => ⟨k1, K', fun q hq => .inl (k2 q hq), k3, k4⟩
theorem Cx.raise (h : Cx w0 k c L0 K0 σ W) (he : σ.e ≤ 1000000) : Calls Tryz.prog 144 #[.pointer (some ⟨c.e, 0, none⟩)] W fun e w' => e = .returned (.int .i64 ((σ.e : Int) + 1)) ∧ Cx w0 k c L0 K0 { σ with e := σ.e + 1 } w' :=
  h.reg fun L K hw => ep.Raise_yes hw.rg he
theorem Cx.start5 (h : Cx w0 k c L0 K0 σ W) : Calls Tryz.prog 208 #[.pointer (some ⟨c.v, 0, none⟩)] W fun e w' => e = .returned (.tuple #[]) ∧ Cx w0 k c L0 K0 { σ with q := 0, f := 0 } w' :=
  h.sweeper fun L K hw => sw.Start_any hw.so
theorem rd_drew1 (w : World) (x : Int) (t : TypeId) : Rd (w.alloc (.cells #[.int .i64 x] t)).drew (w.alloc (.cells #[.int .i64 x] t)).drew.heap.size (some ⟨w.heap.size, 0, none⟩) 1 1 [x] := li.Rd.one_at w x t rfl
theorem Cx.putz (h : Cx w0 k c L0 K0 σ W) (u : Nat) {z : Int} (hz : z = u) : Cx w0 k c L0 K0 { σ with ph := u } (W.setCell ⟨c.B, 271, none⟩ (.int .i64 z)) ∧ Cx w0 k c L0 K0 { σ with cy := u } (W.setCell ⟨c.B, 272, none⟩ (.int .i64 z)) ∧ Cx w0 k c L0 K0 { σ with un := u } (W.setCell ⟨c.B, 273, none⟩ (.int .i64 z)) := by
  subst hz
  exact h.put u
theorem next1 (h : Cx w0 k c L0 K0 σ W) (hp : σ.ph = 1) (he : σ.e ≤ 1000000) : Calls Tryz.prog 137 #[.pointer (some ⟨c.B, 0, none⟩)] W fun e w' => e = .returned (.bool true) ∧ Cx w0 k c L0 K0 (σ.n1 k) w' := by
  have X := Lib.hid h
  have CL := Lib.hid h.clear
  obtain ⟨c0, c1, c2, c3, c4, c5, c6, c7, c8, c9, fz, hz⟩ := h.cells
  rw [show (σ.ph : Int) = 1 by omega] at c7
  have HE := Lib.hid he
  clear h hp he
  go_enter Tryz.func137, Tryz.ntmps137
  go_wp2_with (go_at_call 205; (with_reducible refine CL.out.mono ?_); rintro e w2 ⟨rfl, h2⟩; have X2 := Lib.hid h2; obtain ⟨-, -, -, -, d4, -, -, -, -, -, -, dz⟩ := h2.cells; clear h2)
  go_region_held3 (fun W => W.cell? ⟨c.B, 4, none⟩ = some (.int .i64 k.gl)) (first | with_reducible exact d4 | with_reducible exact d34 | go_keep) (first
    | (go_at_call 69; (with_reducible refine (X2.out.one k.gl _ ((World.grownBy_alloc _ _ _).trans (gr.grown_drew _ _)) _ (heap_alloc_new _ _) (rd_drew1 _ _ _)).mono ?_); rintro e w3 ⟨rfl, h3⟩; have X3 := Lib.hid h3; obtain ⟨-, -, -, -, d34, d35, -, d37, -, -, dfz, dz3⟩ := h3.cells; clear h3))
  go_wp2_with (go_at_call 144; (with_reducible refine (((X3.out.new (by first | exact World.grownBy.refl _ _ | exact li.grown_drewN _ _ _ | exact gr.grown_drew _ _)).putz (z := 2) 2 rfl).1.raise HE.out).mono ?_); rintro e w4 ⟨rfl, h4⟩; have X4 := Lib.hid h4; clear h4)
  go_ret
  exact ⟨rfl, X4.out⟩
theorem next2 (h : Cx w0 k c L0 K0 σ W) (hp : σ.ph = 2) : Calls Tryz.prog 137 #[.pointer (some ⟨c.B, 0, none⟩)] W fun e w' => e = .returned (.bool true) ∧ Cx w0 k c L0 K0 σ.to3 w' := by
  have X := Lib.hid h
  obtain ⟨c0, c1, c2, c3, c4, c5, c6, c7, c8, c9, fz, hz⟩ := h.cells
  rw [show (σ.ph : Int) = 2 by omega] at c7
  clear h hp
  go_enter Tryz.func137, Tryz.ntmps137
  go_wp2
  go_ret
  exact ⟨rfl, (X.out.putz (z := 3) 3 rfl).1⟩
theorem next4 (h : Cx w0 k c L0 K0 σ W) (hp : σ.ph = 4) (hr : -1 ≤ σ.p ∧ σ.p < k.N) : Calls Tryz.prog 137 #[.pointer (some ⟨c.B, 0, none⟩)] W fun e w' => e = .returned (.bool true) ∧ Cx w0 k c L0 K0 σ.n4 w' := by
  have X := Lib.hid h
  have EM := Lib.hid (fun W' τ (hx : Cx w0 k c L0 K0 τ W') (hb : τ.bf = σ.bf) => show Calls Tryz.prog 206 #[.pointer (some ⟨c.b, 0, none⟩)] W' fun e w' => e = .returned (.bool (decide (bf.tot σ.bf = 0))) ∧ W' = w' by
    obtain ⟨L, K, h1, h2, h3, h4⟩ := hx
    rw [← hb]
    exact bf.Empty_any h3.bf)
  have ID := Lib.hid (fun W' τ (hx : Cx w0 k c L0 K0 τ W') (hb : τ.s = σ.s ∧ τ.p = σ.p) => show Calls Tryz.prog 207 #[.pointer (some ⟨c.t, 0, none⟩)] W' fun e w' => e = .returned (.bool (tc.Ts.idle ⟨σ.s, σ.p⟩)) ∧ W' = w' by
    obtain ⟨L, K, h1, h2, h3, h4⟩ := hx
    rw [← hb.1, ← hb.2]
    exact tc.Idle_any h3.tw rfl (by rw [hb.2]; exact hr))
  have N4 := Lib.hid (show σ.n4 = if bf.tot σ.bf = 0 ∧ tc.Ts.idle ⟨σ.s, σ.p⟩ = true then { σ with ph := 5, q := 0, f := 0 } else { σ with ph := 3 } from rfl)
  obtain ⟨c0, c1, c2, c3, c4, c5, c6, c7, c8, c9, fz, hz⟩ := h.cells
  rw [show (σ.ph : Int) = 4 by omega] at c7
  have X3 := Lib.hid (h.putz (z := 3) 3 rfl).1
  obtain ⟨d0, d1, d2, d3, d4, d5, d6, d7, d8, d9, dfz, dz⟩ := X3.out.cells
  have EM3 := Lib.hid (EM.out _ _ X3.out rfl)
  have ID3 := Lib.hid (ID.out _ _ X3.out ⟨rfl, rfl⟩)
  generalize σ.n4 = τ at *
  by_cases h1 : bf.tot σ.bf = 0
  · rw [decide_eq_true h1] at EM3
    cases h2 : tc.Ts.idle ⟨σ.s, σ.p⟩ with
    | true =>
      have FN := Lib.hid (show τ = { σ with ph := 5, q := 0, f := 0 } by rw [N4.out, if_pos ⟨h1, h2⟩])
      rw [h2] at ID3
      clear h hp hr h1 h2 N4 EM ID
      go_enter Tryz.func137, Tryz.ntmps137
      go_wp2_with (first
        | (go_at_call 206; (with_reducible refine EM3.out.mono ?_); rintro e w' ⟨rfl, rfl⟩)
        | (go_at_call 207; (with_reducible refine ID3.out.mono ?_); rintro e w' ⟨rfl, rfl⟩)
        | (go_at_call 208; (with_reducible refine ((X3.out.putz (z := 5) 5 rfl).1.start5).mono ?_); rintro e w4 ⟨rfl, h4⟩; have X4 := Lib.hid h4; clear h4))
      go_ret
      rw [FN.out]
      exact ⟨rfl, X4.out⟩
    | false =>
      have FN := Lib.hid (show τ = { σ with ph := 3 } by rw [N4.out, if_neg (fun e => by rw [h2] at e; exact absurd e.2 (by decide))])
      rw [h2] at ID3
      clear h hp hr h1 h2 N4 EM ID
      go_enter Tryz.func137, Tryz.ntmps137
      go_wp2_with (first
        | (go_at_call 206; (with_reducible refine EM3.out.mono ?_); rintro e w' ⟨rfl, rfl⟩)
        | (go_at_call 207; (with_reducible refine ID3.out.mono ?_); rintro e w' ⟨rfl, rfl⟩))
      go_ret
      rw [FN.out]
      exact ⟨rfl, X3.out⟩
  · rw [decide_eq_false h1] at EM3
    have FN := Lib.hid (show τ = { σ with ph := 3 } by rw [N4.out, if_neg (fun e => h1 e.1)])
    clear h hp hr h1 N4 EM ID ID3
    go_enter Tryz.func137, Tryz.ntmps137
    go_wp2_with (go_at_call 206; (with_reducible refine EM3.out.mono ?_); rintro e w' ⟨rfl, rfl⟩)
    go_ret
    rw [FN.out]
    exact ⟨rfl, X3.out⟩
theorem next0 (h : Cx w0 k c L0 K0 σ W) (hp : σ.ph ≠ 1 ∧ σ.ph ≠ 2 ∧ σ.ph ≠ 4) : Calls Tryz.prog 137 #[.pointer (some ⟨c.B, 0, none⟩)] W fun e w' => e = .returned (.bool false) ∧ W = w' := by
  obtain ⟨c0, c1, c2, c3, c4, c5, c6, c7, c8, c9, fz, hz⟩ := h.cells
  generalize σ.ph = p at *
  have t1 : ((p : Int) == 1) = false := by simp; omega
  have t2 : ((p : Int) == 2) = false := by simp; omega
  have t4 : ((p : Int) == 4) = false := by simp; omega
  clear h hp
  go_enter Tryz.func137, Tryz.ntmps137
  go_wp2
  go_ret
  exact ⟨rfl, rfl⟩
def rk (p : Nat) : Nat := if p = 1 then 3 else if p = 2 then 2 else if p = 4 then 2 else 1
def ms (B : Nat) (w : World) : Nat := match w.cell? ⟨B, 271, none⟩ with
  | some (.int _ z) => rk z.toNat
  | _ => 0
theorem ms_of (h : Cx w0 k c L0 K0 σ W) : ms c.B W = rk σ.ph := by
  obtain ⟨c0, c1, c2, c3, c4, c5, c6, c7, c8, c9, fz, hz⟩ := h.cells
  unfold ms
  rw [c7]
  rfl
theorem lead_n1 (ha : σ.ag = true) (hp : σ.ph = 1) : (σ.n1 k).lead k = σ.lead k := by
  unfold Cy.lead
  rw [if_pos ha, if_pos hp]
  have e : (σ.n1 k).ph = 2 := rfl
  rw [e]
  by_cases h : (σ.n1 k).ag = true
  · rw [if_pos h, if_neg (by decide), if_pos rfl, if_pos h]
  · rw [if_neg h, if_neg h]
theorem lead_3 (hp : σ.ph ≠ 1 ∧ σ.ph ≠ 2 ∧ σ.ph ≠ 4) : σ.lead k = σ := by
  unfold Cy.lead
  split
  · rw [if_neg hp.1, if_neg hp.2.1, if_neg hp.2.2]
  · rfl
theorem lead_to3 (ha : σ.ag = true) (hp : σ.ph = 2) : σ.to3.lead k = σ.lead k := by
  rw [lead_3 (σ := σ.to3) (by dsimp only [Cy.to3]; decide)]
  unfold Cy.lead
  rw [if_pos ha, if_neg (by omega), if_pos hp]
theorem n4_ph : σ.n4.ph = 5 ∨ σ.n4.ph = 3 := by
  unfold Cy.n4
  split
  · exact .inl rfl
  · exact .inr rfl
theorem lead_n4 (ha : σ.ag = true) (hp : σ.ph = 4) : σ.n4.lead k = σ.lead k := by
  have := n4_ph (σ := σ)
  rw [lead_3 (σ := σ.n4) (by omega)]
  unfold Cy.lead
  rw [if_pos ha, if_neg (by omega), if_neg (by omega), if_pos hp]
theorem lead_no (ha : σ.ag = false) : σ.lead k = σ := by
  unfold Cy.lead
  rw [if_neg (by rw [ha]; decide)]
theorem lead_any (h : Cw w k c L K σ) (h4 : σ.ph = 4 → -1 ≤ σ.p ∧ σ.p < k.N) (he : σ.e ≤ 900000) (hp5 : σ.ph ≤ 5) : Calls Tryz.prog 72 #[.pointer (some ⟨c.B, 0, none⟩)] w fun e w' => e = .returned (.tuple #[]) ∧ Cx w k c L K (σ.lead k) w' := by
  have X := Lib.hid (Cx.start h)
  have AG := Lib.hid (fun W' τ (hx : Cx w k c L K τ W') => show Calls Tryz.prog 136 #[.pointer (some ⟨c.e, 0, none⟩)] W' fun e w' => e = .returned (.bool τ.ag) ∧ Cx w k c L K τ w' from hx.tell fun L K h => ep.Agreed_any h.rg)
  have H4 := Lib.hid (And.intro h4 (And.intro he hp5))
  clear h h4 he hp5
  go_enter Tryz.func72, Tryz.ntmps72
  go_wp2
  go_loopw [7] (fun u wr => ∃ τ : Cy, Cx w k c L K τ wr ∧ τ.lead k = σ.lead k ∧ (τ.ph = 4 → -1 ≤ τ.p ∧ τ.p < k.N) ∧ (τ.ph = 1 → τ.e ≤ 900000) ∧ τ.ph ≤ 5) (fun _ wr => ms c.B wr)
  case atStart => exact ⟨σ, X.out, rfl, H4.out.1, fun _ => H4.out.2.1, H4.out.2.2⟩
  case round =>
    obtain ⟨τ, hx, hl, h4, he, h5⟩ := hrel
    have AGT := Lib.hid (AG.out _ _ hx)
    have HX := Lib.hid hx
    have HL := Lib.hid hl
    obtain ⟨c0, c1, c2, c3, c4, c5, c6, c7, c8, c9, fz, hz⟩ := hx.cells
    have MS := Lib.hid (ms_of hx)
    cases ha : τ.ag with
    | false =>
      have FN := Lib.hid (show σ.lead k = τ by rw [← hl]; exact lead_no ha)
      rw [ha] at AGT
      clear hx hl h4 he h5 ha
      go_wp2_with (go_at_call 136; (with_reducible refine AGT.out.mono ?_); rintro e w1 ⟨rfl, h1⟩; have X1 := Lib.hid h1; clear h1)
      go_end0
      rw [FN.out]
      exact ⟨rfl, X1.out⟩
    | true =>
      rw [ha] at AGT
      by_cases p1 : τ.ph = 1
      · have NX := Lib.hid (fun W' (hx : Cx w k c L K τ W') => next1 hx p1 (by have := he p1; omega))
        have FN := Lib.hid (And.intro ((lead_n1 ha p1).trans hl) p1)
        clear hx hl h4 he h5 ha p1
        go_wp2_with (first
          | (go_at_call 136; (with_reducible refine AGT.out.mono ?_); rintro e w1 ⟨rfl, h1⟩; have X1 := Lib.hid h1; clear h1)
          | (go_at_call 137; (with_reducible refine (NX.out _ X1.out).mono ?_); rintro e w2 ⟨rfl, h2⟩; have X2 := Lib.hid h2; clear h2))
        go_roundw
        case rel => exact ⟨_, X2.out, FN.out.1, fun e => absurd e (by show ¬ (2 : Nat) = 4; decide), fun e => absurd e (by show ¬ (2 : Nat) = 1; decide), by show 2 ≤ 5; decide⟩
        case measure => rw [ms_of X2.out, MS.out, FN.out.2]; show rk 2 < rk 1; decide
      · by_cases p2 : τ.ph = 2
        · have NX := Lib.hid (fun W' (hx : Cx w k c L K τ W') => next2 hx p2)
          have FN := Lib.hid (And.intro ((lead_to3 ha p2).trans hl) p2)
          clear hx hl h4 he h5 ha p1 p2
          go_wp2_with (first
            | (go_at_call 136; (with_reducible refine AGT.out.mono ?_); rintro e w1 ⟨rfl, h1⟩; have X1 := Lib.hid h1; clear h1)
            | (go_at_call 137; (with_reducible refine (NX.out _ X1.out).mono ?_); rintro e w2 ⟨rfl, h2⟩; have X2 := Lib.hid h2; clear h2))
          go_roundw
          case rel => exact ⟨_, X2.out, FN.out.1, fun e => absurd e (by show ¬ (3 : Nat) = 4; decide), fun e => absurd e (by show ¬ (3 : Nat) = 1; decide), by show 3 ≤ 5; decide⟩
          case measure => rw [ms_of X2.out, MS.out, FN.out.2]; show rk 3 < rk 2; decide
        · by_cases p4 : τ.ph = 4
          · have NX := Lib.hid (fun W' (hx : Cx w k c L K τ W') => next4 hx p4 (h4 p4))
            have FN := Lib.hid (And.intro ((lead_n4 ha p4).trans hl) (And.intro p4 (n4_ph (σ := τ))))
            clear hx hl h4 he h5 ha p1 p2 p4
            go_wp2_with (first
              | (go_at_call 136; (with_reducible refine AGT.out.mono ?_); rintro e w1 ⟨rfl, h1⟩; have X1 := Lib.hid h1; clear h1)
              | (go_at_call 137; (with_reducible refine (NX.out _ X1.out).mono ?_); rintro e w2 ⟨rfl, h2⟩; have X2 := Lib.hid h2; clear h2))
            go_roundw
            case rel => exact ⟨_, X2.out, FN.out.1, fun e => by have := FN.out.2.2; omega, fun e => by have := FN.out.2.2; omega, by have := FN.out.2.2; omega⟩
            case measure =>
              rw [ms_of X2.out, MS.out, FN.out.2.1]
              rcases FN.out.2.2 with e | e <;> rw [e] <;> decide
          · have NX := Lib.hid (fun W' (hx : Cx w k c L K τ W') => next0 hx ⟨p1, p2, p4⟩)
            have FN := Lib.hid (show σ.lead k = τ by rw [← hl]; exact lead_3 ⟨p1, p2, p4⟩)
            clear hx hl h4 he h5 ha p1 p2 p4
            go_wp2_with (first
              | (go_at_call 136; (with_reducible refine AGT.out.mono ?_); rintro e w1 ⟨rfl, h1⟩; have X1 := Lib.hid h1; clear h1)
              | (go_at_call 137; (with_reducible refine (NX.out _ X1.out).mono ?_); rintro e w2 ⟨rfl, rfl⟩))
            go_end0
            rw [FN.out]
            exact ⟨rfl, X1.out⟩
theorem raise_any (h : Cw w k c L K σ) (h4 : σ.ph = 4 → -1 ≤ σ.p ∧ σ.p < k.N) (he : σ.e ≤ 800000) (hp5 : σ.ph ≤ 5) : Calls Tryz.prog 74 #[.pointer (some ⟨c.B, 0, none⟩)] w fun e w' => e = .returned (.tuple #[]) ∧ Cx w k c L K (Cy.lead k { σ with e := σ.e + 1 }) w' := by
  have RS := Lib.hid ((Cx.start h).raise (by omega))
  have LD := Lib.hid (fun W' (hx : Cx w k c L K { σ with e := σ.e + 1 } W') => hx.call fun L K hw => lead_any hw h4 (by show σ.e + 1 ≤ 900000; omega) hp5)
  obtain ⟨c0, c1, c2, c3, c4, c5, c6, c7, c8, c9, fz, hz⟩ := h.cells
  clear h h4 he hp5
  go_enter Tryz.func74, Tryz.ntmps74
  go_wp2_with (first
    | (go_at_call 144; (with_reducible refine RS.out.mono ?_); rintro e w1 ⟨rfl, h1⟩; have X1 := Lib.hid h1; clear h1)
    | (go_at_call 72; (with_reducible refine (LD.out _ X1.out).mono ?_); rintro e w2 ⟨rfl, h2⟩; have X2 := Lib.hid h2; clear h2))
  go_end0
  exact ⟨rfl, X2.out⟩
end
end Go.Proofs.YtkgdcgmbapchcaaGreatDoor.cy
