/- Is all told as by lists? The statement's own look. -/
import Derived.Test.YtfloleflcoiidaaGreatDoorSxD
import Derived.BigQuiet
namespace Go.Proofs.YtfloleflcoiidaaGreatDoor.sw
open Go.ChangeShapes Go.WideShapes Go.ChangeAt Go.RowKit gen calls cls geos ce st sh
set_option linter.unusedVariables false
set_option maxHeartbeats 16000000
set_option maxRecDepth 100000
/-- The pages' kinds in memory. -/
structure Kd (W : World) (H : Nat) (ks : List Int) (A : Option Addr) (d : Nat) : Prop where
  cell : W.cell? ⟨H, 0, none⟩ = some (.slice A ks.length d)
  le : ks.length ≤ d
  max : d ≤ maxLen
  at_ : ∀ i, i < ks.length → ∃ b o, A = some ⟨b, o, none⟩ ∧ W.cell? ⟨b, o + i, none⟩ = some (.int .i64 (ks.getD i 0))
section
variable {w0 W W' : World} {B b : Nat} {I : Ids} {x x' z : Hs} {L L' K K' J J' X : List Nat} {g r t N c c' c2 f f' f2 c3 f3 n n' H M F : Nat} {s s' s2 s3 : Ps} {y y' : ph.Hq} {v : Value} {e : Ending} {bs : Bxs} {args : Array Value} {o : Obj}
theorem Kd.new {ks : List Int} {A : Option Addr} {d : Nat} (h : Kd W H ks A d) (hg : W.grownBy W' none) : Kd W' H ks A d :=
  ⟨hg.cell h.cell (by simp), h.le, h.max, fun i hi => by
    obtain ⟨b, o, h1, h2⟩ := h.at_ i hi
    exact ⟨b, o, h1, hg.cell h2 (by simp)⟩⟩
theorem Wm.kinds (h : Wm w0 B I g r t N H M x s c f (ph.toq z) s2 c2 f2 bs W) : ∃ A d, Kd W H z.ks A d := by
  obtain ⟨L, K, J, h⟩ := h
  obtain ⟨V, vk, vs, vo, os, h⟩ := h.gp.pl
  have h0 := h.hh.h0
  obtain ⟨A, n, d, rfl, hr, _, hn, hd⟩ := h.hh.kd
  have hn1 : z.ks.length = n := hr.1
  subst hn1
  exact ⟨A, d, h0, hn, hd, fun i hi => by
    obtain ⟨b, o, e, hc⟩ := hr.at_ (k := i) hi
    exact ⟨b, o, e, hc⟩⟩
theorem Wm.mark (h : Wm w0 B I g r t N H M x s c f y s2 c2 f2 bs W) : M < W.heap.size ∧ ∀ i : Nat, i < 2048 → W.cell? ⟨M, i, none⟩ = some (.bool (bm.bit s2.ws i)) := by
  obtain ⟨L, K, J, h⟩ := h
  obtain ⟨_, _, h1, h2, _⟩ := h.gp.bk.cells
  exact ⟨h1, h2⟩
theorem zeros_add (l : List Int) (a : Int) : pg.zeros (l ++ [a]) = pg.zeros l + if a = 0 then 1 else 0 := by
  induction l with
  | nil => simp [pg.zeros]
  | cons b l ih => rw [List.cons_append, pg.zeros, pg.zeros, ih]; omega
theorem zeros_more {l : List Int} {k : Nat} (hk : k < l.length) : pg.zeros (l.take (k + 1)) = pg.zeros (l.take k) + if l.getD k 0 = 0 then 1 else 0 := by rw [li.take_more hk 0, zeros_add]
theorem Pages_any (H : Sr W I x) : Calls Tryz.prog 35 #[.pointer (some ⟨I.S, 0, none⟩)] W fun e w' => e = int1 (pg.zeros x.ks) ∧ W.grownBy w' none := by
  obtain ⟨ws, H0, _⟩ := H.hp
  have f0 := H.s0
  have FR := Lib.hid (ce.Free_any H0)
  clear H H0
  go_enter Tryz.func35, Tryz.ntmps35
  go_wp2_with (first
    | (go_at_call 38; (with_reducible refine (known_yes _ _).mono ?_); rintro e w' ⟨rfl, rfl⟩)
    | (go_at_call 65; (with_reducible refine FR.out.mono ?_); rintro e w2 ⟨rfl, hg⟩; have G2 := Lib.hid hg; clear hg))
  go_ret
  exact ⟨rfl, G2.out⟩
theorem told_any (h : Ru w0 B I g r t N H M x s c f W) (hT : bm.Tab w0) : Calls Tryz.prog 10 #[.pointer (some ⟨B, 0, none⟩)] W fun e w' => e = .returned (.bool true) ∧ W.grownBy w' none := by
  obtain ⟨A, d, OB⟩ := h.1.objs
  obtain ⟨A2, d2, KD⟩ := h.1.kinds
  have HW := Lib.hid (fun W2 (hg : W.grownBy W2 none) => (h.1.new hg).cells)
  have HO := Lib.hid (fun W2 (hg : W.grownBy W2 none) => OB.new hg)
  have HK := Lib.hid (fun W2 (hg : W.grownBy W2 none) => KD.new hg)
  have HM := Lib.hid (fun W2 (hg : W.grownBy W2 none) => (h.1.new hg).mark)
  have TK := Lib.hid (fun a (ha : a ∈ x.tk) => (show 0 ≤ a ∧ a ≤ 2047 from by obtain ⟨⟨L, K, J, h⟩, _⟩ := h; exact ph.tk_range h.sp.iv ha))
  have hl : x.tk.length ≤ 2048 := by obtain ⟨⟨L, K, J, h⟩, _⟩ := h; exact tk_few h.sp.sr
  have N64 : N ≤ 64 := by obtain ⟨⟨L, K, J, h⟩, _⟩ := h; exact h.sp.n1.2
  have cN : c ≤ N := by obtain ⟨⟨L, K, J, h⟩, _⟩ := h; exact h.sp.cN
  have fN : f ≤ 1000000 := by obtain ⟨⟨L, K, J, h⟩, _⟩ := h; exact h.sp.fN
  obtain ⟨n, hn⟩ : ∃ n, x.tk.length = n := ⟨_, rfl⟩
  have OBJ := Lib.hid (show Calls Tryz.prog 12 #[.pointer (some ⟨I.S, 0, none⟩)] W fun e w' => ∃ A c, e = .returned (.slice A n c) ∧ w'.ownsRow W.heap.size 3 1 (.slice A n c) n (li.ints x.tk) ∧ W.grownBy w' none from by
    rw [← hn]
    obtain ⟨⟨L, K, J, h⟩, _⟩ := h
    exact tc.Objects_any h.sp.sr (h.tab hT).1 (h.tab hT).2)
  have AT := Lib.hid (fun W2 (hg : W.grownBy W2 none) => (show Calls Tryz.prog 19 #[.pointer (some ⟨t, 0, none⟩)] W2 fun e w' => e = .returned (.int .i64 c) ∧ W2.grownBy w' none from by
    obtain ⟨⟨L, K, J, h⟩, _⟩ := h
    exact (At_any (h.sp.so.new hg)).mono fun e w' ⟨k1, k2⟩ => ⟨k1, k2 ▸ World.grownBy.refl _ _⟩))
  have FR := Lib.hid (fun W2 (hg : W.grownBy W2 none) => (show Calls Tryz.prog 17 #[.pointer (some ⟨t, 0, none⟩)] W2 fun e w' => e = .returned (.int .i64 f) ∧ W2.grownBy w' none from by
    obtain ⟨⟨L, K, J, h⟩, _⟩ := h
    exact (Freed_any (h.sp.so.new hg)).mono fun e w' ⟨k1, k2⟩ => ⟨k1, k2 ▸ World.grownBy.refl _ _⟩))
  have DN := Lib.hid (fun W2 (hg : W.grownBy W2 none) => (show Calls Tryz.prog 20 #[.pointer (some ⟨t, 0, none⟩)] W2 fun e w' => e = .returned (.bool (decide ((N : Int) ≤ c))) ∧ W2.grownBy w' none from by
    have e1 : decide ((N : Int) ≤ c) = ((c : Int) == N) := by
      by_cases hc : c = N
      · subst hc; simp
      · rw [decide_eq_false (by omega)]
        symm
        rw [beq_eq_false_iff_ne]
        omega
    rw [e1]
    obtain ⟨⟨L, K, J, h⟩, _⟩ := h
    exact Done_any (h.sp.so.new hg)))
  have IS := Lib.hid (fun W2 (hg : W.grownBy W2 none) a => (show Calls Tryz.prog 26 #[.pointer (some ⟨g, 0, none⟩), .int .i64 a] W2 fun e w' => e = .returned (.bool (isb s.ws a)) ∧ W2.grownBy w' none from by
    obtain ⟨⟨L, K, J, h⟩, _⟩ := h
    exact Is_any (h.sp.gy.new hg) a))
  have PGS := Lib.hid (fun W2 (hg : W.grownBy W2 none) => (show Calls Tryz.prog 35 #[.pointer (some ⟨I.S, 0, none⟩)] W2 fun e w' => e = int1 (pg.zeros x.ks) ∧ W.grownBy w' none from by
    obtain ⟨⟨L, K, J, h⟩, _⟩ := h
    exact (Pages_any (h.sp.sr.new hg)).mono fun e w' ⟨k1, k2⟩ => ⟨k1, hg.trans k2⟩))
  have GM := Lib.hid (fun j (hj : j < n) => li.getD_mem (xs := x.tk) (k := j) (by omega) 0)
  obtain ⟨b0, b1, b2, b3, b4, b5, b6, b7, _⟩ := h.1.cells
  have KL := h.2.2.1
  rw [hn] at hl
  have o1 := OB.cell
  have HN := Lib.hid hn
  rw [hn] at o1
  have O1 := Lib.hid (fun W2 (hg : W.grownBy W2 none) => (show W2.cell? ⟨H, 111, none⟩ = some (.slice A n d) from hn ▸ (HO.out W2 hg).cell))
  have K1 := Lib.hid (fun W2 (hg : W.grownBy W2 none) => (show W2.cell? ⟨H, 0, none⟩ = some (.slice A2 N d2) from KL ▸ (HK.out W2 hg).cell))
  have od : (n : Int) ≤ d := by have := OB.le; omega
  have om := OB.max
  have kd : (N : Int) ≤ d2 := by have := KD.le; omega
  have km := KD.max
  have KL := Lib.hid KL
  unfold maxLen at om km
  clear h hT OB KD hn cN
  go_enter Tryz.func10, Tryz.ntmps10
  go_wp2_with (go_at_call 12; (with_reducible refine OBJ.out.mono ?_); rintro e w2 ⟨A3, d3, rfl, ho, hg⟩; have R2 := Lib.hid (li.rd_own ho); have G2 := Lib.hid hg; obtain ⟨e0, e1, e2, e3, e4, e5, e6, e7, _⟩ := HW.out _ hg; have e8 := O1.out _ hg; clear ho hg)
  go_region_held3 (fun W2 => W2.cell? ⟨B, 2, none⟩ = some (.pointer (some ⟨t, 0, none⟩)) ∧ W2.cell? ⟨B, 3, none⟩ = some (.pointer (some ⟨H, 0, none⟩)) ∧ W2.cell? ⟨B, 5, none⟩ = some (.int .i64 N) ∧ W2.cell? ⟨B, 6, none⟩ = some (.int .i64 c) ∧ W2.cell? ⟨B, 7, none⟩ = some (.int .i64 f) ∧ W2.cell? ⟨H, 111, none⟩ = some (.slice A n d)) (first | exact ⟨e2, e3, e5, e6, e7, e8⟩ | exact ff | go_keep) (first
    | (go_at_call 19; (with_reducible refine (AT.out _ (by first | exact G2.out | exact (G2.out).trans (gr.grown_drew _ _) | exact (G2.out).trans (li.grown_drewN _ _ _))).mono ?_); rintro e w3 ⟨rfl, hg⟩; have G3 := Lib.hid (show w2.grownBy w3 none from World.grownBy.trans (by first | exact World.grownBy.refl _ _ | exact gr.grown_drew _ _ | exact li.grown_drewN _ _ _) hg); have ff := (fun q => ⟨q.2.2.1, q.2.2.2.1, q.2.2.2.2.2.1, q.2.2.2.2.2.2.1, q.2.2.2.2.2.2.2.1, O1.out _ (G2.out.trans G3.out)⟩ : _ → _ ∧ _ ∧ _ ∧ _ ∧ _ ∧ _) (HW.out _ (G2.out.trans G3.out)); clear hg)
    | (go_at_call 20; (with_reducible refine (DN.out _ (by first | exact G2.out.trans G3.out | exact (G2.out.trans G3.out).trans (gr.grown_drew _ _) | exact (G2.out.trans G3.out).trans (li.grown_drewN _ _ _))).mono ?_); rintro e w4 ⟨rfl, hg⟩; have G4 := Lib.hid (show w2.grownBy w4 none from World.grownBy.trans (by first | exact G3.out | exact G3.out.trans (gr.grown_drew _ _) | exact G3.out.trans (li.grown_drewN _ _ _)) hg); have ff := (fun q => ⟨q.2.2.1, q.2.2.2.1, q.2.2.2.2.2.1, q.2.2.2.2.2.2.1, q.2.2.2.2.2.2.2.1, O1.out _ (G2.out.trans G4.out)⟩ : _ → _ ∧ _ ∧ _ ∧ _ ∧ _ ∧ _) (HW.out _ (G2.out.trans G4.out)); clear hg)
    | (go_at_call 17; (with_reducible refine (FR.out _ (by first | exact G2.out.trans G4.out | exact (G2.out.trans G4.out).trans (gr.grown_drew _ _) | exact (G2.out.trans G4.out).trans (li.grown_drewN _ _ _))).mono ?_); rintro e w5 ⟨rfl, hg⟩; have G5 := Lib.hid (show w2.grownBy w5 none from World.grownBy.trans (by first | exact G4.out | exact G4.out.trans (gr.grown_drew _ _) | exact G4.out.trans (li.grown_drewN _ _ _)) hg); have ff := (fun q => ⟨q.2.2.1, q.2.2.2.1, q.2.2.2.2.2.1, q.2.2.2.2.2.2.1, q.2.2.2.2.2.2.2.1, O1.out _ (G2.out.trans G5.out)⟩ : _ → _ ∧ _ ∧ _ ∧ _ ∧ _ ∧ _) (HW.out _ (G2.out.trans G5.out)); clear hg))
  all_goals
    clear b0 b1 b2 b3 b4 b5 b6 b7 o1 e0 e1 e2 e3 e4 e5 e6 e7 e8 ff
    go_wp2
    go_loopw [5] (fun i wr => ∃ k : Nat, k ≤ n ∧ i = .int .i64 k ∧ w2.grownBy wr none) (fun i _ => n - (intOf i).toNat)
    case atStart => exact ⟨0, Nat.zero_le _, rfl, (by first | exact G5.out | exact G5.out.trans (gr.grown_drew _ _) | exact G5.out.trans (li.grown_drewN _ _ _))⟩
    case round =>
      obtain ⟨k, hk, rfl, hg⟩ := hrel
      have GG := Lib.hid hg
      clear hg
      by_cases hlt : k < n
      · have TA := TK.out _ (GM.out k hlt)
        obtain ⟨bo, rfl, f6, g0⟩ := (HO.out _ (G2.out.trans GG.out)).at_ k (by rw [HN.out]; exact hlt)
        obtain ⟨br, oo, rfl, g1⟩ := (bm.Rd.below' R2.out (li.grown_below GG.out) GG.out.size).at_ hlt
        obtain ⟨a, ha⟩ : ∃ a : Nat, x.tk.getD k 0 = a := ⟨(x.tk.getD k 0).toNat, by omega⟩
        rw [ha] at TA g0 g1
        obtain ⟨_, k1, _, k3, k4, _⟩ := HW.out _ (G2.out.trans GG.out)
        have k8 := O1.out _ (G2.out.trans GG.out)
        obtain ⟨m0, mk⟩ := HM.out _ (G2.out.trans GG.out)
        have mk := mk a (by omega)
        have ISA := Lib.hid (fun W2 hg => IS.out W2 hg (a : Int))
        rw [isb_nat s.ws (a := a) (by omega)] at ISA
        generalize bm.bit s.ws a = y at *
        have a0 : (0 : Int) ≤ a := by omega
        have a1 : (a : Int) < 2048 := by omega
        have l1 : (0 : Int) ≤ (k : Int) := by omega
        have l2 : (k : Int) < n := by omega
        have HF := Lib.hid (fun W3 (hg : wr.grownBy W3 none) => (show W3.cell? ⟨B, 1, none⟩ = some (.pointer (some ⟨g, 0, none⟩)) ∧ W3.cell? ⟨B, 3, none⟩ = some (.pointer (some ⟨H, 0, none⟩)) ∧ W3.cell? ⟨B, 4, none⟩ = some (.pointer (some ⟨M, 0, none⟩)) ∧ W3.cell? ⟨H, 111, none⟩ = some (.slice (some ⟨bo, 0, none⟩) n d) ∧ W3.cell? ⟨bo, k * 3, none⟩ = some (.int .i64 a) ∧ W3.cell? ⟨br, oo + k, none⟩ = some (.int .i64 a) ∧ W3.cell? ⟨M, a, none⟩ = some (.bool y) from ⟨hg.cell k1 (by simp), hg.cell k3 (by simp), hg.cell k4 (by simp), hg.cell k8 (by simp), hg.cell g0 (by simp), hg.cell g1 (by simp), hg.cell mk (by simp)⟩))
        have f0 := HF.out _ (World.grownBy.refl _ _)
        clear ha TA k1 k3 k4 k8 g0 g1 mk
        cases y
        · skip
          go_wp2
          go_region_held3 (fun W3 => W3.cell? ⟨B, 1, none⟩ = some (.pointer (some ⟨g, 0, none⟩)) ∧ W3.cell? ⟨B, 3, none⟩ = some (.pointer (some ⟨H, 0, none⟩)) ∧ W3.cell? ⟨B, 4, none⟩ = some (.pointer (some ⟨M, 0, none⟩)) ∧ W3.cell? ⟨H, 111, none⟩ = some (.slice (some ⟨bo, 0, none⟩) n d) ∧ W3.cell? ⟨bo, k * 3, none⟩ = some (.int .i64 a) ∧ W3.cell? ⟨br, oo + k, none⟩ = some (.int .i64 a) ∧ W3.cell? ⟨M, a, none⟩ = some (.bool false)) (first | exact f0 | exact f1 | go_keep) (first
            | (go_at_call 26; (with_reducible refine (ISA.out _ (by first | exact G2.out.trans GG.out | exact (G2.out.trans GG.out).trans (gr.grown_drew _ _) | exact (G2.out.trans GG.out).trans (li.grown_drewN _ _ _))).mono ?_); rintro e w6 ⟨rfl, hg⟩; have G6 := Lib.hid (show wr.grownBy w6 none from World.grownBy.trans (by first | exact World.grownBy.refl _ _ | exact gr.grown_drew _ _ | exact li.grown_drewN _ _ _) hg); have f1 := HF.out _ G6.out; clear hg))
          all_goals
            go_wp2
            go_roundw
            case rel => exact ⟨k + 1, by omega, by go_num, by first | exact GG.out.trans G6.out | exact (GG.out.trans G6.out).trans (gr.grown_drew _ _) | exact (GG.out.trans G6.out).trans (li.grown_drewN _ _ _)⟩
            case measure => first | (simp [intOf]; done) | (simp [intOf]; omega)
        · skip
          go_wp2
          go_region_held3 (fun W3 => W3.cell? ⟨B, 1, none⟩ = some (.pointer (some ⟨g, 0, none⟩)) ∧ W3.cell? ⟨B, 3, none⟩ = some (.pointer (some ⟨H, 0, none⟩)) ∧ W3.cell? ⟨B, 4, none⟩ = some (.pointer (some ⟨M, 0, none⟩)) ∧ W3.cell? ⟨H, 111, none⟩ = some (.slice (some ⟨bo, 0, none⟩) n d) ∧ W3.cell? ⟨bo, k * 3, none⟩ = some (.int .i64 a) ∧ W3.cell? ⟨br, oo + k, none⟩ = some (.int .i64 a) ∧ W3.cell? ⟨M, a, none⟩ = some (.bool true)) (first | exact f0 | exact f1 | go_keep) (first
            | (go_at_call 26; (with_reducible refine (ISA.out _ (by first | exact G2.out.trans GG.out | exact (G2.out.trans GG.out).trans (gr.grown_drew _ _) | exact (G2.out.trans GG.out).trans (li.grown_drewN _ _ _))).mono ?_); rintro e w6 ⟨rfl, hg⟩; have G6 := Lib.hid (show wr.grownBy w6 none from World.grownBy.trans (by first | exact World.grownBy.refl _ _ | exact gr.grown_drew _ _ | exact li.grown_drewN _ _ _) hg); have f1 := HF.out _ G6.out; clear hg))
          all_goals
            go_wp2
            go_roundw
            case rel => exact ⟨k + 1, by omega, by go_num, by first | exact GG.out.trans G6.out | exact (GG.out.trans G6.out).trans (gr.grown_drew _ _) | exact (GG.out.trans G6.out).trans (li.grown_drewN _ _ _)⟩
            case measure => first | (simp [intOf]; done) | (simp [intOf]; omega)
      · obtain rfl : k = n := by omega
        have EK := Lib.hid (show pg.zeros (x.ks.take N) = pg.zeros x.ks by rw [List.take_of_length_le (by have := KL.out; omega)])
        have ZL := Lib.hid (fun q => (show pg.zeros (x.ks.take q) ≤ 64 from by have := pg.zeros_le (x.ks.take q); rw [List.length_take] at this; have := KL.out; omega))
        go_wp2
        go_loopw [4, 6] (fun m i wq => ∃ q : Nat, q ≤ N ∧ i = .int .i64 q ∧ m = .int .i64 (pg.zeros (x.ks.take q)) ∧ wr.grownBy wq none) (fun _ i _ => N - (intOf i).toNat)
        case atStart => exact ⟨0, Nat.zero_le _, rfl, rfl, World.grownBy.refl _ _⟩
        case round =>
          obtain ⟨q, hq, rfl, rfl, hg⟩ := hrel
          have GQ := Lib.hid hg
          have GA := Lib.hid ((G2.out.trans GG.out).trans hg)
          clear hg
          obtain ⟨k0, _, _, k3, _⟩ := HW.out _ GA.out
          have k8 := K1.out _ GA.out
          have z1 := ZL.out q
          have ZQ := Lib.hid (show (pg.zeros (x.ks.take q) : Int) = pg.zeros (x.ks.take q) from rfl)
          by_cases hlq : q < N
          · obtain ⟨bk, ok, rfl, g0⟩ := (HK.out _ GA.out).at_ q (by rw [KL.out]; exact hlq)
            have ZM := Lib.hid (zeros_more (l := x.ks) (k := q) (by rw [KL.out]; exact hlq))
            generalize x.ks.getD q 0 = kd0 at *
            obtain ⟨m, hm⟩ : ∃ m, pg.zeros (x.ks.take q) = m := ⟨_, rfl⟩
            rw [hm] at ZM z1
            rw [hm]
            have l1 : (0 : Int) ≤ (q : Int) := by omega
            have l2 : (q : Int) < N := by omega
            have m0 : (0 : Int) ≤ m := by omega
            have m1 : (m : Int) ≤ 64 := by omega
            clear hm ZQ
            by_cases h0 : kd0 = 0
            · subst h0
              have ZN := Lib.hid (show pg.zeros (x.ks.take (q + 1)) = m + 1 by rw [ZM.out, if_pos rfl])
              go_wp2
              go_roundw
              case rel => exact ⟨q + 1, by omega, by go_num, by rw [ZN.out]; go_num, GQ.out⟩
              case measure => first | (simp [intOf]; done) | (simp [intOf]; omega)
            · have t0 : (kd0 == 0) = false := by simpa using h0
              have ZN := Lib.hid (show pg.zeros (x.ks.take (q + 1)) = m by rw [ZM.out, if_neg h0, Nat.add_zero])
              clear h0
              go_wp2
              go_roundw
              case rel => exact ⟨q + 1, by omega, by go_num, by rw [ZN.out], GQ.out⟩
              case measure => first | (simp [intOf]; done) | (simp [intOf]; omega)
          · obtain rfl : q = N := by omega
            rw [EK.out] at z1
            rw [EK.out]
            have PG := Lib.hid (PGS.out _ GA.out)
            obtain ⟨m, hm⟩ : ∃ m, pg.zeros x.ks = m := ⟨_, rfl⟩
            rw [hm] at PG
            rw [hm]
            clear hm ZQ
            go_wp2_with (go_at_call 35; (with_reducible refine PG.out.mono ?_); rintro e w8 ⟨rfl, hg⟩; have G8 := Lib.hid hg; clear hg)
            go_ret
            exact ⟨by simp, G8.out⟩
end
end Go.Proofs.YtfloleflcoiidaaGreatDoor.sw
