/- Texts that this claim stands on. -/
import Derived.Test.YtfhebjkoojodiaaDoorQGsE
namespace Go.Proofs.YtfhebjkoojodiaaDoor.gq
open Go.ChangeShapes Go.WideShapes Go.ChangeAt Go.RowKit gen va cd gp
set_option linter.unusedVariables false
set_option linter.unusedSimpArgs false
set_option maxHeartbeats 4000000
set_option maxRecDepth 100000
section
variable (c0 c2 q c4 c5 c6 c7 c8 c9 : Int)
theorem clones_no {w : World} (c1 : Int) (v1 v2 v3 : Value) {n : Int} (h0 : (n == 0) = false) (hT : cf.Table w) (hn : cf.wrongN [c0, c1, c2, q, c4, c5, c6, c7, c8, c9] = n) : Calls Tryd.prog 5 #[.agg #[.int .i64 c0, .int .i64 c1, .int .i64 c2, .int .i64 q, .int .i64 c4, .int .i64 c5, .int .i64 c6, .int .i64 c7, .int .i64 c8, .int .i64 c9], v1, v2, v3] w
    fun e w' => e = .returned (.bool true) ∧ w.grownBy w' none := by
  have G0 := Lib.hid (grown_alloc w (.cells #[.int .i64 c0, .int .i64 c1, .int .i64 c2, .int .i64 q, .int .i64 c4, .int .i64 c5, .int .i64 c6, .int .i64 c7, .int .i64 c8, .int .i64 c9] 23))
  have TN := Lib.hid (cf.Ten.new w 23 c0 c1 c2 q c4 c5 c6 c7 c8 c9)
  have AL := Lib.hid (fun W (hg : w.grownBy W none) => alive_any (tab_new hT hg))
  have CK := Lib.hid (fun W (hg : w.grownBy W none) => cf.Check_no c0 c1 c2 q c4 c5 c6 c7 c8 c9 W h0 (tab_new hT hg) hn)
  clear hn hT h0
  go_enter Tryd.func5, Tryd.ntmps5
  go_wp2_with (first
    | (go_at_call 6; (with_reducible refine (AL.out _ G0.out).mono ?_); rintro e w1 ⟨rfl, hg⟩; have G1 := Lib.hid (G0.out.trans hg); obtain ⟨y0, y1, y2, y3, y4, y5, y6, y7, y8, y9⟩ := TN.out.below (li.grown_below hg); clear hg)
    | (go_at_call 8; (with_reducible refine (CK.out _ G1.out).mono ?_); rintro e w2 ⟨rfl, hb⟩; have G2 := Lib.hid (G1.out.trans (of_below hb)); clear hb))
  go_ret
  exact ⟨rfl, G2.out⟩
structure Sps (w : World) (A : Option Addr) (n d : Nat) (ff : Nat → Nat → Int) : Prop where
  r : Rws w w.heap.size A n 7 ff
  h : n ≤ d
  m : d ≤ maxLen
theorem Sps.ad {w : World} {A : Option Addr} {n d : Nat} {ff : Nat → Nat → Int} (p : Sps w A n d ff) : 0 < n → ∃ ad, A = some ad := fun h0 => by
  obtain ⟨b, off, e, _⟩ := p.r 0 h0
  exact ⟨_, e⟩
theorem Sps.at_ {w : World} {A : Option Addr} {n d : Nat} {ff : Nat → Nat → Int} (p : Sps w A n d ff) {l i : Nat} (hl : l ≤ n) (hi : i < l) : ∃ b off k t ii f j c m, A = some ⟨b, off, none⟩ ∧ b < w.heap.size ∧ St7 w b (off + i * 7) k t ii f j c m := by
  obtain ⟨b, off, e, hb, h7⟩ := steps_at p.r (Nat.lt_of_lt_of_le hi hl)
  exact ⟨b, off, _, _, _, _, _, _, _, e, hb, h7⟩
theorem clones_yes {w : World} (N : Nat) (hT : cf.Table w) (hn : cf.wrongN [c0, (N : Int), c2, q, c4, c5, c6, c7, c8, c9] = 0) (hN : 0 < N) (hN8 : N ≤ 8) (q1 : 1 ≤ q) (q2 : q ≤ 16)
    {A1 : Option Addr} {n1 d1 : Nat} {f1 : Nat → Nat → Int} (h1 : Sps w A1 n1 d1 f1) {A2 : Option Addr} {n2 d2 : Nat} {f2 : Nat → Nat → Int} (h2 : Sps w A2 n2 d2 f2) {A3 : Option Addr} {n3 d3 : Nat} {f3 : Nat → Nat → Int} (h3 : Sps w A3 n3 d3 f3) :
    Calls Tryd.prog 5 #[.agg #[.int .i64 c0, .int .i64 (N : Int), .int .i64 c2, .int .i64 q, .int .i64 c4, .int .i64 c5, .int .i64 c6, .int .i64 c7, .int .i64 c8, .int .i64 c9], .slice A1 n1 d1, .slice A2 n2 d2, .slice A3 n3 d3] w
    fun e w' => e = .returned (.bool true) ∧ w.grownBy w' none := by
  have G0 := Lib.hid (grown_alloc w (.cells #[.int .i64 c0, .int .i64 (N : Int), .int .i64 c2, .int .i64 q, .int .i64 c4, .int .i64 c5, .int .i64 c6, .int .i64 c7, .int .i64 c8, .int .i64 c9] 23))
  have TN := Lib.hid (cf.Ten.new w 23 c0 (N : Int) c2 q c4 c5 c6 c7 c8 c9)
  have AL := Lib.hid (fun W (hg : w.grownBy W none) => alive_any (tab_new hT hg))
  have CK := Lib.hid (fun W (hg : w.grownBy W none) => cf.Check_yes c0 (N : Int) c2 q c4 c5 c6 c7 c8 c9 W (tab_new hT hg) hn)
  have NY := Lib.hid (fun W (hg : w.grownBy W none) => New_yes c0 c2 q c4 c5 c6 c7 c8 c9 (w := W) N (tab_new hT hg) hn hN hN8 q1 q2)
  have FA := Lib.hid (fun W => few_any A1 n1 d1 W h1.h h1.m h1.ad)
  have FB := Lib.hid (fun W => few_any A2 n2 d2 W h2.h h2.m h2.ad)
  have FD := Lib.hid (fun W => few_any A3 n3 d3 W h3.h h3.m h3.ad)
  have HA := Lib.hid h1
  have HB := Lib.hid h2
  have HD := Lib.hid h3
  clear hn hT h1 h2 h3
  go_enter Tryd.func5, Tryd.ntmps5
  go_wp2_with (first
    | (go_at_call 6; (with_reducible refine (AL.out _ G0.out).mono ?_); rintro e w1 ⟨rfl, hg⟩; have G1 := Lib.hid (G0.out.trans hg); have T1 := Lib.hid (cf.Ten.below (li.grown_below hg) TN.out); obtain ⟨y0, y1, y2, y3, y4, y5, y6, y7, y8, y9⟩ := T1.out; clear hg)
    | (go_at_call 8; (with_reducible refine (CK.out _ G1.out).mono ?_); rintro e w2 ⟨rfl, hb⟩; have G2 := Lib.hid (G1.out.trans (of_below hb)); have T2 := Lib.hid (cf.Ten.below hb T1.out); obtain ⟨z0, z1, z2, z3, z4, z5, z6, z7, z8, z9⟩ := T2.out; clear hb)
    | (go_at_call 7; (first
        | ((with_reducible refine (NY.out _ G2.out).mono ?_); rintro e w3 ⟨g, K, R, A, nc, vs, bs, rfl, hp, hk, hg⟩; have G3 := Lib.hid (G2.out.trans hg); have P3 := Lib.hid hp; have K3 := Lib.hid hk; have D3 := Lib.hid hg; have T3' := Lib.hid (cf.Ten.below (li.grown_below hg) T2.out); obtain ⟨u0, u1, u2, u3, u4, u5, u6, u7, u8, u9⟩ := T3'.out; clear hp hk hg)
        | ((with_reducible refine (NY.out _ G3.out).mono ?_); rintro e w4 ⟨h, K', R', A', nc', vs', bs', rfl, hp, hk, hg⟩; have P4 := Lib.hid (two_new G2.out P3.out K3.out D3.out hp hk hg); clear hp hk hg)))
    | (go_at_call 10; (first
        | ((with_reducible refine (FA.out _).mono ?_); rintro e w5 ⟨⟨l1, e1, hl1, hn1, rfl⟩, hw⟩; subst hw)
        | ((with_reducible refine (FB.out _).mono ?_); rintro e w5 ⟨⟨l2, e2, hl2, hn2, rfl⟩, hw⟩; subst hw)
        | ((with_reducible refine (FD.out _).mono ?_); rintro e w5 ⟨⟨l3, e3, hl3, hn3, rfl⟩, hw⟩; subst hw))))
  go_loopw [13] (fun x wr => ∃ i : Nat, i ≤ l1 ∧ x = .int .i64 (i : Int) ∧ ∃ σ, Pr w g h σ σ wr ∧ σ.M ≤ i + 1) (fun x _ => l1 - (intOf x).toNat)
  case atStart => exact ⟨0, Nat.zero_le _, rfl, _, P4.out, Nat.le_refl _⟩
  case round =>
    clear y0 y1 y2 y3 y4 y5 y6 y7 y8 y9 z0 z1 z2 z3 z4 z5 z6 z7 z8 z9 u0 u1 u2 u3 u4 u5 u6 u7 u8 u9
    obtain ⟨i, hi, rfl, σ, hp, hm⟩ := hrel
    have PX := Lib.hid hp
    by_cases hlt : i < l1
    · obtain ⟨b, off, k, t, ii, f, j, c, n, rfl, hb, h7⟩ := HA.out.at_ hn1 hlt
      have H7 := Lib.hid (h7.new hp.grow)
      have M1000 : σ.M < 1000 := by omega
      obtain ⟨s0, s1, s2, s3, s4, s5, s6⟩ := H7.out
      have l1' : (0 : Int) ≤ (i : Int) := by omega
      have l2' : (i : Int) < (l1 : Int) := by omega
      have MM := stg_M (σ := σ) k t ii f j c n 0
      clear hp h7
      go_wp2_with (first
        | (go_at_call 11; (first
          | ((with_reducible refine (PX.out.do_ M1000 (World.grownBy.refl _ _) k t ii f j c n 0).mono ?_); rintro e wf ⟨rfl, hP, hF, L, hL, hB⟩; have P1 := Lib.hid hP; have Q1 := Lib.hid (H7.out.gr hL (fun hm => by have := (hB _ hm).1; omega)); clear hP hF hL hB s0 s1 s2 s3 s4 s5 s6; obtain ⟨s0, s1, s2, s3, s4, s5, s6⟩ := Q1.out)
          | ((with_reducible refine (P1.out.swap.do_ M1000 (World.grownBy.refl _ _) k t ii f j c n 0).mono ?_); rintro e wf ⟨rfl, hP, hF, L, hL, hB⟩; have P2 := Lib.hid hP; clear hP hF hL hB))))
      exact ⟨⟨i + 1, by omega, by go_num, _, P2.out.swap, by omega⟩, by simp [intOf]; omega⟩
    · have ei : i = l1 := by omega
      subst ei
      clear hp
      have M81 : σ.M ≤ 81 := by omega
      go_wp2_with (first
        | (go_at_call 18; (with_reducible refine PX.out.clone.mono ?_); rintro e w6 ⟨k, rfl, hp⟩; have T6 := Lib.hid hp; clear hp)
        | (go_at_call 15; (with_reducible refine T6.out.view.mono ?_); rintro e w7 ⟨B1, m1, e4, B2, m2, e5, rfl, hk, hm2, hg⟩; have W7 := Lib.hid hk; have G7 := Lib.hid hg; clear hk hg))
      obtain ⟨B0, hB0⟩ : ∃ B0, w6.heap.size = B0 := ⟨_, rfl⟩
      obtain ⟨V, hV⟩ : ∃ V, w7.heap.size = V := ⟨_, rfl⟩
      have VX := Lib.hid (VS.start (c := e5) T6.out W7.out G7.out (.slice B1 m1 e4))
      rw [hB0, hV] at VX
      rw [hV]
      clear hB0 hV
      go_loopw [16] (fun x wr => ∃ i : Nat, i ≤ m2 ∧ x = .int .i64 (i : Int) ∧ VS w g h k σ σ σ B0 V B2 m2 e5 wr) (fun x _ => m2 - (intOf x).toNat)
      case atStart => exact ⟨0, Nat.zero_le _, rfl, VX.out⟩
      case round =>
        obtain ⟨i, hi2, rfl, hv⟩ := hrel
        have VI := Lib.hid hv
        have x1 := hv.c1
        have mM : m2 ≤ 81 := by omega
        by_cases hlt2 : i < m2
        · obtain ⟨b, C, kk, cc, rfl, y1, y2, y3, yb, y5⟩ := hv.wk i hlt2
          have Y1 := Lib.hid y1
          have l1' : (0 : Int) ≤ (i : Int) := by omega
          have l2' : (i : Int) < (m2 : Int) := by omega
          clear hv y5 yb
          go_wp2
          go_loopw [17] (fun y wq => ∃ f : Nat, f ≤ kk ∧ y = .int .i64 (f : Int) ∧ VS w g h k σ σ σ B0 V (some ⟨b, 0, none⟩) m2 e5 wq ∧ wq.cell? ⟨b, i * 2 + 1, none⟩ = some (.slice C kk cc)) (fun y _ => kk - (intOf y).toNat)
          case atStart => exact ⟨0, Nat.zero_le _, rfl, VI.out, Y1.out⟩
          case round =>
            clear x1 y1
            obtain ⟨f, hf, rfl, hv, y1⟩ := hrel
            have VF := Lib.hid hv
            have x1 := hv.c1
            unfold maxLen at y3
            by_cases hlt3 : f < kk
            · obtain ⟨q, cu, rfl, hq1, hq2, ⟨u0, u1, z0, z1⟩, hn, hfz, -, -⟩ := hv.ent hlt2 y1 hlt3
              have z2 := hfz (f * 2)
              have z3 := hfz (f * 2 + 1)
              have k1' : (0 : Int) ≤ (f : Int) := by omega
              have k2' : (f : Int) < (kk : Int) := by omega
              have QQ := Lib.hid (VF.out.put (o := f * 2) (o2 := f * 2 + 1) hq2 hq1 (.int .i64 9) (.int .i64 0))
              have HN := Lib.hid hn
              have YY := Lib.hid y1
              clear hv hfz hq2 hn
              go_wp2
              exact ⟨⟨f + 1, by omega, by go_num, QQ.out.1, QQ.out.2 _ _ _ HN.out YY.out⟩, by simp [intOf]; omega⟩
            · have ef : f = kk := by omega
              subst ef
              clear hv
              go_wp2
              exact ⟨⟨i + 1, by omega, by go_num, VF.out⟩, by simp [intOf]; omega⟩
        · have ei : i = m2 := by omega
          subst ei
          clear hv
          go_wp2
          go_loopw [18] (fun x wr => ∃ i : Nat, i ≤ l2 ∧ x = .int .i64 (i : Int) ∧ ∃ ρ B9, T3 w g h k ρ σ σ B9 wr ∧ ρ.M ≤ 81 + i) (fun x _ => l2 - (intOf x).toNat)
          case atStart => exact ⟨0, Nat.zero_le _, rfl, σ, B0, VI.out.t3, by omega⟩
          case round =>
            clear x1
            obtain ⟨i, hi3, rfl, ρ, B9, hp, hm3⟩ := hrel
            have TX := Lib.hid hp
            by_cases hlt4 : i < l2
            · obtain ⟨b, off, kk, t, ii, f, j, c, n, rfl, hb, h7⟩ := HB.out.at_ hn2 hlt4
              have M1000 : ρ.M < 1000 := by omega
              obtain ⟨s0, s1, s2, s3, s4, s5, s6⟩ := h7.new hp.grow
              have l1' : (0 : Int) ≤ (i : Int) := by omega
              have l2' : (i : Int) < (l2 : Int) := by omega
              have MM := stg_M (σ := ρ) kk t ii f j c n 0
              clear hp h7
              go_wp2_with (first
                | (go_at_call 11; (with_reducible refine (TX.out.do_ M1000 kk t ii f j c n 0).mono ?_); rintro e wf ⟨v, rfl, hP, -⟩; have P1 := Lib.hid hP; clear hP))
              exact ⟨⟨i + 1, by omega, by go_num, _, _, P1.out, by omega⟩, by simp [intOf]; omega⟩
            · have ei : i = l2 := by omega
              subst ei
              have PY := Lib.hid hp.pr
              clear hp
              go_wp2
              go_loopw [19] (fun x wr => ∃ i : Nat, i ≤ l3 ∧ x = .int .i64 (i : Int) ∧ ∃ τ, Pr w k h τ τ wr ∧ τ.M ≤ 81 + i) (fun x _ => l3 - (intOf x).toNat)
              case atStart => exact ⟨0, Nat.zero_le _, rfl, σ, PY.out, by omega⟩
              case round =>
                obtain ⟨i, hi4, rfl, τ, hp, hm4⟩ := hrel
                have PZ := Lib.hid hp
                by_cases hlt5 : i < l3
                · obtain ⟨b, off, kk, t, ii, f, j, c, n, rfl, hb, h7⟩ := HD.out.at_ hn3 hlt5
                  have M1000 : τ.M < 1000 := by omega
                  have H7 := Lib.hid (h7.new hp.grow)
                  obtain ⟨s0, s1, s2, s3, s4, s5, s6⟩ := H7.out
                  have l1' : (0 : Int) ≤ (i : Int) := by omega
                  have l2' : (i : Int) < (l3 : Int) := by omega
                  have MM := stg_M (σ := τ) kk t ii f j c n 0
                  obtain ⟨z, hz⟩ : ∃ z, stz τ kk t ii f j c n 0 = z := ⟨_, rfl⟩
                  obtain ⟨⟨v1, v2⟩, hv⟩ : ∃ v, sta τ kk t ii f j c n 0 = v := ⟨_, rfl⟩
                  have DO := Lib.hid (fun (g1 h1 : Nat) (τ1 : Gs) (W X : World) (p : Pr w g1 h1 τ τ1 W) (hX : W.grownBy X none) => p.do_ M1000 hX kk t ii f j c n 0)
                  rw [hz, hv] at DO
                  clear hp h7 hz hv
                  go_wp2
                  go_region_held3 (fun W => W.cell? ⟨b, off + i * 7, none⟩ = some (.int .i64 kk) ∧ W.cell? ⟨b, off + i * 7 + 1, none⟩ = some (.int .i64 t) ∧ W.cell? ⟨b, off + i * 7 + 2, none⟩ = some (.int .i64 ii) ∧ W.cell? ⟨b, off + i * 7 + 3, none⟩ = some (.int .i64 f) ∧ W.cell? ⟨b, off + i * 7 + 4, none⟩ = some (.int .i64 j) ∧ W.cell? ⟨b, off + i * 7 + 5, none⟩ = some (.int .i64 c) ∧ W.cell? ⟨b, off + i * 7 + 6, none⟩ = some (.int .i64 n)) (first | go_keep | with_reducible exact ⟨r0, r1, r2, r3, r4, r5, r6⟩) (first
                    | (go_at_call 11; (first
                      | (have mark := P1; (with_reducible refine (DO.out _ _ _ _ _ P1.out.swap (World.grownBy.refl _ _)).mono ?_); rintro e wg ⟨rfl, hP, -, L, hL, hB⟩; have Q2 := Lib.hid (Q1.out.gr hL (fun hm => by have := (hB _ hm).1; omega)); have P2 := Lib.hid hP; clear r0 r1 r2 r3 r4 r5 r6; obtain ⟨r0, r1, r2, r3, r4, r5, r6⟩ := Q2.out; clear hP hL hB)
                      | ((with_reducible refine (DO.out _ _ _ _ _ PZ.out (gr.grown_drew _ _)).mono ?_); rintro e wf ⟨rfl, hP, -, L, hL, hB⟩; have Q1 := Lib.hid ((H7.out.new (gr.grown_drew _ _)).gr hL (fun hm => by have := (hB _ hm).1; omega)); have P1 := Lib.hid hP; obtain ⟨r0, r1, r2, r3, r4, r5, r6⟩ := Q1.out; clear hP hL hB))))
                  go_wp2
                  exact ⟨⟨i + 1, by omega, by go_num, _, P2.out.swap, by omega⟩, by simp [intOf]; omega⟩
                · have ei : i = l3 := by omega
                  subst ei
                  clear hp
                  go_wp2
                  obtain ⟨O, hO⟩ : ∃ O, O = wr.heap.size := ⟨_, rfl⟩
                  obtain ⟨F, hF⟩ : ∃ F, F = wr.heap.size + 1 := ⟨_, rfl⟩
                  obtain ⟨W0, hW0⟩ : ∃ W0, W0 = (wr.alloc (.cells #[.int .i64 0, .slice none 0 0, .slice none 0 0] 60)).alloc (.cells #[.int .i64 9, .int .i64 0, .int .i64 0, .int .i64 0, .int .i64 0] 36) := ⟨_, rfl⟩
                  have P0 := Lib.hid (show Pr w k h τ τ W0 by rw [hW0]; exact PZ.out.new ((grown_alloc _ _).trans (grown_alloc _ _)))
                  have OD := Lib.hid (show Nob W0 (some ⟨O, 0, none⟩) by rw [hW0, hO]; exact nob_odd (cc := 0) (by simp [go_sem]))
                  have NI := Lib.hid (nob_nil W0)
                  have FC := Lib.hid (show B5 W0 F 9 0 0 by have := B5.made (wr.alloc (.cells #[.int .i64 0, .slice none 0 0, .slice none 0 0] 60)) 36 9 0 0; rw [hW0, hF]; simpa using this)
                  have OK := Lib.hid P0.out.ok
                  have FV1 : ∀ w, (Instr.field 45 (.agg #[.slice none 0 0, .slice none 0 0]) 1).run Tryd.prog w = .ok (.slice none 0 0) w := fun w => by kernel_rfl
                  have FV0 : ∀ w, (Instr.field 45 (.agg #[.slice none 0 0, .slice none 0 0]) 0).run Tryd.prog w = .ok (.slice none 0 0) w := fun w => by kernel_rfl
                  obtain ⟨s0, s1, s2, s3, s4⟩ := FC.out
                  rw [← hW0, ← hF, ← hO]
                  clear hW0 hF hO
                  go_region_held3 (fun W => W.cell? ⟨F, 0, none⟩ = some (.int .i64 9) ∧ W.cell? ⟨F, 1, none⟩ = some (.int .i64 0) ∧ W.cell? ⟨F, 2, none⟩ = some (.int .i64 0) ∧ W.cell? ⟨F, 3, none⟩ = some (.int .i64 0) ∧ W.cell? ⟨F, 4, none⟩ = some (.int .i64 0)) (first | go_keep | with_reducible exact ⟨r0, r1, r2, r3, r4⟩) (first
                    | (go_at_call 15; (first
                      | ((have mark := G6; (with_reducible refine (View_no (OD.out.new G6.out)).mono ?_)); rintro e w9 ⟨rfl, hg⟩; have G7 := Lib.hid (G6.out.trans hg); clear hg; obtain ⟨r0, r1, r2, r3, r4⟩ := FC.out.new G7.out)
                      | ((have mark := G5; (with_reducible refine (View_no (NI.out.new G5.out)).mono ?_)); rintro e w9 ⟨rfl, hg⟩; have G6 := Lib.hid (G5.out.trans hg); clear hg; obtain ⟨r0, r1, r2, r3, r4⟩ := FC.out.new G6.out)
                      | ((have mark := P1; (with_reducible refine P1.out.swap.view.mono ?_)); rintro e w9 ⟨A4, m4, x4, A5, m5, x5, rfl, hv2, hg⟩; have U2 := Lib.hid hv2; have V2 := Lib.hid (V1.out.far hg); have G2 := Lib.hid (G1.out.trans hg); clear hv2 hg; obtain ⟨r0, r1, r2, r3, r4⟩ := FC.out.new G2.out)
                      | ((with_reducible refine (Pr.view (P0.out.new (gr.grown_drew _ _))).mono ?_); rintro e w9 ⟨A4, m4, x4, A5, m5, x5, rfl, hv2, hg⟩; have V1 := Lib.hid hv2; have G1 := Lib.hid ((gr.grown_drew W0 none).trans hg); have P1 := Lib.hid (P0.out.new G1.out); clear hv2 hg; obtain ⟨r0, r1, r2, r3, r4⟩ := FC.out.new G1.out)))
                    | (go_at_call 14; (with_reducible refine (alike OK.out V2.out U2.out).mono ?_); rintro e w9 ⟨rfl, hg⟩; have G3 := Lib.hid (G2.out.trans hg); clear hg; obtain ⟨r0, r1, r2, r3, r4⟩ := FC.out.new G3.out)
                    | (go_at_call 11; (first
                      | ((have mark := G4; (with_reducible refine (Do_no (OD.out.new G4.out)).mono ?_)); rintro e w9 ⟨rfl, hg⟩; have G5 := Lib.hid (G4.out.trans hg); clear hg; obtain ⟨r0, r1, r2, r3, r4⟩ := FC.out.new G5.out)
                      | ((have mark := G3; (with_reducible refine (Do_no (NI.out.new G3.out)).mono ?_)); rintro e w9 ⟨rfl, hg⟩; have G4 := Lib.hid (G3.out.trans hg); clear hg; obtain ⟨r0, r1, r2, r3, r4⟩ := FC.out.new G4.out)))
                    | (go_at_call 19; (with_reducible refine (Live_no (NI.out.new G7.out)).mono ?_); rintro e w9 ⟨rfl, hw⟩; subst hw)
                    | (go_at_call 17; (first
                      | ((with_reducible refine (Made_nb (NI.out.new G7.out)).mono ?_); rintro e w9 ⟨rfl, hw⟩; subst hw)
                      | ((with_reducible refine (Made_nb (OD.out.new G7.out)).mono ?_); rintro e w9 ⟨rfl, hw⟩; subst hw)))
                    | (go_at_call 18; (first
                      | ((with_reducible refine (Clone_nb (NI.out.new G7.out)).mono ?_); rintro e w9 ⟨rfl, hw⟩; subst hw)
                      | ((with_reducible refine (Clone_nb (OD.out.new G7.out)).mono ?_); rintro e w9 ⟨rfl, hw⟩; subst hw))))
                  go_wp2
                  go_ret
                  exact ⟨rfl, P0.out.grow.trans G7.out⟩
end
theorem clones_any (a0 a1 a2 a3 a4 a5 a6 a7 a8 a9 : Int) (w : World) (hT : cf.Table w) {A1 : Option Addr} {n1 d1 : Nat} {f1 : Nat → Nat → Int} (s1 : Rws w w.heap.size A1 n1 7 f1) (h1 : n1 ≤ d1) (m1 : d1 ≤ maxLen) {A2 : Option Addr} {n2 d2 : Nat} {f2 : Nat → Nat → Int} (s2 : Rws w w.heap.size A2 n2 7 f2) (h2 : n2 ≤ d2) (m2 : d2 ≤ maxLen) {A3 : Option Addr} {n3 d3 : Nat} {f3 : Nat → Nat → Int} (s3 : Rws w w.heap.size A3 n3 7 f3) (h3 : n3 ≤ d3) (m3 : d3 ≤ maxLen) :
    Calls Tryd.prog 5 #[.agg #[.int .i64 a0, .int .i64 a1, .int .i64 a2, .int .i64 a3, .int .i64 a4, .int .i64 a5, .int .i64 a6, .int .i64 a7, .int .i64 a8, .int .i64 a9], .slice A1 n1 d1, .slice A2 n2 d2, .slice A3 n3 d3] w
    fun e w' => e = .returned (.bool true) ∧ w.grownBy w' none := by
  by_cases h : cf.wrongN [a0, a1, a2, a3, a4, a5, a6, a7, a8, a9] = 0
  · obtain ⟨-, ⟨b1, b2⟩, -, ⟨b3, b4⟩, -⟩ := cf.fine (cf.wrong_zero h).1
    obtain ⟨N, rfl⟩ : ∃ N : Nat, a1 = (N : Int) := ⟨a1.toNat, by omega⟩
    exact clones_yes a0 a2 a3 a4 a5 a6 a7 a8 a9 N hT h (by omega) (by omega) b3 b4 ⟨s1, h1, m1⟩ ⟨s2, h2, m2⟩ ⟨s3, h3, m3⟩
  · exact clones_no a0 a2 a3 a4 a5 a6 a7 a8 a9 a1 _ _ _ (n := cf.wrongN [a0, a1, a2, a3, a4, a5, a6, a7, a8, a9]) (by simpa using h) hT rfl
end Go.Proofs.YtfhebjkoojodiaaDoor.gq
