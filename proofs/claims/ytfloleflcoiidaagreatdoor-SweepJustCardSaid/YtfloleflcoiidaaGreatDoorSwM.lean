/- Swept whole, twice: the statement's own walk. -/
import Derived.Test.YtfloleflcoiidaaGreatDoorSwI
import Derived.Test.YtfloleflcoiidaaGreatDoorSwL
namespace Go.Proofs.YtfloleflcoiidaaGreatDoor.sw
open Go.ChangeShapes Go.WideShapes Go.ChangeAt Go.RowKit gen calls cls geos ce st sh
set_option linter.unusedVariables false
set_option maxHeartbeats 16000000
set_option maxRecDepth 100000
section
variable {w0 W W' : World} {B b : Nat} {I : Ids} {x x' z : Hs} {L L' K K' J J' X : List Nat} {g r t N c c' c2 f f' f2 c3 f3 n n' H M F : Nat} {s s' s2 s3 : Ps} {y y' : ph.Hq} {v : Value} {e : Ending} {bs : Bxs} {args : Array Value} {o : Obj}
/-- A row that is new is kept. -/
theorem Ws.keep (h : Ws w0 W B I x L g r s t N c f K H y J M s2 c2 f2 bs) (hg : W.grownBy W' none) (hq : W'.heap[b]? = some o) (hb : W.heap.size ≤ b) : Ws w0 W' B I x L g r s t N c f K H y J M s2 c2 f2 ((b, o) :: bs) := by
  have h' := h.new hg
  obtain ⟨l1, l2, l3, l4, l5⟩ := wlt h
  refine ⟨h'.sp, h'.gp, h'.bx, h'.aI, h'.aL, h'.aB, h'.lo, h'.gr, fun q hm => ?_⟩
  rcases List.mem_cons.1 hm with rfl | hm
  · exact ⟨hq, fun hm => by have := l1 _ hm; simp at this; omega, fun hm => by have := l2 _ hm; simp at this; omega, fun hm => by have := l3 _ hm; simp at this; omega, fun hm => by have := l4 _ hm; simp at this; omega, by simp; omega⟩
  · exact h'.bs q hm
theorem Wm.keep {A : Option Addr} {d : Nat} {l : List Int} (h : Wm w0 B I g r t N H M x s c f y s2 c2 f2 [] W) (hg : W.grownBy W' none) (ho : W'.ownsRow W.heap.size 3 1 (.slice A n d) n (li.ints l)) :
    ∃ bs, Wm w0 B I g r t N H M x s c f y s2 c2 f2 bs W' ∧ ∀ W2, (∀ q ∈ bs, W2.heap[q.1]? = some q.2) → ∃ b2, Rd W2 b2 A n d l := by
  rcases ho.2 with ⟨e1, e2⟩ | ⟨q, cap, cur, e1, e2, e3, e4⟩
  · refine ⟨[], h.new hg, fun W2 _ => ⟨_, bm.rd_own (w := W2) (base := W.heap.size) ⟨ho.1, .inl ⟨e1, e2⟩⟩⟩⟩
  · obtain ⟨L, K, J, h⟩ := h
    refine ⟨_, ⟨L, K, J, h.keep hg e3 e2⟩, fun W2 hb => ⟨_, bm.rd_own (w := W2) (base := W.heap.size) ⟨ho.1, .inr ⟨q, cap, cur, e1, e2, hb (q, .cells cur 3 (0, 0)) (by simp), e4⟩⟩⟩⟩
theorem rd_new {w w' : World} {B n c : Nat} {A : Option Addr} {xs : List Int} (h : Rd w B A n c xs) (hg : w.grownBy w' none) : Rd w' B A n c xs := ⟨h.1, h.2.1, fun ad e i hi => ⟨(h.2.2 ad e i hi).1, hg.cell (h.2.2 ad e i hi).2 (by simp)⟩⟩
/-- A unit, whatever was swept. -/
theorem unit_k {z : Sz} (h : Wm w0 B I g r t N H M (swp z n).x (swp z n).s n (swp z n).f y s2 c2 f2 bs W) (hT : bm.Tab w0) (V : Iv z.x) (F : bm.Fine 2048 z.s.ws) (hl : z.f + z.x.tk.length ≤ 4096) (hn : n < N) :
    Calls Tryz.prog 14 #[.pointer (some ⟨t, 0, none⟩)] W fun e w' => e = .returned (.bool true) ∧ Wm w0 B I g r t N H M (swp z (n + 1)).x (swp z (n + 1)).s (n + 1) (swp z (n + 1)).f y s2 c2 f2 bs w' :=
  h.prog fun L K J h3 => Unit_yes h3.sp (h3.tab hT).1 (h3.tab hT).2 hn (by have := swp_len V F n; omega)
theorem unit_end (h : Wm w0 B I g r t N H M x s N f y s2 c2 f2 bs W) :
    Calls Tryz.prog 14 #[.pointer (some ⟨t, 0, none⟩)] W fun e w' => e = .returned (.bool false) ∧ Wm w0 B I g r t N H M x s N f y s2 c2 f2 bs w' := by
  have hh := h
  obtain ⟨L, K, J, h⟩ := h
  exact (Unit_no h.sp.so).mono fun e w' ⟨k1, k2⟩ => ⟨k1, hh.new k2⟩
theorem start_w (h : Wm w0 B I g r t N H M x s c f y s2 c2 f2 bs W) :
    Calls Tryz.prog 13 #[.pointer (some ⟨t, 0, none⟩)] W fun e w' => e = .returned (.tuple #[]) ∧ Wm w0 B I g r t N H M x s 0 0 y s2 c2 f2 bs w' :=
  h.prog fun L K J h => (Start_any h.sp.so).mono fun e w' ⟨k1, k2, k3⟩ => ⟨k1, L, fun q hq => .inl hq, h.sp.box k3 k2 (Nat.zero_le _) (Nat.zero_le _), wr_t k3⟩
theorem objects_w (h : Wm w0 B I g r t N H M x s c f y s2 c2 f2 bs W) (hT : bm.Tab w0) (hn : x.tk.length = n) :
    Calls Tryz.prog 12 #[.pointer (some ⟨I.S, 0, none⟩)] W fun e w' => ∃ A d, e = .returned (.slice A n d) ∧ Rd w' w'.heap.size A n d x.tk ∧ W.grownBy w' none := by
  subst hn
  obtain ⟨L, K, J, h⟩ := h
  exact (tc.Objects_any h.sp.sr (h.tab hT).1 (h.tab hT).2).mono fun e w' ⟨A, d, k1, k2, k3⟩ => ⟨A, d, k1, bm.rd_own k2, k3⟩
theorem all_w (h : Wm w0 B I g r t N H M x s c f y s2 c2 f2 bs W) (hT : bm.Tab w0) {l : List Int} (hl : bm.nums s.ws = l) (hn : l.length = n) :
    Calls Tryz.prog 11 #[.pointer (some ⟨g, 0, none⟩)] W fun e w' => ∃ A d, e = .returned (.slice A n d) ∧ w'.ownsRow W.heap.size 3 1 (.slice A n d) n (li.ints l) ∧ W.grownBy w' none := by
  subst hl hn
  obtain ⟨L, K, J, h⟩ := h
  exact All_any h.sp.gy (h.tab hT).1
theorem count_w (h : Wm w0 B I g r t N H M x s c f y s2 c2 f2 bs W) (hn : bm.nums s.ws = []) :
    Calls Tryz.prog 16 #[.pointer (some ⟨g, 0, none⟩)] W fun e w' => e = .returned (.int .i64 0) ∧ W.grownBy w' none := by
  obtain ⟨L, K, J, h⟩ := h
  exact (Count_any h.sp.gy).mono fun e w' ⟨k1, k2⟩ => ⟨by rw [k1, hn]; rfl, k2⟩
theorem freed_w (h : Wm w0 B I g r t N H M x s c f y s2 c2 f2 bs W) :
    Calls Tryz.prog 17 #[.pointer (some ⟨t, 0, none⟩)] W fun e w' => e = .returned (.int .i64 f) ∧ W = w' := by
  obtain ⟨L, K, J, h⟩ := h
  exact Freed_any h.sp.so
end
theorem SweepJust_any (n1 : Int) (D : Option Addr) (l c2 : Nat) (fo : Nat → Nat → Int) (w : World) (hc : l ≤ c2) (hc2 : c2 ≤ maxLen) (ho : Rws w w.heap.size D l 3 fo) (hT : bm.Tab w) :
    Calls Tryz.prog 4 #[.int .i64 n1, .slice D l c2] w fun e w' => e = .returned (.bool true) ∧ w.grownBy w' none := by
  obtain ⟨N, hN, N1, N2⟩ := near_nat n1 (b := 64) (by decide)
  have AL := Lib.hid (alive_any w hT)
  have BG := Lib.hid (fun W (hg : w.grownBy W none) => begin_any hg n1 (N := N) hN ⟨N1, N2⟩)
  have FW := Lib.hid (fun w => few_any D l c2 w hc hc2 ho.some)
  have HO := Lib.hid ho
  have HT := Lib.hid hT
  clear ho hc hc2 hT hN
  go_enter Tryz.func4, Tryz.ntmps4
  go_wp2_with (first
    | (go_at_call 8; (with_reducible refine (FW.out _).mono ?_); rintro e w' ⟨⟨l2, c4, hl1, hl2, rfl⟩, hw⟩; subst hw)
    | (go_at_call 7; (with_reducible refine (BG.out _ G1.out).mono ?_); rintro e w2 ⟨B, I, g, t, H, M, rfl, hs⟩; have A3 := Lib.hid hs; clear hs)
    | (go_at_call 6; (with_reducible refine AL.out.mono ?_); rintro e w1 ⟨rfl, hg⟩; have G1 := Lib.hid hg; clear hg))
  go_loopw [6] (fun i wr => ∃ (j : Nat) (x : Hs) (s : Ps) (f : Nat), j ≤ l2 ∧ i = .int .i64 j ∧ x.cnt ≤ j ∧ Ru w B I g 1 t N H M x s N f wr ∧ ∀ a, isb s.ws a = true → a ∈ x.tk) (fun i _ => l2 - (intOf i).toNat)
  case atStart => exact ⟨0, _, _, _, Nat.zero_le _, rfl, Nat.le_refl _, A3.out, fun a ha => by simp [isb, bm.bit_zeros] at ha⟩
  case round =>
    obtain ⟨j, x, s, f, hj, rfl, hx, hR, hm⟩ := hrel
    have R1 := Lib.hid hR
    have HM := Lib.hid hm
    have O1 := Lib.hid ((HO.out.less hl2).kept hR.grown (by simp))
    clear hR A3 hm
    by_cases hlt : j < l2
    · obtain ⟨q, off, rfl, hq, hcc, hw⟩ := O1.out j hlt
      have p0 := hcc 0 (by omega)
      rw [Nat.add_zero] at p0
      have p1 := hcc 1 (by omega)
      have p2 := hcc 2 (by omega)
      generalize fo j 0 = x0 at p0
      generalize fo j 1 = x1 at p1
      generalize fo j 2 = x2 at p2
      have l1 : (0 : Int) ≤ (j : Int) := by omega
      have l3 : (j : Int) < l2 := by omega
      have ST := Lib.hid (R1.out.step (by omega) HT.out x0 x1 x2)
      clear hcc hw O1 hq
      by_cases hk : x0 ≤ 3
      · have HK := Lib.hid hk
        have t1 : decide (x0 ≤ 3) = true := decide_eq_true hk
        clear hk
        go_wp2_with (first
          | (go_at_call 9; (with_reducible refine ST.out.mono ?_); rintro e w4 ⟨rfl, x', s', c', f', hs, hx', hj2⟩; have J4 := Lib.hid (hj2 HK.out rfl HM.out); have R4 := Lib.hid hs; clear hs hj2))
        go_roundw
        case rel =>
          have J := J4.out
          obtain ⟨rfl, J⟩ := J
          exact ⟨j + 1, x', s', f', by omega, by go_num, by omega, R4.out, J⟩
        case measure => first | (simp [intOf]; done) | (simp [intOf]; omega)
      · have t1 : decide (x0 ≤ 3) = false := decide_eq_false hk
        clear hk
        go_wp2
        go_roundw
        case rel => exact ⟨j + 1, x, s, f, by omega, by go_num, by omega, R1.out, HM.out⟩
        case measure => first | (simp [intOf]; done) | (simp [intOf]; omega)
    · obtain rfl : j = l2 := by omega
      obtain ⟨S1, x1, xl, hf⟩ := R1.out
      have S1 := Lib.hid S1
      obtain ⟨V, F, TL⟩ : Iv x ∧ bm.Fine 2048 s.ws ∧ x.tk.length ≤ 2048 := by obtain ⟨L, K, J, h⟩ := S1.out; exact ⟨h.sp.iv, h.sp.gy.fine, tk_few h.sp.sr⟩
      obtain ⟨z, hz⟩ : ∃ z : Sz, z = ⟨x, s, 0⟩ := ⟨_, rfl⟩
      obtain ⟨q1, q2, q3, q4⟩ := swept (z := z) (N := N) (by rw [hz]; exact V) (by rw [hz]; exact F) (by rw [hz]; exact xl) (by rw [hz]; exact HM.out)
      have SU := su_all (z := z) (by rw [hz]; exact V) (by rw [hz]; exact F) N
      obtain ⟨z2, hz2⟩ : ∃ z2 : Sz, z2 = ⟨(swp z N).x, (swp z N).s, 0⟩ := ⟨_, rfl⟩
      obtain ⟨r1, r2, r3, r4⟩ := swept (z := z2) (N := N) (by rw [hz2]; exact SU.iv) (by rw [hz2]; exact SU.fi) (by rw [hz2]; exact SU.len.trans (by rw [hz]; exact xl)) (fun b hb => by rw [hz2] at hb; have := q4 b; rw [this] at hb; cases hb)
      obtain ⟨wl, hwl⟩ : ∃ wl, bm.nums s.ws = wl := ⟨_, rfl⟩
      obtain ⟨nw, hnw⟩ : ∃ nw, wl.length = nw := ⟨_, rfl⟩
      obtain ⟨nb, hnb⟩ : ∃ nb, x.tk.length = nb := ⟨_, rfl⟩
      have e1 : (swp z N).x.tk = wl := by rw [q1, hz]; exact hwl
      have e3 : (swp z N).f + nw = nb := by
        have h1 : bm.nums z.s.ws = wl := by rw [hz]; exact hwl
        have h2 : z.x.tk.length = nb := by rw [hz]; exact hnb
        have h3 : z.f = 0 := by rw [hz]
        rw [h1, h2, h3, hnw] at q3
        omega
      have k1 : (swp z2 N).x.tk = [] := by rw [r1, hz2]; exact q2
      have k3 : (swp z2 N).f = nw := by
        have h1 : bm.nums z2.s.ws = [] := by rw [hz2]; exact q2
        have h2 : z2.x.tk.length = nw := by rw [hz2, ← hnw, ← e1]
        have h3 : z2.f = 0 := by rw [hz2]
        rw [h1, h2, h3] at r3
        simpa using r3
      have S0 := Lib.hid (fun W y s2 c2 f2 bs (h : Wm w B I g 1 t N H M x s 0 0 y s2 c2 f2 bs W) => (show Wm w B I g 1 t N H M (swp z 0).x (swp z 0).s 0 (swp z 0).f y s2 c2 f2 bs W from by rw [hz]; exact h))
      have T0 := Lib.hid (fun W y s2 c2 f2 bs (h : Wm w B I g 1 t N H M (swp z N).x (swp z N).s 0 0 y s2 c2 f2 bs W) => (show Wm w B I g 1 t N H M (swp z2 0).x (swp z2 0).s 0 (swp z2 0).f y s2 c2 f2 bs W from by rw [hz2]; exact h))
      have UK := Lib.hid (fun W k y s2 c2 f2 bs (h : Wm w B I g 1 t N H M (swp z k).x (swp z k).s k (swp z k).f y s2 c2 f2 bs W) (hk : k < N) => unit_k h HT.out (by rw [hz]; exact V) (by rw [hz]; exact F) (by rw [hz]; show 0 + x.tk.length ≤ 4096; omega) hk)
      have TK := Lib.hid (fun W k y s2 c2 f2 bs (h : Wm w B I g 1 t N H M (swp z2 k).x (swp z2 k).s k (swp z2 k).f y s2 c2 f2 bs W) (hk : k < N) => unit_k h HT.out (by rw [hz2]; exact SU.iv) (by rw [hz2]; exact SU.fi) (by rw [hz2]; show 0 + (swp z N).x.tk.length ≤ 4096; rw [e1]; have := bm.nums_length s.ws; rw [hwl] at this; omega) hk)
      have AL2 := Lib.hid (fun W (h : Wm w B I g 1 t N H M x s N f (ph.toq x) s N f [] W) => all_w h HT.out hwl hnw)
      have OB1 := Lib.hid (fun W bs (h : Wm w B I g 1 t N H M x s N f (ph.toq x) s N f bs W) => objects_w h HT.out hnb)
      have E1 := Lib.hid (⟨e1, hnw⟩ : _ ∧ _)
      have OB2 := Lib.hid (fun W c f y s2 c2 f2 bs (h : Wm w B I g 1 t N H M (swp z N).x (swp z N).s c f y s2 c2 f2 bs W) => (show Calls Tryz.prog 12 #[.pointer (some ⟨I.S, 0, none⟩)] W fun e w' => ∃ A d, e = .returned (.slice A nw d) ∧ Rd w' w'.heap.size A nw d wl ∧ W.grownBy w' none from by
        have := objects_w (n := nw) h HT.out (by rw [E1.out.1, E1.out.2])
        rw [E1.out.1] at this
        exact this))
      have OB3 := Lib.hid (fun W c f y s2 c2 f2 bs (h : Wm w B I g 1 t N H M (swp z2 N).x (swp z2 N).s c f y s2 c2 f2 bs W) => objects_w (n := 0) h HT.out (by rw [k1]; rfl))
      have CN := Lib.hid (fun W c f y s2 c2 f2 bs (h : Wm w B I g 1 t N H M (swp z N).x (swp z N).s c f y s2 c2 f2 bs W) => count_w h q2)
      obtain ⟨fa, hfa⟩ : ∃ fa, (swp z N).f = fa := ⟨_, rfl⟩
      have FA := Lib.hid hfa
      have K3 := Lib.hid k3
      have nw0 : (nw : Int) ≤ nb := by omega
      have nb0 : (nb : Int) ≤ 2048 := by omega
      have nwp : (0 : Int) ≤ nw := by omega
      have hsub : (nb : Int) - nw = fa := by omega
      have N64 : (N : Int) ≤ 64 := by omega
      have N0 : (0 : Int) ≤ N := by omega
      obtain ⟨b0, b1, b2, b3, b4, b5, b6, b7, _⟩ := S1.out.cells
      clear x1 xl hf V F TL hz q1 q2 q3 q4 SU hz2 r1 r2 r3 r4 hwl hnw hnb e1 e3 k1 k3 hfa R1 HM O1
      go_wp2
      go_region_held3 (fun W => W.cell? ⟨B, 0, none⟩ = some (.pointer (some ⟨I.S, 0, none⟩)) ∧ W.cell? ⟨B, 1, none⟩ = some (.pointer (some ⟨g, 0, none⟩))) (first | exact ⟨b0, b1⟩ | exact ⟨d0, d1⟩ | go_keep) (first
        | (go_at_call 11; (with_reducible refine (AL2.out _ (by first | exact S1.out | exact S1.out.new (gr.grown_drew _ _) | exact S1.out.new (li.grown_drewN _ _ _))).mono ?_); rintro e w5 ⟨A5, d5, rfl, ho, hg⟩; obtain ⟨bs, h5, hr5⟩ := Wm.keep (by first | exact S1.out | exact S1.out.new (gr.grown_drew _ _) | exact S1.out.new (li.grown_drewN _ _ _)) hg ho; have S5 := Lib.hid h5; have RD := Lib.hid hr5; obtain ⟨d0, d1, d2, d3, d4, d5', d6, d7, _⟩ := h5.cells; clear ho hg h5 hr5)
        | (go_at_call 12; (with_reducible refine (OB1.out _ _ (by first | exact S5.out | exact S5.out.new (gr.grown_drew _ _) | exact S5.out.new (li.grown_drewN _ _ _))).mono ?_); rintro e w6 ⟨A6, d6', rfl, hr6, hg⟩; have S6 := Lib.hid (Wm.new (by first | exact S5.out | exact S5.out.new (gr.grown_drew _ _) | exact S5.out.new (li.grown_drewN _ _ _)) hg); obtain ⟨d0, d1, d2, d3, d4, d5', d6, d7, _⟩ := S6.out.cells; clear hr6 hg))
      all_goals
        clear b0 b1 b2 b3 b4 b5 b6 b7 d0 d1 d3 d4 d5' d6 d7
        go_wp2_with (go_at_call 13; (with_reducible refine (start_w (by first | exact S6.out | exact S6.out.new (gr.grown_drew _ _) | exact S6.out.new (li.grown_drewN _ _ _))).mono ?_); rintro e w7 ⟨rfl, h⟩; have S7 := Lib.hid (S0.out _ _ _ _ _ _ h); clear h)
        go_loopw [9] (fun m wq => ∃ k : Nat, k ≤ N ∧ m = .int .i64 k ∧ Wm w B I g 1 t N H M (swp z k).x (swp z k).s k (swp z k).f (ph.toq x) s N f bs wq) (fun m _ => N - (intOf m).toNat)
        case atStart => exact ⟨0, Nat.zero_le _, rfl, S7.out⟩
        case round =>
          obtain ⟨k, hk, rfl, hS⟩ := hrel
          have S8 := Lib.hid hS
          obtain ⟨b0, b1, b2, b3, b4, b5, b6, b7, _⟩ := hS.cells
          clear hS
          by_cases hkN : k < N
          · have UC := Lib.hid (UK.out _ _ _ _ _ _ _ S8.out hkN)
            have l1 : (0 : Int) ≤ (k : Int) := by omega
            have l2 : (k : Int) < N := by omega
            go_wp2_with (go_at_call 14; (with_reducible refine UC.out.mono ?_); rintro e w9 ⟨rfl, h⟩; have S9 := Lib.hid h; obtain ⟨d0, d1, d2, d3, d4, d5, d6, d7, _⟩ := h.cells; clear h)
            go_roundw
            case rel => exact ⟨k + 1, by omega, by go_num, S9.out⟩
            case measure => first | (simp [intOf]; done) | (simp [intOf]; omega)
          · obtain rfl : k = N := by omega
            have UE := Lib.hid (unit_end S8.out)
            have nw2 : nw ≤ 2048 := by omega
            go_wp2_with (first
              | (go_at_call 14; (with_reducible refine UE.out.mono ?_); rintro e w9 ⟨rfl, h⟩; have S9 := Lib.hid h; obtain ⟨d0, d1, d2, d3, d4, d5, d6, d7, _⟩ := h.cells; clear h)
              | (go_at_call 12; (with_reducible refine (OB2.out _ _ _ _ _ _ _ _ S9.out).mono ?_); rintro e w10 ⟨A10, d10, rfl, hr, hg⟩; have R10 := Lib.hid hr; have S10 := Lib.hid (S9.out.new hg); obtain ⟨b10, hw10⟩ := RD.out w10 (fun q hq => S10.out.at_ hq); have W10 := Lib.hid hw10; obtain ⟨d0, d1, d2, d3, d4, d5, d6, d7, _⟩ := S10.out.cells; clear hr hg hw10)
              | (go_at_call 15; (with_reducible refine (bm.Ints_true wl A10 A5 nw nw _ _ _ _ _ (by omega) rfl R10.out W10.out).mono ?_); rintro e w11 ⟨rfl, hg⟩; have S11 := Lib.hid (S10.out.new (drew_grown hg none)); obtain ⟨d0, d1, d2, d3, d4, d5, d6, d7, _⟩ := S11.out.cells; clear hg)
              | (go_at_call 16; (with_reducible refine (CN.out _ _ _ _ _ _ _ _ S11.out).mono ?_); rintro e w12 ⟨rfl, hg⟩; have S12 := Lib.hid (S11.out.new hg); obtain ⟨d0, d1, d2, d3, d4, d5, d6, d7, _⟩ := S12.out.cells; clear hg)
              | (go_at_call 17; (with_reducible refine (freed_w S12.out).mono ?_); rintro e w' ⟨rfl, rfl⟩; rw [FA.out])
              | (go_at_call 13; (with_reducible refine (start_w S12.out).mono ?_); rintro e w13 ⟨rfl, h⟩; have S13 := Lib.hid (T0.out _ _ _ _ _ _ h); clear h))
            clear d0 d1 d2 d3 d4 d5 d6 d7 b0 b1 b2 b3 b4 b5 b6 b7
            go_loopw [9] (fun m wq => ∃ q : Nat, q ≤ k ∧ m = .int .i64 ((k + q : Nat) : Int) ∧ Wm w B I g 1 t k H M (swp z2 q).x (swp z2 q).s q (swp z2 q).f (ph.toq x) s k f bs wq) (fun m _ => 2 * k - (intOf m).toNat)
            case atStart => exact ⟨0, Nat.zero_le _, rfl, S13.out⟩
            case round =>
              obtain ⟨q, hq, rfl, hS⟩ := hrel
              have S14 := Lib.hid hS
              obtain ⟨b0, b1, b2, b3, b4, b5, b6, b7, _⟩ := hS.cells
              clear hS
              by_cases hqN : q < k
              · have UC := Lib.hid (TK.out _ _ _ _ _ _ _ S14.out hqN)
                obtain ⟨m, hm⟩ : ∃ m, k + q = m := ⟨_, rfl⟩
                have HMM := Lib.hid hm
                have l1 : (0 : Int) ≤ (m : Int) := by omega
                have l2 : (m : Int) < 2 * k := by omega
                have l3 : ¬ (2 * (k : Int) < m + 1) := by omega
                rw [hm]
                clear hm
                go_wp2_with (go_at_call 14; (with_reducible refine UC.out.mono ?_); rintro e w15 ⟨rfl, h⟩; have S15 := Lib.hid h; obtain ⟨d0, d1, d2, d3, d4, d5, d6, d7, _⟩ := h.cells; clear h)
                go_roundw
                case rel => exact ⟨q + 1, by omega, by have := HMM.out; simp; omega, S15.out⟩
                case measure => first | (simp [intOf]; done) | (simp [intOf]; omega)
              · obtain rfl : q = k := by omega
                have UE2 := Lib.hid (unit_end S14.out)
                have UE3 := Lib.hid (fun W (h : Wm w B I g 1 t q H M (swp z2 q).x (swp z2 q).s q (swp z2 q).f (ph.toq x) s q f bs W) => unit_end h)
                go_wp2_with (first
                  | (have mark := S16; go_at_call 14; (with_reducible refine (UE3.out _ S16.out).mono ?_); rintro e w17 ⟨rfl, h⟩; have S17 := Lib.hid h; clear h)
                  | (go_at_call 14; (with_reducible refine UE2.out.mono ?_); rintro e w15 ⟨rfl, h⟩; have S15 := Lib.hid h; obtain ⟨d0, d1, d2, d3, d4, d5, d6, d7, _⟩ := h.cells; clear h)
                  | (go_at_call 12; (with_reducible refine (OB3.out _ _ _ _ _ _ _ _ S15.out).mono ?_); rintro e w16 ⟨A16, d16, rfl, _, hg⟩; have S16 := Lib.hid (S15.out.new hg); obtain ⟨d0, d1, d2, d3, d4, d5, d6, d7, _⟩ := S16.out.cells; clear hg)
                  | (go_at_call 17; (with_reducible refine (freed_w S16.out).mono ?_); rintro e w' ⟨rfl, rfl⟩; rw [K3.out]))
                go_ret
                exact ⟨by simp, S17.out.grown⟩
end Go.Proofs.YtfloleflcoiidaaGreatDoor.sw
