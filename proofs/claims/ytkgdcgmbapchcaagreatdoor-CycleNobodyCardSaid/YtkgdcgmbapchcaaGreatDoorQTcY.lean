/- Texts that this claim stands on. -/
import Derived.Test.YtkgdcgmbapchcaaGreatDoorQTcX
import Derived.Test.YtkgdcgmbapchcaaGreatDoorQBoX
import Derived.Test.YtkgdcgmbapchcaaGreatDoorQShY
namespace Go.Proofs.YtkgdcgmbapchcaaGreatDoor.tc
open Go.ChangeShapes Go.WideShapes Go.ChangeAt Go.RowKit gen calls cls geos ce st sh
set_option linter.unusedVariables false
set_option maxHeartbeats 4000000
set_option maxRecDepth 100000
section
variable {w w' : World} {I : Ids} {x : Hs} {L L' M : List Nat} {g r t N c n : Nat} {s s' : Ps}
theorem shade_whole (h : Tw w I x L g r s t N c n) {a q m : Nat} (hb : Ob x a q m) (hz : (m : Int) + 1 ≤ bz x.ks a) :
    Calls Tryz.prog 211 #[.pointer (some ⟨t, 0, none⟩), .int .i64 a, .int .i64 0, .int .i64 m] w (Ta I x L g r (.tuple #[]) (shl r s (fls x a)) t N c n w) := by
  have := shade_any h hb hz (f := 0) (e := m) (Nat.zero_le _) (Nat.le_refl _)
  rw [List.drop_zero, List.take_of_length_le (by have := (fls_ob hb).1; omega)] at this
  exact this
theorem inp_tk {p a : Int} (h : a ∈ inp x p) : a ∈ x.tk := (List.mem_filter.1 h).1
theorem lok_yes {a q m : Nat} (hb : Ob x a q m) (h : isb s.ws a = true) : lok r (flo x) s a = shl r s (fls x a) := by unfold lok; rw [if_pos h, flo_in hb]; rfl
theorem lok_no {a : Int} (h : isb s.ws a = false) : lok r (flo x) s a = s := by unfold lok; rw [if_neg (by rw [h]; decide)]
theorem look_any (h : Tw w I x L g r s t N c n) (hT : bm.Tab w) (h0 : I.s ≠ 1) (p : Int) :
    Calls Tryz.prog 142 #[.pointer (some ⟨t, 0, none⟩), .int .i64 p] w (Ta I x L g r (.tuple #[]) ((inp x p).foldl (lok r (flo x)) s) t N c n w) := by
  have IN := Lib.hid (In_any h.sr hT h0 p)
  have c0 := h.tc.c0
  have HT := Lib.hid h
  obtain ⟨k0, hk0⟩ : ∃ k0, (inp x p).length = k0 := ⟨_, rfl⟩
  rw [show li.ListAns (inp x p) w = fun e w' => ∃ A c, e = .returned (.slice A k0 c) ∧ w'.ownsRow w.heap.size 3 1 (.slice A k0 c) k0 (li.ints (inp x p)) ∧ w.grownBy w' none by rw [← hk0]; rfl] at IN
  have TK := Lib.hid (fun a (ha : a ∈ inp x p) => h.iv.ob (inp_tk ha) (by have := h.s8; omega))
  have ML := Lib.hid (show k0 ≤ 2048 from by
    obtain ⟨ws, _, e⟩ := h.sr.hp
    have := bm.nums_length ws
    have h2 : (inp x p).length ≤ x.tk.length := List.length_filter_le _ _
    rw [e] at this
    omega)
  have GM := Lib.hid (fun k (hk : k < k0) => li.getD_mem (xs := inp x p) (k := k) (by omega) 0)
  have TM := Lib.hid (fun k (hk : k < k0) => li.take_more (xs := inp x p) (k := k) (by omega) 0)
  have FU := Lib.hid (show inp x p = (inp x p).take k0 by rw [List.take_of_length_le (by omega)])
  have LT := Lib.hid (fun q (hq : q ∈ t :: L) => (show q < w.heap.size from by
    rcases List.mem_cons.1 hq with rfl | hq
    · exact h.tc.lt
    · exact h.gy.lt q hq))
  generalize inp x p = l at *
  clear h hT h0 hk0
  go_enter Tryz.func142, Tryz.ntmps142
  go_wp2_with (go_at_call 145; (with_reducible refine IN.out.mono ?_); rintro e w2 ⟨A, d, rfl, ho, hg⟩; have O2 := Lib.hid ho; have G2 := Lib.hid hg; clear ho hg)
  go_loopw [5, 13] (fun _ i wr => ∃ (k : Nat) (L1 : List Nat), k ≤ k0 ∧ i = .int .i64 k ∧ (∀ q, q ∈ L1 → q ∈ L ∨ w2.heap.size ≤ q) ∧ Tw wr I x L1 g r ((l.take k).foldl (lok r (flo x)) s) t N c n ∧ Gr (t :: L) w2 wr) (fun _ i _ => k0 - (intOf i).toNat)
  case atStart => exact ⟨0, L, Nat.zero_le _, rfl, fun q hq => .inl hq, HT.out.new G2.out, Gr.refl _ _⟩
  case round =>
    obtain ⟨k, L1, hk, rfl, hl1, hT1, hg1⟩ := hrel
    have T1 := Lib.hid hT1
    have HL1 := Lib.hid hl1
    have G1 := Lib.hid hg1
    have c1 := hT1.tc.c1
    have c10 := hT1.tc.c0
    clear hT1 hl1 hg1
    by_cases hlt : k < k0
    · obtain ⟨b1, o1, rfl, g1⟩ := (li.rd_own (ph.row_gr O2.out G1.out (fun q hq hm => by have := LT.out q hm; have := own_base O2.out q hq; omega))).at_ hlt
      obtain ⟨a, q, m, ha, hb, hz, _⟩ := TK.out _ (GM.out k hlt)
      rw [ha] at g1
      have M1 := Lib.hid ((TM.out k hlt).trans (by rw [ha]))
      clear ha
      have l1 : (0 : Int) ≤ (k : Int) := by omega
      have l2 : (k : Int) < k0 := by omega
      have ml := ML.out
      have m8 := hb.n8
      have IS := Lib.hid (Is_any T1.out.gy a)
      have FD := Lib.hid (fun W (hg : wr.grownBy W none) => Fields_yes (T1.out.sr.new hg) hb)
      have SH := Lib.hid (fun W (hg : wr.grownBy W none) => shade_whole (T1.out.new hg) hb hz)
      cases hbit : isb ((l.take k).foldl (lok r (flo x)) s).ws a with
      | true =>
        have FIN := Lib.hid (show (l.take (k + 1)).foldl (lok r (flo x)) s = shl r ((l.take k).foldl (lok r (flo x)) s) (fls x a) by rw [M1.out, List.foldl_append, List.foldl_cons, List.foldl_nil]; exact lok_yes hb hbit)
        rw [hbit] at IS
        clear hbit hb hz M1
        go_wp2_with (first
          | (go_at_call 130; (with_reducible refine IS.out.mono ?_); rintro e w3 ⟨rfl, hg⟩; have G3 := Lib.hid hg; have c30 := (T1.out.new hg).tc.c0; clear hg)
          | (go_at_call 97; (with_reducible refine (FD.out _ G3.out).mono ?_); rintro e w4 ⟨rfl, hg⟩; have G4 := Lib.hid (G3.out.trans hg); clear hg)
          | (go_at_call 211; (with_reducible refine (SH.out _ G4.out).mono ?_); rintro e5 w5 ⟨rfl, h5⟩; have R5 := Lib.hid (Ta.after (w := w2) (L := L) (w1 := w4) (L' := L1) (v := .tuple #[]) (e := .returned (.tuple #[])) HL1.out (G1.out.made G4.out) ⟨rfl, h5⟩); clear h5))
        go_roundw
        case rel =>
          obtain ⟨_, L5, p1, p2, p3⟩ := R5.out
          exact ⟨k + 1, L5, by omega, by go_num, p1, by rw [FIN.out]; exact p2, p3⟩
        case measure => first | (simp [intOf]; done) | (simp [intOf]; omega)
      | false =>
        have FIN := Lib.hid (show (l.take (k + 1)).foldl (lok r (flo x)) s = (l.take k).foldl (lok r (flo x)) s by rw [M1.out, List.foldl_append, List.foldl_cons, List.foldl_nil]; exact lok_no hbit)
        rw [hbit] at IS
        clear hbit hb hz M1
        go_wp2_with (go_at_call 130; (with_reducible refine IS.out.mono ?_); rintro e w3 ⟨rfl, hg⟩; have G3 := Lib.hid hg; clear hg)
        go_roundw
        case rel => exact ⟨k + 1, L1, by omega, by go_num, HL1.out, by rw [FIN.out]; exact T1.out.new G3.out, G1.out.made G3.out⟩
        case measure => first | (simp [intOf]; done) | (simp [intOf]; omega)
    · obtain rfl : k = k0 := by omega
      go_wp2
      go_end0
      rw [FU.out]
      exact ⟨rfl, L1, fun q hq => (HL1.out q hq).imp id (fun e => Nat.le_trans G2.out.size e), T1.out, (Gr.new G2.out).trans G1.out⟩
theorem Page_any (h : Tw w I x L g r s t N c n) {p : Int} (hp : n = left N p) (hr : -1 ≤ p ∧ p < N) : Calls Tryz.prog 143 #[.pointer (some ⟨t, 0, none⟩)] w fun e w' => e = .returned (.int .i64 p) ∧ w.grownBy w' none := by
  have c2 := h.tc.c2
  have c4 := h.tc.c4
  have n1 := h.n1
  have nn := h.nn
  by_cases h0 : p < 0
  · obtain rfl : p = -1 := by omega
    obtain rfl : n = 0 := by rw [hp]; rfl
    clear h hp hr h0
    go_enter Tryz.func143, Tryz.ntmps143
    go_wp2_with (go_at_call 138; (with_reducible refine (there_any _ _).mono ?_); rintro e w' ⟨rfl, rfl⟩)
    go_ret
    exact ⟨rfl, World.grownBy.refl _ _⟩
  · have e : n = (N - p).toNat := by rw [hp]; exact if_neg h0
    have e1 : (N : Int) - n = p := by omega
    have t1 : ((n : Int) == 0) = false := by simp; omega
    have n2 : (n : Int) ≤ N := by omega
    have n3 : (N : Int) ≤ 64 := by omega
    have E := Lib.hid e1
    clear h hp hr h0 e e1
    go_enter Tryz.func143, Tryz.ntmps143
    go_wp2_with (go_at_call 138; (with_reducible refine (there_any _ _).mono ?_); rintro e w' ⟨rfl, rfl⟩)
    go_quiet (fail)
    go_wp2
    go_ret
    exact ⟨by rw [E.out]; rfl, li.grown_drewN _ _ _⟩
theorem Idle_any (h : Tw w I x L g r s t N c n) {p : Int} (hp : n = left N p) (hr : -1 ≤ p ∧ p < N) : Calls Tryz.prog 207 #[.pointer (some ⟨t, 0, none⟩)] w fun e w' => e = .returned (.bool (Ts.idle ⟨s, p⟩)) ∧ w = w' := by
  have c1 := h.tc.c1
  have c4 := h.tc.c4
  have WA := Lib.hid (Waiting_any h.gy)
  have OV := Lib.hid (Over_any h.gy)
  have n1 := h.n1
  have fi := h.gy.fit
  have hi := h.gy.hi
  by_cases h0 : p < 0
  · obtain rfl : n = 0 := by rw [hp]; exact if_pos h0
    by_cases hm : s.m = []
    · have E := Lib.hid (show Ts.idle ⟨s, p⟩ = !s.b by unfold Ts.idle; simp [hm, h0])
      have t1 : s.m.length = 0 := by rw [hm]; rfl
      rw [t1] at WA
      generalize s.b = b at *
      clear h hp hr h0 hm fi t1
      go_enter Tryz.func207, Tryz.ntmps207
      go_wp2_with (first
        | (go_at_call 138; (with_reducible refine (there_any _ _).mono ?_); rintro e w' ⟨rfl, rfl⟩)
        | (go_at_call 254; (with_reducible refine WA.out.mono ?_); rintro e w' ⟨rfl, rfl⟩)
        | (go_at_call 255; (with_reducible refine OV.out.mono ?_); rintro e w' ⟨rfl, rfl⟩))
      go_ret
      exact ⟨by rw [E.out]; rfl, rfl⟩
    · have E := Lib.hid (show Ts.idle ⟨s, p⟩ = false by unfold Ts.idle; simp [hm])
      have t1 : 0 < s.m.length := List.length_pos_iff.2 hm
      generalize s.m.length = l at *
      have t2 : ((l : Int) == 0) = false := by simp; omega
      clear h hp hr h0 hm
      go_enter Tryz.func207, Tryz.ntmps207
      go_wp2_with (first
        | (go_at_call 138; (with_reducible refine (there_any _ _).mono ?_); rintro e w' ⟨rfl, rfl⟩)
        | (go_at_call 254; (with_reducible refine WA.out.mono ?_); rintro e w' ⟨rfl, rfl⟩)
        | (go_at_call 255; (with_reducible refine OV.out.mono ?_); rintro e w' ⟨rfl, rfl⟩))
      go_ret
      exact ⟨by rw [E.out]; rfl, rfl⟩
  · have e : n = (N - p).toNat := by rw [hp]; exact if_neg h0
    have t1 : ((n : Int) == 0) = false := by simp; omega
    have E := Lib.hid (show Ts.idle ⟨s, p⟩ = false by unfold Ts.idle; simp [h0])
    clear h hp hr h0 e fi
    go_enter Tryz.func207, Tryz.ntmps207
    go_wp2_with (first
      | (go_at_call 138; (with_reducible refine (there_any _ _).mono ?_); rintro e w' ⟨rfl, rfl⟩)
      | (go_at_call 254; (with_reducible refine WA.out.mono ?_); rintro e w' ⟨rfl, rfl⟩)
      | (go_at_call 255; (with_reducible refine OV.out.mono ?_); rintro e w' ⟨rfl, rfl⟩))
    go_ret
    exact ⟨by rw [E.out]; rfl, rfl⟩
end
end Go.Proofs.YtkgdcgmbapchcaaGreatDoor.tc
namespace Go.Proofs.YtkgdcgmbapchcaaGreatDoor.tc
open Go.ChangeShapes Go.WideShapes Go.ChangeAt Go.RowKit gen calls cls geos ce st sh
set_option linter.unusedVariables false
set_option maxHeartbeats 8000000
set_option maxRecDepth 100000
section
variable {w w' : World} {I : Ids} {x : Hs} {L L' M : List Nat} {g r t N c n : Nat} {s s' : Ps}
def Ua (I : Ids) (x : Hs) (L : List Nat) (g r : Nat) (b : Bool) (z : Ts) (t N c : Nat) (w : World) (e : Ending) (w' : World) : Prop :=
  (-1 ≤ z.p ∧ z.p < N) ∧ Ta I x L g r (.bool b) z.s t N c (left N z.p) w e w'
theorem next_of (h : Tw w I x L g r s t N c n) {v : Bool} (hv : decide (s.m ≠ []) = v) :
    Calls Tryz.prog 139 #[.pointer (some ⟨g, 0, none⟩)] w fun e w' => e = .returned (.tuple #[.agg #[.int .i64 (top s.m).1, .int .i64 (top s.m).2], .bool v]) ∧ ∃ L1, (∀ q, q ∈ L1 → q ∈ L ∨ w.heap.size ≤ q) ∧ Tw w' I x L1 g r s.pop t N c n ∧ Gr (t :: L) w w' := by
  subst hv
  refine (Next_any h.gy).mono fun e w' ⟨h1, L1, h2, h3, h4⟩ => ⟨h1, L1, ?_⟩
  exact Tw.then h (w0 := w) (L0 := L) (fun q hq => .inl hq) (Gr.refl _ _) h2 h3 h4
theorem Unit_take (h : Tw w I x L g r s t N c n) (hm : s.m ≠ []) :
    Calls Tryz.prog 73 #[.pointer (some ⟨t, 0, none⟩)] w (Ta I x L g r (.bool true) (ent r c (flo x) s.pop (top s.m)) t N c n w) := by
  have NX := Lib.hid (next_of h (v := true) (by simpa using hm))
  have c1 := h.tc.c1
  obtain ⟨⟨e1, e2⟩, he⟩ : ∃ e, top s.m = e := ⟨_, rfl⟩
  rw [he] at NX ⊢
  have TK := Lib.hid (fun W L1 (hT : Tw W I x L1 g r s.pop t N c n) => take_any hT e1 e2)
  clear h hm he
  go_enter Tryz.func73, Tryz.ntmps73
  go_wp2_with (first
    | (go_at_call 138; (with_reducible refine (there_any _ _).mono ?_); rintro e w' ⟨rfl, rfl⟩)
    | (go_at_call 139; (with_reducible refine NX.out.mono ?_); rintro e w2 ⟨rfl, L2, h1, h2, h3⟩; have G2 := Lib.hid (World.grownBy_alloc w2 (.cells #[.int .i64 e1, .int .i64 e2] 157) none); have HL2 := Lib.hid h1; have T2 := Lib.hid (h2.new G2.out); have R2 := Lib.hid (h3.made G2.out); obtain ⟨b0, b1, _⟩ := (sk.En.made w2 e1 e2).f; clear h1 h2 h3)
    | (go_at_call 140; (with_reducible refine (TK.out _ _ T2.out).mono ?_); rintro e5 w5 ⟨rfl, h5⟩; have R5 := Lib.hid (Ta.after (w := w) (v := .tuple #[]) (e := .returned (.tuple #[])) HL2.out R2.out ⟨rfl, h5⟩); clear h5))
  go_ret
  exact ⟨rfl, R5.out.2⟩
theorem pop_nil (hm : s.m = []) : s.pop = s := by
  obtain ⟨ws, m, b⟩ := s
  dsimp only at hm
  subst hm
  rfl
theorem Unit_look (h : Tw w I x L g r s t N c n) (hm : s.m = []) {p : Int} (hp : n = left N p) (hr : 0 ≤ p ∧ p < N) (hT : ∀ W, Gr (t :: L) w W → bm.Tab W) (h0 : I.s ≠ 1) :
    Calls Tryz.prog 73 #[.pointer (some ⟨t, 0, none⟩)] w (Ua I x L g r true (looked r N (flo x) (inp x) s p) t N c w) := by
  have NX := Lib.hid (next_of h (v := false) (by simp [hm]))
  rw [pop_nil hm] at NX
  have c1 := h.tc.c1
  have e : n = (N - p).toNat := by rw [hp]; exact if_neg (by omega)
  obtain ⟨⟨e1, e2⟩, he⟩ : ∃ e, top s.m = e := ⟨_, rfl⟩
  rw [he] at NX
  have PG := Lib.hid (fun W L1 (h1 : Tw W I x L1 g r s t N c n) => Page_any h1 hp (by omega))
  have LK := Lib.hid (fun W L1 (h1 : Tw W I x L1 g r s t N c n) (hg : Gr (t :: L) w W) => look_any h1 (hT W hg) h0 p)
  have n64 := h.n1
  have t1 : ((n : Int) == 0) = false := by simp; omega
  have m1 : (1 : Int) ≤ n := by omega
  have m2 : (n : Int) ≤ 64 := by omega
  obtain ⟨n', hn'⟩ : ∃ n', n = n' + 1 := ⟨n - 1, by omega⟩
  have NP := Lib.hid (show (-1 ≤ (looked r N (flo x) (inp x) s p).p ∧ (looked r N (flo x) (inp x) s p).p < N) ∧ left N (looked r N (flo x) (inp x) s p).p = n' by
    unfold looked
    dsimp only
    unfold left
    split
    · exact ⟨by omega, by rw [if_neg (by omega)]; omega⟩
    · exact ⟨by omega, by rw [if_pos (by omega)]; omega⟩)
  have NE := Lib.hid (show (n : Int) - 1 = n' by omega)
  have NN := Lib.hid (show n' ≤ N by have := h.nn; omega)
  clear h hm he hT hp hr e n64 hn'
  go_enter Tryz.func73, Tryz.ntmps73
  go_wp2_with (first
    | (go_at_call 138; (with_reducible refine (there_any _ _).mono ?_); rintro e w' ⟨rfl, rfl⟩)
    | (go_at_call 139; (with_reducible refine NX.out.mono ?_); rintro e w2 ⟨rfl, L2, h1, h2, h3⟩; have G2 := Lib.hid (World.grownBy_alloc w2 (.cells #[.int .i64 e1, .int .i64 e2] 157) none); have HL2 := Lib.hid h1; have T2 := Lib.hid (h2.new G2.out); have R2 := Lib.hid (h3.made G2.out); have c24 := T2.out.tc.c4; clear h1 h2 h3)
    | (go_at_call 143; (with_reducible refine (PG.out _ _ T2.out).mono ?_); rintro e3 w3 ⟨rfl, hg⟩; have T3 := Lib.hid (T2.out.new hg); have R3 := Lib.hid (R2.out.made hg); clear hg)
    | (go_at_call 142; (with_reducible refine (LK.out _ _ T3.out R3.out).mono ?_); rintro e5 w5 ⟨rfl, h5⟩; obtain ⟨L5, p1, p2, p3⟩ := (Ta.after (w := w) (v := .tuple #[]) (e := .returned (.tuple #[])) HL2.out R3.out ⟨rfl, h5⟩).2; have T5 := Lib.hid p2; have HL5 := Lib.hid p1; have R5 := Lib.hid p3; have c54 := p2.tc.c4; have z54 := p2.tc.fz 4; clear h5 p1 p2 p3))
  go_ret
  rw [NE.out]
  have GS : Gr (t :: L) w5 (w5.setCell ⟨t, 4, none⟩ (.int .i64 n')) := .set _ _ _ _ (by simp)
  have T6 := T5.out.count NN.out
  rw [← NP.out.2] at T6
  exact ⟨NP.out.1, rfl, L5, HL5.out, by rw [← NP.out.2]; exact T6, R5.out.trans GS⟩
theorem Unit_settle (h : Tw w I x L g r s t N c 0) (hm : s.m = []) (hb : s.b = true) (hT : ∀ W, Gr (t :: L) w W → bm.Tab W) (h0 : I.s ≠ 1) :
    Calls Tryz.prog 73 #[.pointer (some ⟨t, 0, none⟩)] w (Ua I x L g r true (looked r N (flo x) (inp x) s.settle 0) t N c w) := by
  have NX := Lib.hid (next_of h (v := false) (by simp [hm]))
  rw [pop_nil hm] at NX
  have c1 := h.tc.c1
  have n64 := h.n1
  obtain ⟨⟨e1, e2⟩, he⟩ : ∃ e, top s.m = e := ⟨_, rfl⟩
  rw [he] at NX
  have ST := Lib.hid (fun W L1 (h1 : Tw W I x L1 g r s t N c 0) (g1 : Gr (t :: L) w W) (hl : ∀ q, q ∈ L1 → q ∈ L ∨ w.heap.size ≤ q) => (show Calls Tryz.prog 141 #[.pointer (some ⟨g, 0, none⟩)] W fun e w' => e = .returned (.bool true) ∧ ∃ L2, (∀ q, q ∈ L2 → q ∈ L ∨ w.heap.size ≤ q) ∧ Tw w' I x L2 g r s.settle t N c 0 ∧ Gr (t :: L) w w' from
    (Settle_any h1.gy).mono fun e w' ⟨k1, L2, k2, k3, k4⟩ => ⟨by rw [← hb]; exact k1, L2, Tw.then h1 hl g1 k2 k3 k4⟩))
  have PG := Lib.hid (fun W L1 (h1 : Tw W I x L1 g r s.settle t N c N) => Page_any h1 (p := 0) (by unfold left; rw [if_neg (by omega)]; omega) (by omega))
  have LK := Lib.hid (fun W L1 (h1 : Tw W I x L1 g r s.settle t N c N) (hg : Gr (t :: L) w W) => look_any h1 (hT W hg) h0 0)
  have t1 : ((N : Int) == 0) = false := by simp; omega
  have m1 : (1 : Int) ≤ N := by omega
  have m2 : (N : Int) ≤ 64 := by omega
  obtain ⟨n', hn'⟩ : ∃ n', N = n' + 1 := ⟨N - 1, by omega⟩
  have NP := Lib.hid (show (-1 ≤ (looked r N (flo x) (inp x) s.settle 0).p ∧ (looked r N (flo x) (inp x) s.settle 0).p < N) ∧ left N (looked r N (flo x) (inp x) s.settle 0).p = n' by
    unfold looked
    dsimp only
    unfold left
    split
    · exact ⟨by omega, by rw [if_neg (by omega)]; omega⟩
    · exact ⟨by omega, by rw [if_pos (by omega)]; omega⟩)
  have NE := Lib.hid (show (N : Int) - 1 = n' by omega)
  have NN := Lib.hid (show n' ≤ N by omega)
  clear h hm he hT hb n64 hn'
  go_enter Tryz.func73, Tryz.ntmps73
  go_wp2_with (first
    | (go_at_call 138; (with_reducible refine (there_any _ _).mono ?_); rintro e w' ⟨rfl, rfl⟩)
    | (go_at_call 139; (with_reducible refine NX.out.mono ?_); rintro e w2 ⟨rfl, L2, h1, h2, h3⟩; have G2 := Lib.hid (World.grownBy_alloc w2 (.cells #[.int .i64 e1, .int .i64 e2] 157) none); have HL2 := Lib.hid (fun q hq => (h1 q hq : q ∈ L ∨ w.heap.size ≤ q)); have T2 := Lib.hid (h2.new G2.out); have R2 := Lib.hid (h3.made G2.out); have c24 := T2.out.tc.c4; have c21 := T2.out.tc.c1; clear h1 h2 h3)
    | (go_at_call 141; (with_reducible refine (ST.out _ _ T2.out R2.out HL2.out).mono ?_); rintro e3 w3 ⟨rfl, L3, h1, h2, h3⟩; have HL3 := Lib.hid h1; have T3 := Lib.hid (h2.count (Nat.le_refl N)); have R3 := Lib.hid (h3.trans ((.set _ _ _ _ (by simp)) : Gr (t :: L) w3 (w3.setCell ⟨t, 4, none⟩ (.int .i64 N)))); have c32 := h2.tc.c2; have c34 := h2.tc.c4; have z34 := h2.tc.fz 4; have l3 := h2.tc.lt; clear h1 h2 h3)
    | (go_at_call 143; (with_reducible refine (PG.out _ _ T3.out).mono ?_); rintro e4 w4 ⟨rfl, hg⟩; have T4 := Lib.hid (T3.out.new hg); have R4 := Lib.hid (R3.out.made hg); clear hg)
    | (go_at_call 142; (with_reducible refine (LK.out _ _ T4.out R4.out).mono ?_); rintro e5 w5 ⟨rfl, h5⟩; obtain ⟨L5, p1, p2, p3⟩ := (Ta.after (w := w) (v := .tuple #[]) (e := .returned (.tuple #[])) HL3.out R4.out ⟨rfl, h5⟩).2; have T5 := Lib.hid p2; have HL5 := Lib.hid p1; have R5 := Lib.hid p3; have c54 := p2.tc.c4; have z54 := p2.tc.fz 4; clear h5 p1 p2 p3))
  go_ret
  rw [NE.out]
  have GS : Gr (t :: L) w5 (w5.setCell ⟨t, 4, none⟩ (.int .i64 n')) := .set _ _ _ _ (by simp)
  have T6 := T5.out.count NN.out
  rw [← NP.out.2] at T6
  exact ⟨NP.out.1, rfl, L5, HL5.out, by rw [← NP.out.2]; exact T6, R5.out.trans GS⟩
theorem Unit_none (h : Tw w I x L g r s t N c 0) (hm : s.m = []) (hb : s.b = false) :
    Calls Tryz.prog 73 #[.pointer (some ⟨t, 0, none⟩)] w (Ta I x L g r (.bool false) s t N c 0 w) := by
  have NX := Lib.hid (next_of h (v := false) (by simp [hm]))
  rw [pop_nil hm] at NX
  have c1 := h.tc.c1
  obtain ⟨⟨e1, e2⟩, he⟩ : ∃ e, top s.m = e := ⟨_, rfl⟩
  rw [he] at NX
  have SS : s.settle = s := by
    obtain ⟨ws, m, b⟩ := s
    dsimp only at hb
    subst hb
    rfl
  have ST := Lib.hid (fun W L1 (h1 : Tw W I x L1 g r s t N c 0) (g1 : Gr (t :: L) w W) (hl : ∀ q, q ∈ L1 → q ∈ L ∨ w.heap.size ≤ q) => (show Calls Tryz.prog 141 #[.pointer (some ⟨g, 0, none⟩)] W fun e w' => e = .returned (.bool false) ∧ ∃ L2, (∀ q, q ∈ L2 → q ∈ L ∨ w.heap.size ≤ q) ∧ Tw w' I x L2 g r s t N c 0 ∧ Gr (t :: L) w w' from
    (Settle_any h1.gy).mono fun e w' ⟨k1, L2, k2, k3, k4⟩ => ⟨by rw [← hb]; exact k1, L2, by rw [SS] at k3; exact Tw.then h1 hl g1 k2 k3 k4⟩))
  clear h hm he hb SS
  go_enter Tryz.func73, Tryz.ntmps73
  go_wp2_with (first
    | (go_at_call 138; (with_reducible refine (there_any _ _).mono ?_); rintro e w' ⟨rfl, rfl⟩)
    | (go_at_call 139; (with_reducible refine NX.out.mono ?_); rintro e w2 ⟨rfl, L2, h1, h2, h3⟩; have G2 := Lib.hid (World.grownBy_alloc w2 (.cells #[.int .i64 e1, .int .i64 e2] 157) none); have HL2 := Lib.hid (fun q hq => (h1 q hq : q ∈ L ∨ w.heap.size ≤ q)); have T2 := Lib.hid (h2.new G2.out); have R2 := Lib.hid (h3.made G2.out); have c24 := T2.out.tc.c4; have c21 := T2.out.tc.c1; clear h1 h2 h3)
    | (go_at_call 141; (with_reducible refine (ST.out _ _ T2.out R2.out HL2.out).mono ?_); rintro e3 w3 ⟨rfl, L3, h1, h2, h3⟩; have HL3 := Lib.hid h1; have T3 := Lib.hid h2; have R3 := Lib.hid h3; have c34 := h2.tc.c4; clear h1 h2 h3))
  go_ret
  exact ⟨rfl, L3, HL3.out, T3.out, R3.out⟩
theorem Unit_any (h : Tw w I x L g r s t N c n) {p : Int} (hp : n = left N p) (hr : -1 ≤ p ∧ p < N) (hT : ∀ W, Gr (t :: L) w W → bm.Tab W) (h0 : I.s ≠ 1) :
    Calls Tryz.prog 73 #[.pointer (some ⟨t, 0, none⟩)] w (Ua I x L g r (!Ts.idle ⟨s, p⟩) (Ts.unit r N c (flo x) (inp x) ⟨s, p⟩) t N c w) := by
  by_cases hm : s.m = []
  · by_cases h1 : 0 ≤ p
    · have E1 : Ts.unit r N c (flo x) (inp x) ⟨s, p⟩ = looked r N (flo x) (inp x) s p := by unfold Ts.unit; rw [if_neg (by simp [hm]), if_pos h1]
      have E2 : (!Ts.idle ⟨s, p⟩) = true := by unfold Ts.idle; simp; exact .inl (.inr h1)
      rw [E1, E2]
      exact Unit_look h hm hp ⟨h1, hr.2⟩ hT h0
    · obtain rfl : n = 0 := by rw [hp]; exact if_pos (by omega)
      cases hb : s.b with
      | true =>
        have E1 : Ts.unit r N c (flo x) (inp x) ⟨s, p⟩ = looked r N (flo x) (inp x) s.settle 0 := by unfold Ts.unit; rw [if_neg (by simp [hm]), if_neg h1, if_pos hb]
        have E2 : (!Ts.idle ⟨s, p⟩) = true := by unfold Ts.idle; simp [hb]
        rw [E1, E2]
        exact Unit_settle h hm hb hT h0
      | false =>
        have E1 : Ts.unit r N c (flo x) (inp x) ⟨s, p⟩ = ⟨s, p⟩ := by unfold Ts.unit; rw [if_neg (by simp [hm]), if_neg h1, if_neg (by rw [hb]; decide)]
        have E2 : (!Ts.idle ⟨s, p⟩) = false := by unfold Ts.idle; simp [hb, hm]; omega
        rw [E1, E2]
        refine (Unit_none h hm hb).mono fun e w' hk => ⟨hr, ?_⟩
        rwa [← hp]
  · have E1 : Ts.unit r N c (flo x) (inp x) ⟨s, p⟩ = ⟨ent r c (flo x) s.pop (top s.m), p⟩ := by unfold Ts.unit; rw [if_pos hm]
    have E2 : (!Ts.idle ⟨s, p⟩) = true := by unfold Ts.idle; simp [hm]
    rw [E1, E2]
    refine (Unit_take h hm).mono fun e w' hk => ⟨hr, ?_⟩
    rwa [← hp]
end
end Go.Proofs.YtkgdcgmbapchcaaGreatDoor.tc
