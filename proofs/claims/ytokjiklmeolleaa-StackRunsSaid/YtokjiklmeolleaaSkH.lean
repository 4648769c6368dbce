/- The statement's own alive and run. (Printed by wip/tools/genSkH.py.) -/
import Derived.Test.YtokjiklmeolleaaSkG
import Derived.Deep.RegionWith
namespace Go.Proofs.Ytokjiklmeolleaa.sk
open Go.ChangeShapes Go.WideShapes Go.ChangeAt Go.RowKit gen li en gr
set_option linter.unusedVariables false
set_option maxHeartbeats 8000000
set_option maxRecDepth 100000
section
variable {w W W2 : World} {K K0 K2 : List Nat} {g r : Nat} {b b2 : Bool} {x1 x2 : Int} {m m2 : List Va} {v v0 : Value}
theorem step_any {A : Option Addr} {N c : Nat} (h : Sk w K g r b m) (hr : 1 ≤ r) (hl : Lv w 0 (.slice A N c) m) (hN : N = m.length) (hv : ∀ q, (Value.slice A N c).ownBlock = some q → q ∉ K) (k x1 x2 : Int) :
    Calls Try.prog 19 #[.pointer (some ⟨g, 0, none⟩), .agg #[.slice A N c, .int .i64 r, .bool b], .agg #[.int .i64 k, .int .i64 x1, .int .i64 x2]] w (StA K (.slice A N c) g r w) := by
  by_cases h1 : k = 1
  · subst h1
    by_cases hm : m.length < r
    · exact step_push_yes h hr hl hN hv hm x1 x2
    · exact step_push_no h hr hl hN hv (by have := h.fit; omega) x1 x2
  by_cases h2 : k = 2
  · subst h2
    rcases List.eq_nil_or_concat m with rfl | ⟨l, ⟨e1, e2⟩, rfl⟩
    · exact step_pop_no h hr hl hN hv x1 x2
    · rw [List.concat_eq_append] at *
      exact step_pop_yes h hr hl hN hv x1 x2
  exact step_settle h hr hl hN hv k x1 x2 (by simpa using h1) (by simpa using h2)
/-- A stack that the call made. -/
structure Al (w : World) (K : List Nat) (g r : Nat) (b : Bool) (m : List Va) (W : World) : Prop where
  sk : Sk W K g r b m
  le : ∀ q, q ∈ K → w.heap.size ≤ q
  grown : w.grownBy W none
theorem Al.new (h : Al w K g r b m W) (hg : W.grownBy W2 none) : Al w K g r b m W2 := ⟨h.sk.new hg, h.le, h.grown.trans hg⟩
theorem Al.write (h : Al w K g r b m W) (hs : Sk W2 K2 g r b2 m2) (hk : ∀ q, q ∈ K2 → q ∈ K ∨ W.heap.size ≤ q) (hg : Gr K W W2) : Al w K2 g r b2 m2 W2 :=
  ⟨hs, fun q hq => (hk q hq).elim (h.le q) (Nat.le_trans h.grown.size), Gr.grown h.grown hg h.le⟩
theorem Al.same (h : Al w K g r b m W) (hs : Sk W2 K g r b2 m2) (hg : Gr K W W2) : Al w K g r b2 m2 W2 := h.write hs (fun q h => .inl h) hg
theorem Al.of {W' : World} {e : Ending} (hg : w.grownBy W none) (h : NewA r b m W e W') : ∃ g K, e = .returned (.pointer (some ⟨g, 0, none⟩)) ∧ Al w K g r b m W' := by
  obtain ⟨g, K, h1, h2, h3, h4⟩ := h
  exact ⟨g, K, h1, h2, fun q hq => Nat.le_trans hg.size (h3 q hq), hg.trans h4⟩
theorem alive_any (w : World) : Calls Try.prog 6 #[] w fun e w' => e = .returned (.bool true) ∧ w.grownBy w' none := by
  have N0 := Lib.hid (New_any 1 1 (by decide) (by omega) w)
  have P1 := Lib.hid (fun W K g (h : Sk W K g 1 false []) => (show Calls Try.prog 11 #[.pointer (some ⟨g, 0, none⟩), .agg #[.int .i64 4, .int .i64 0]] W (PushA K g 1 false [(4, 0)] W) from Push_yes h (by simp) 4 0))
  have P2 := Lib.hid (fun W K g (h : Sk W K g 1 false [(4, 0)]) => (show Calls Try.prog 11 #[.pointer (some ⟨g, 0, none⟩), .agg #[.int .i64 5, .int .i64 0]] W (fun e w' => e = .returned (.bool false) ∧ Sk w' K g 1 true [(4, 0)] ∧ Gr K W w') from Push_no h rfl 5 0))
  have PO := Lib.hid (fun W K g (h : Sk W K g 1 true [(4, 0)]) => (show Calls Try.prog 13 #[.pointer (some ⟨g, 0, none⟩)] W (fun e w' => e = vb (4, 0) true ∧ Sk w' K g 1 true [] ∧ Gr K W w') from Pop_yes (m := []) (x := (4, 0)) h))
  have OV := Lib.hid (fun W K g b m (h : Sk W K g 1 b m) => Over_any h)
  have SE := Lib.hid (fun W K g b m (h : Sk W K g 1 b m) => Settle_any h)
  go_enter Try.func6, Try.ntmps6
  go_wp2_with (first
    | (have mark := S6; go_at_call 12; (with_reducible refine (OV.out _ _ _ _ _ S6.out.sk).mono ?_); rintro e w' ⟨rfl, hw⟩; subst hw)
    | (have mark := S5; go_at_call 18; (with_reducible refine (SE.out _ _ _ _ _ S5.out.sk).mono ?_); rintro e w6 ⟨rfl, hs, hg⟩; have S6 := Lib.hid (S5.out.same hs hg); clear hs hg)
    | (have mark := S4; go_at_call 12; (with_reducible refine (OV.out _ _ _ _ _ (S4.out.sk.new (World.grownBy_alloc _ _ _))).mono ?_); rintro e w' ⟨rfl, hw⟩; subst hw; have S5 := Lib.hid (S4.out.new (World.grownBy_alloc w4 (.cells #[.int .i64 4, .int .i64 0] 36) none)))
    | (have mark := S3; go_at_call 13; (with_reducible refine (PO.out _ _ _ S3.out.sk).mono ?_); rintro e w4 ⟨rfl, hs, hg⟩; have S4 := Lib.hid (S3.out.same hs hg); clear hs hg)
    | (have mark := S2; go_at_call 11; (with_reducible refine (P2.out _ _ _ S2.out.sk).mono ?_); rintro e w3 ⟨rfl, hs, hg⟩; have S3 := Lib.hid (S2.out.same hs hg); clear hs hg)
    | (have mark := S1; go_at_call 11; (with_reducible refine (P1.out _ _ _ S1.out.sk).mono ?_); rintro e w2 ⟨rfl, K2, hk, hs, hg⟩; have S2 := Lib.hid (S1.out.write hs hk hg); clear hk hs hg)
    | (go_at_call 8; (with_reducible refine (N0.out).mono ?_); rintro e w1 ⟨g, K, rfl, hs, hk, hg⟩; have S1 := Lib.hid (show Al w K g 1 false [] w1 from ⟨hs, hk, hg⟩); clear hs hk hg))
  go_ret
  exact ⟨rfl, S6.out.grown⟩
/-- What stands while a run goes on. -/
structure Rb (w : World) (K0 : List Nat) (v0 : Value) (g r : Nat) (K : List Nat) (b : Bool) (A : Option Addr) (N c : Nat) (m : List Va) (W : World) : Prop where
  n : N = m.length
  rn : Rn w K0 v0 g r K b (.slice A N c) m W
  bk : Bk W w.heap.size (.slice A N c) r b
  rs : Bk W (w.heap.size + 1) nl 0 false
section
variable {A A2 : Option Addr} {N c N2 c2 : Nat}
theorem Rb.new (h : Rb w K0 v0 g r K b A N c m W) (hg : W.grownBy W2 none) : Rb w K0 v0 g r K b A N c m W2 := ⟨h.n, h.rn.new hg, h.bk.new hg, h.rs.new hg⟩
theorem Rb.start (hs : Sk w K g r b m) (hl : Lv w 0 (.slice A N c) m) (hN : N = m.length) (hv : ∀ q, (Value.slice A N c).ownBlock = some q → q ∉ K) :
    Rb w K (.slice A N c) g r K b A N c m ((w.alloc (.cells #[.slice A N c, .int .i64 r, .bool b] 26)).alloc (.cells #[.slice none 0 0, .int .i64 0, .bool false] 26)) := by
  have G1 := World.grownBy_alloc w (.cells #[.slice A N c, .int .i64 r, .bool b] 26) none
  have G2 := World.grownBy_alloc (w.alloc (.cells #[.slice A N c, .int .i64 r, .bool b] 26)) (.cells #[.slice none 0 0, .int .i64 0, .bool false] 26) none
  refine ⟨hN, ((Rn.refl hs hl hv).new G1).new G2, (show Bk _ w.heap.size (.slice A N c) r b from heap_alloc_new _ _).new G2, ?_⟩
  have := heap_alloc_new (w.alloc (.cells #[.slice A N c, .int .i64 r, .bool b] 26)) (.cells #[.slice none 0 0, .int .i64 0, .bool false] 26)
  rw [show (w.alloc (.cells #[.slice A N c, .int .i64 r, .bool b] 26)).heap.size = w.heap.size + 1 by simp] at this
  exact this
theorem Rb.off {X : World} (h : Rb w K0 v0 g r K b A N c m W) (gg : W.grownBy X none) (hR : Rn X K v g r K2 b2 (.slice A2 N2 c2) m2 W2) : Bk W2 w.heap.size (.slice A N c) r b ∧ Bk W2 (w.heap.size + 1) nl 0 false := by
  have h1 : w.heap.size ∉ K := h.rn.sk.off h.bk (by decide) (by decide)
  have h2 : w.heap.size + 1 ∉ K := h.rn.sk.off h.rs (by decide) (by decide)
  exact ⟨(h.bk.new gg).gr hR.gr h1, (h.rs.new gg).gr hR.gr h2⟩
theorem Rb.put {X : World} (h : Rb w K0 v0 g r K b A N c m W) (gg : W.grownBy X none) (hn : N2 = m2.length) (hR : Rn X K (.slice A N c) g r K2 b2 (.slice A2 N2 c2) m2 W2) :
    Rb w K0 v0 g r K2 b2 A2 N2 c2 m2 (((W2.setCell ⟨w.heap.size, 0, none⟩ (.slice A2 N2 c2)).setCell ⟨w.heap.size, 1, none⟩ (.int .i64 (r : Int))).setCell ⟨w.heap.size, 2, none⟩ (.bool b2)) := by
  obtain ⟨hb, hs⟩ := h.off gg hR
  have GR := grown_three W2 w.heap.size (.slice A2 N2 c2) (.int .i64 (r : Int)) (.bool b2)
  have R2 := (h.rn.new gg).trans hR
  have n1 : w.heap.size ∉ K2 := R2.sk.off hb (by decide) (by decide)
  exact ⟨hn, ⟨gr_aside R2.gr GR (Nat.le_refl _), R2.sk.gr (Gr.one (L := [w.heap.size]) GR (by simp)) (fun q hq e => by rw [List.mem_singleton] at e; subst e; exact n1 hq), R2.li.kept GR (.inr (R2.li.off hb (fun cs z => by simp))), R2.kk, R2.vv⟩, hb.set, hs.gr (Gr.one (L := [w.heap.size]) GR (by simp)) (by simp)⟩
theorem Rb.fin (h : Rb w K0 v0 g r K b A N c m W) (hg : W.grownBy W2 (some (w.heap.size + 1))) : StA K0 v0 g r w (.returned (.tuple #[.agg #[.slice A N c, .int .i64 r, .bool b], .bool true])) W2 := by
  have n3 : w.heap.size + 1 ∉ K := h.rn.sk.off h.rs (by decide) (by decide)
  exact ⟨A, N, c, b, m, K, rfl, h.n, gr_aside h.rn.gr hg (by omega), h.rn.sk.gr (Gr.one (L := [w.heap.size + 1]) hg (by simp)) (fun q hq e => by rw [List.mem_singleton] at e; subst e; exact n3 hq), h.rn.li.kept hg (.inr (h.rn.li.off h.rs (fun cs z => by simp))), h.rn.kk, h.rn.vv⟩
theorem run_any {D : Option Addr} {n c0 B : Nat} {f : Nat → Nat → Int} (h : Sk w K g r b m) (hr : 1 ≤ r) (hl : Lv w 0 (.slice A N c) m) (hN : N = m.length) (hv : ∀ q, (Value.slice A N c).ownBlock = some q → q ∉ K) (ho : Rws w B D n 3 f) (hB : ∀ q, q ∈ K → B ≤ q) (hn : n ≤ 60) :
    Calls Try.prog 7 #[.pointer (some ⟨g, 0, none⟩), .agg #[.slice A N c, .int .i64 r, .bool b], .slice D n c0] w (StA K (.slice A N c) g r w) := by
  obtain ⟨W0, hW0⟩ : ∃ W0, W0 = (w.alloc (.cells #[.slice A N c, .int .i64 r, .bool b] 26)).alloc (.cells #[.slice none 0 0, .int .i64 0, .bool false] 26) := ⟨_, rfl⟩
  have R0 := Lib.hid (show Rb w K (.slice A N c) g r K b A N c m W0 by rw [hW0]; exact Rb.start h hl hN hv)
  have HO := Lib.hid ho
  have HB := Lib.hid hB
  have HR := Lib.hid hr
  clear h hl hN hv ho hB
  go_enter Try.func7, Try.ntmps7
  go_upto_region 1 with fail
  rw [← hW0]
  clear hW0
  go_wp2
  go_loopw [8, 9] (fun o i wr => ∃ (k : Nat) (A' : Option Addr) (N' c' : Nat) (b' : Bool) (m' : List Va) (K' : List Nat), k ≤ n ∧ i = .int .i64 k ∧ o = .bool true ∧ Rb w K (.slice A N c) g r K' b' A' N' c' m' wr) (fun _ i _ => n - (intOf i).toNat)
  case atStart => exact ⟨0, A, N, c, b, m, K, Nat.zero_le _, rfl, rfl, R0.out⟩
  case round =>
    obtain ⟨k, A1, N1, c1, b1, m1, K1, hk, rfl, rfl, hR⟩ := hrel
    have R1 := Lib.hid hR
    have O1 := Lib.hid (rows_gr HO.out hR.rn.gr HB.out)
    obtain ⟨d0, d1, d2⟩ := hR.bk.f
    obtain ⟨e0, e1, e2⟩ := hR.rs.f
    obtain ⟨z0, z1, z2, lt0⟩ := hR.bk.free
    obtain ⟨y0, y1, y2, lt1⟩ := hR.rs.free
    clear hR R0 HO
    by_cases hlt : k < n
    · obtain ⟨q, off, rfl, hq, hc, hw⟩ := O1.out k hlt
      have p0 := hc 0 (by omega)
      rw [Nat.add_zero] at p0
      have p1 := hc 1 (by omega)
      have p2 := hc 2 (by omega)
      generalize f k 0 = x0 at p0
      generalize f k 1 = x1 at p1
      generalize f k 2 = x2 at p2
      have l1 : (0 : Int) ≤ (k : Int) := by omega
      have l2 : (k : Int) < n := by omega
      have ST := Lib.hid (fun W (hg : wr.grownBy W none) => step_any (R1.out.new hg).rn.sk HR.out (R1.out.new hg).rn.li R1.out.n (fun q e => (R1.out.rn.vv q e).1) x0 x1 x2)
      clear hc hw O1 hq e0 e1 e2 y0 y1 y2 lt1
      go_wp2
      go_region_with (first
        | (go_at_call 19; (with_reducible refine (ST.out _ (by first | exact World.grownBy.refl _ _ | exact grown_drew _ _ | exact li.grown_drewN _ _ _)).mono ?_); rintro e w2 ⟨A2, N2, c2, b2, m2, K2, rfl, hn2, hR2⟩; have R3 := Lib.hid (R1.out.put (by first | exact World.grownBy.refl _ _ | exact grown_drew _ _ | exact li.grown_drewN _ _ _) hn2 hR2); have B2 := Lib.hid (R1.out.off (by first | exact World.grownBy.refl _ _ | exact grown_drew _ _ | exact li.grown_drewN _ _ _) hR2).1; obtain ⟨d0, d1, d2⟩ := B2.out.f; obtain ⟨z0, z1, z2, lt2⟩ := B2.out.free; clear hn2 hR2))
      all_goals
        have LN := Lib.hid (fun W (hg : (((w2.setCell ⟨w.heap.size, 0, none⟩ (.slice A2 N2 c2)).setCell ⟨w.heap.size, 1, none⟩ (.int .i64 (r : Int))).setCell ⟨w.heap.size, 2, none⟩ (.bool b2)).grownBy W none) => (show Calls Try.prog 17 #[.pointer (some ⟨g, 0, none⟩)] W (fun e w' => e = .returned (.int .i64 N2) ∧ W = w') from by rw [R3.out.n]; exact Len_any (R3.out.new hg).rn.sk))
        have OV := Lib.hid (fun W (hg : (((w2.setCell ⟨w.heap.size, 0, none⟩ (.slice A2 N2 c2)).setCell ⟨w.heap.size, 1, none⟩ (.int .i64 (r : Int))).setCell ⟨w.heap.size, 2, none⟩ (.bool b2)).grownBy W none) => Over_any (R3.out.new hg).rn.sk)
        have AL := Lib.hid (fun W (hg : (((w2.setCell ⟨w.heap.size, 0, none⟩ (.slice A2 N2 c2)).setCell ⟨w.heap.size, 1, none⟩ (.int .i64 (r : Int))).setCell ⟨w.heap.size, 2, none⟩ (.bool b2)).grownBy W none) => (All_any (R3.out.new hg).rn.sk).mono (fun e w' (k : VasAns m2 W e w') => (show ∃ A c, e = .returned (.slice A N2 c) ∧ Rv w' w'.heap.size A N2 c m2 ∧ (((w2.setCell ⟨w.heap.size, 0, none⟩ (.slice A2 N2 c2)).setCell ⟨w.heap.size, 1, none⟩ (.int .i64 (r : Int))).setCell ⟨w.heap.size, 2, none⟩ (.bool b2)).grownBy w' none from by
          obtain ⟨A, c, e1, h1, h2⟩ := k
          have e2 := R3.out.n
          subst e2
          exact ⟨A, c, e1, h1.rv rfl, hg.trans h2⟩)))
        have SM := Lib.hid (fun W A c B (hg : (((w2.setCell ⟨w.heap.size, 0, none⟩ (.slice A2 N2 c2)).setCell ⟨w.heap.size, 1, none⟩ (.int .i64 (r : Int))).setCell ⟨w.heap.size, 2, none⟩ (.bool b2)).grownBy W none) (hv : Rv W B A N2 c m2) => (same_true m2 A A2 N2 N2 c c2 _ _ W (by have := R3.out.n; have := R3.out.rn.sk.le; omega) rfl hv ((R3.out.new hg).rn.li.rv R3.out.n)))
        have f3 := R3.out.bk.f
        have FF := Lib.hid (fun W (hg : (((w2.setCell ⟨w.heap.size, 0, none⟩ (.slice A2 N2 c2)).setCell ⟨w.heap.size, 1, none⟩ (.int .i64 (r : Int))).setCell ⟨w.heap.size, 2, none⟩ (.bool b2)).grownBy W none) => (R3.out.new hg).bk.f)
        go_wp2
        go_region_held3 (fun W => W.cell? ⟨w.heap.size, 0, none⟩ = some (.slice A2 N2 c2) ∧ W.cell? ⟨w.heap.size, 1, none⟩ = some (.int .i64 r) ∧ W.cell? ⟨w.heap.size, 2, none⟩ = some (.bool b2)) (first | exact f3 | exact f4 | go_keep) (first
          | (have mark := V4; go_at_call 15; (with_reducible refine (SM.out _ _ _ _ (World.grownBy.trans G4.out (by first | exact World.grownBy.refl _ _ | exact grown_drew _ _ | exact li.grown_drewN _ _ _)) (V4.out.made (by first | exact World.grownBy.refl _ _ | exact grown_drew _ _ | exact li.grown_drewN _ _ _))).mono ?_); rintro e w5 ⟨rfl, q5, rfl⟩)
          | (go_at_call 16; (with_reducible refine (AL.out _ (by first | exact World.grownBy.refl _ _ | exact grown_drew _ _ | exact li.grown_drewN _ _ _)).mono ?_); rintro e w4 ⟨A4, c4, rfl, hv4, hg4⟩; have V4 := Lib.hid hv4; have G4 := Lib.hid hg4; have f4 := FF.out _ hg4; clear hv4 hg4)
          | (go_at_call 12; (with_reducible refine (OV.out _ (by first | exact World.grownBy.refl _ _ | exact grown_drew _ _ | exact li.grown_drewN _ _ _)).mono ?_); rintro e w' ⟨rfl, hw⟩; subst hw)
          | (go_at_call 17; (with_reducible refine (LN.out _ (by first | exact World.grownBy.refl _ _ | exact grown_drew _ _ | exact li.grown_drewN _ _ _)).mono ?_); rintro e w' ⟨rfl, hw⟩; subst hw))
        go_wp2
        exact ⟨⟨k + 1, A2, N2, c2, b2, m2, K2, by omega, by go_num, rfl, R3.out.new (World.grownBy.trans G4.out (li.grown_drewN _ q5 none))⟩, by simp [intOf]; omega⟩
    · obtain rfl : k = n := by omega
      go_wp2
      refine bodyPost_ret (v := .tuple #[.agg #[.slice A1 N1 c1, .int .i64 r, .bool b1], .bool true]) ?_ rfl ?_
      · simp [results, Try.results7, go_sem, *]
      · exact R1.out.fin (grown_three _ _ _ _ _)
end
end
end Go.Proofs.Ytokjiklmeolleaa.sk
