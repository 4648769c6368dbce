/- Texts that this claim stands on. -/
import Derived.Test.YtkgdcgmbapchcaaGreatDoorQCeX
namespace Go.Proofs.YtkgdcgmbapchcaaGreatDoor.ce
open Go.ChangeShapes Go.WideShapes Go.ChangeAt Go.RowKit gen calls cls geos
set_option linter.unusedVariables false
def Tkd (w : World) (c h g r m q s : Nat) (ks xs cs : List Int) (ws : List Nat) (i f n : Int) (b : Bool) (vi vp vo : Value) (wx : World) : Prop :=
  ∃ B, vi = .int .i64 i ∧ vp = .pointer (some ⟨B, 0, none⟩) ∧ vo = .bool b ∧ ch.Two wx B f n ∧ w.heap.size ≤ B ∧ Hp wx c h g r m q s ks xs cs ws ∧ w.grownBy wx none
theorem _root_.Go.Proofs.YtkgdcgmbapchcaaGreatDoor.ch.grown_alloc2 {w w1 : World} {row : Option Nat} (h : w.grownBy w1 row) (o : Obj) : w.grownBy (w1.alloc o) row := h.trans (World.grownBy_alloc w1 o row)
theorem keep_two {w : World} {a : Addr} {v : Value} {B : Nat} (h : w.cell? a = some v) (hB : a.block ≠ B) (x y : Value) : ((w.setCell ⟨B, 0, none⟩ x).setCell ⟨B, 1, none⟩ y).cell? a = some v :=
  ((Gr.set (L := [B]) w B 0 x (by simp)).trans (Gr.set _ B 1 y (by simp))).cell h (by simpa using hB)
section
variable {w w' : World} {c h g r m q s : Nat} {ks xs cs : List Int} {ws : List Nat}
theorem Tkd.new {w3 : World} (H : Hp w c h g r m q s ks xs cs ws) (hg : w.grownBy w3 none) (i f n : Int) (b : Bool) (t : TypeId) : Tkd w c h g r m q s ks xs cs ws i f n b (.int .i64 i) (.pointer (some ⟨w3.heap.size, 0, none⟩)) (.bool b) (w3.alloc (.cells #[.int .i64 f, .int .i64 n] t)) :=
  have G := ch.grown_alloc2 hg (.cells #[.int .i64 f, .int .i64 n] t)
  ⟨_, rfl, rfl, rfl, ch.Two.new w3 t f n rfl, hg.size, H.new G, G⟩
theorem Tkd.set {w3 : World} {B : Nat} {x y : Int} (H : Hp w c h g r m q s ks xs cs ws) (hg : w.grownBy w3 none) (hB : w.heap.size ≤ B) (D : ch.Two w3 B x y) (i f n : Int) (b : Bool) : Tkd w c h g r m q s ks xs cs ws i f n b (.int .i64 i) (.pointer (some ⟨B, 0, none⟩)) (.bool b) ((w3.setCell ⟨B, 0, none⟩ (.int .i64 f)).setCell ⟨B, 1, none⟩ (.int .i64 n)) :=
  have G : w.grownBy ((w3.setCell ⟨B, 0, none⟩ (.int .i64 f)).setCell ⟨B, 1, none⟩ (.int .i64 n)) none := ch.grown_setc (ch.grown_setc hg hB _ _) hB _ _
  ⟨B, rfl, rfl, rfl, ⟨by rw [World.cell?_setCell_other _ _ _ _ (by simp)]; exact World.cell?_setCell_same' _ _ _ (by rw [D.1]; rfl), World.cell?_setCell_same' _ _ _ (by rw [World.cell?_setCell_other _ _ _ _ (by simp), D.2.1]; rfl), by rw [World.frozen?_setCell, World.frozen?_setCell]; exact D.2.2.1, by rw [World.frozen?_setCell, World.frozen?_setCell]; exact D.2.2.2⟩, hB, H.new G, G⟩
end
section
variable {w w' : World} {c h g r m q s : Nat} {ks xs cs : List Int} {ws : List Nat}
set_option maxHeartbeats 4000000
set_option maxRecDepth 100000
def TakeAns (b : Bool) (c h g r m q s : Nat) (ks xs cs : List Int) (tk : List Int) (P a z : Nat) (f n : Int) (w : World) (e : Ending) (w' : World) : Prop :=
  (b = false ∧ e = rI 0 false ∧ w.grownBy w' none) ∨ (b = true ∧ Did (.tuple #[.int .i64 a, .bool true]) c h g r m q s ks (mm.fillN xs a 0 z) (cput cs P f n) tk w e w')
theorem Take_walk (H : Hp w c h g r m q s ks xs cs ws) (hks : pg.Ks ks) (p i f n : Int) (b : Bool)
    (hT : ∀ W, w.grownBy W none → Calls Tryz.prog 262 #[.pointer (some ⟨m, 0, none⟩), .int .i64 p, .int .i64 (pg.kind ks p), .agg #[.int .i64 (lf ks cs p), .int .i64 (ln ks cs p)]] W fun e w' => e = ch.ansT i f n b ∧ W.grownBy w' none)
    (P a z : Nat) (hy : b = true → p = P ∧ P < 64 ∧ atk p (pg.kind ks p) i = true ∧ ata p (pg.kind ks p) i = a ∧ sz (pg.kind ks p) = z ∧ 0 < z ∧ a + z ≤ xs.length ∧ (a : Int) ∉ bm.nums ws) :
    Calls Tryz.prog 216 #[.pointer (some ⟨c, 0, none⟩), .int .i64 p] w (TakeAns b c h g r m q s ks xs cs (bm.rising (bm.nums ws ++ [(a : Int)])) P a z f n w) := by
  have F := Lib.hid (kind_fits hks p)
  have L := Lib.hid (fun W (hg : w.grownBy W none) => left_any (H.new hg) hks p)
  have K := Lib.hid (fun W (hg : w.grownBy W none) => pg.Kind_any (H.new hg).tab p)
  have T := Lib.hid hT
  have C := Lib.hid (fun W (hg : w.grownBy W none) => (H.new hg).h1)
  have FP := Lib.hid (show b = true → fits p = true from fun e => by obtain ⟨e1, e2, _⟩ := hy e; simp [fits]; omega)
  have c0 := H.h0
  have c1 := H.h1
  have H0 := Lib.hid H
  have HL := Lib.hid H.lt.2.1
  have HY := Lib.hid hy
  generalize pg.kind ks p = k at *
  generalize lf ks cs p = x at *
  generalize ln ks cs p = y at *
  clear H hks hT hy
  go_enter Tryz.func216, Tryz.ntmps216
  go_upto_region 3 with (first
    | (go_at_call 197; (with_reducible refine (made_yes H0.out).mono ?_); rintro e w' ⟨rfl, rfl⟩)
    | (go_at_call 230; (with_reducible refine (K.out _ (World.grownBy.refl _ _)).mono ?_); rintro e w' ⟨rfl, rfl⟩))
  go_cut [8, 9, 10] (fun vi vp vo wx => Tkd w c h g r m q s ks xs cs ws i f n b vi vp vo wx)
  case first =>
    go_region_held3 (fun W => W.cell? ⟨h, 1, none⟩ = some (.pointer (some ⟨m, 0, none⟩))) (first | go_keep | exact f2 | exact f3 | exact keep_two f3 (by have := HB3.out; have := HL.out; show h ≠ _; omega) _ _) (first
      | (have mark := D2; go_at_call 262; (with_reducible refine (T.out _ G2.out).mono ?_); rintro e w3 ⟨rfl, hg⟩; have G3 := Lib.hid (G2.out.trans hg); have f3 := C.out _ G3.out; have D3 := Lib.hid (D2.out.kept hg (by simp)); obtain ⟨d0, d1, d2, d3⟩ := D3.out; have HB3 := Lib.hid HB2.out; clear hg)
      | (go_at_call 262; (with_reducible refine (T.out _ G2.out).mono ?_); rintro e w3 ⟨rfl, hg⟩; have G3 := Lib.hid (G2.out.trans hg); have f3 := C.out _ G3.out; clear hg)
      | (go_at_call 262; (with_reducible refine (T.out _ (ch.grown_alloc2 G2.out (.cells #[.int .i64 0, .int .i64 0] 194))).mono ?_); rintro e w3 ⟨rfl, hg⟩; have G3 := Lib.hid ((ch.grown_alloc2 G2.out (.cells #[.int .i64 0, .int .i64 0] 194)).trans hg); have f3 := C.out _ G3.out; have D3 := Lib.hid ((ch.Two.new w2 194 0 0 rfl).kept hg (by simp)); obtain ⟨d0, d1, d2, d3⟩ := D3.out; have HB3 := Lib.hid (show w.heap.size ≤ w2.heap.size from G2.out.size); clear hg)
      | (go_at_call 231; (with_reducible refine (L.out _ (ch.grown_drew _ _)).mono ?_); rintro e w2 ⟨rfl, hg⟩; have G2 := Lib.hid ((ch.grown_drew w none).trans hg); have f2 := C.out _ G2.out; clear hg)
      | (go_at_call 231; (with_reducible refine (L.out _ ((World.grownBy_alloc w (.cells #[.int .i64 0, .int .i64 0] 194) none).trans (ch.grown_drew _ none))).mono ?_); rintro e w2 ⟨rfl, hg⟩; have G2 := Lib.hid (((World.grownBy_alloc w (.cells #[.int .i64 0, .int .i64 0] 194) none).trans (ch.grown_drew _ none)).trans hg); have D2 := Lib.hid (((ch.Two.new w 194 0 0 rfl).kept (ch.grown_drew _ none) (by simp)).kept hg (by simp)); have HB2 := Lib.hid (Nat.le_refl w.heap.size); have f2 := C.out _ G2.out; clear hg))
    all_goals
      go_wp2
      go_meet
      first | exact Tkd.new H0.out G3.out _ _ _ _ _ | exact Tkd.set H0.out G3.out HB3.out D3.out _ _ _ _
  case rest =>
    obtain ⟨B, rfl, rfl, rfl, two, hB, hh, hg⟩ := hcut
    have G4 := Lib.hid hg
    have H4 := Lib.hid hh
    clear hg hh L K T C c0 c1
    cases b with
    | false =>
      go_wp2
      go_ret2
      exact .inl ⟨rfl, rfl, G4.out⟩
    | true =>
      obtain ⟨rfl, p64, a1, a2, a3, a4, a5, a6⟩ := HY.out rfl
      have FQ := Lib.hid (FP.out rfl)
      obtain ⟨d0, d1, d2, d3⟩ := two
      have z1 := H4.out.fz (2 + P * 2)
      have z2 := H4.out.fz (2 + P * 2 + 1)
      have y1 := H4.out.at (i := 2 * P) (by omega)
      have y2 := H4.out.at (i := 2 * P + 1) (by omega)
      rw [show 2 + 2 * P = 2 + P * 2 by omega] at y1
      rw [show 2 + (2 * P + 1) = 2 + P * 2 + 1 by omega] at y2
      have H5 := Lib.hid (H4.out.chain p64 f n).drew
      have A2 := Lib.hid a2
      have A3 := Lib.hid a3
      have GR := Lib.hid (fun W (hW : Hp W c h g r m q s ks xs (cput cs P f n) ws) => grant_any hW a z a5 a4 a6)
      clear a2 a3 a4 a5 a6 H4 HY
      go_wp2
      go_region
      go_wp2_with (first
        | (go_at_call 263; (with_reducible refine (at_any _ _ _ _ FQ.out F.out).mono ?_); rintro e w' ⟨rfl, rfl⟩; rw [a1, A2.out])
        | (go_at_call 220; (with_reducible refine (size_any _ _ F.out).mono ?_); rintro e w' ⟨rfl, rfl⟩; rw [A3.out])
        | (go_at_call 264; (with_reducible refine (GR.out _ H5.out).mono ?_); rintro e w6 ⟨ws6, rfl, hh, hx, hg⟩; have H6 := Lib.hid hh; have X6 := Lib.hid hx; have G6 := Lib.hid hg; clear hh hx hg))
      go_ret2
      refine .inr ⟨rfl, ws6, rfl, H6.out, X6.out, ?_⟩
      exact (Gr.new G4.out).trans ((Gr.set _ _ _ _ (by simp)).trans ((Gr.set _ _ _ _ (by simp)).trans ((Gr.drew (.refl _ _)).trans G6.out)))
end
end Go.Proofs.YtkgdcgmbapchcaaGreatDoor.ce
namespace Go.Proofs.YtkgdcgmbapchcaaGreatDoor.ce
open Go.ChangeShapes Go.WideShapes Go.ChangeAt Go.RowKit gen calls cls geos
set_option linter.unusedVariables false
set_option maxHeartbeats 4000000
set_option maxRecDepth 100000
section
variable {w w' : World} {c h g r m q s : Nat} {ks xs cs : List Int} {ws : List Nat}
theorem Large_no (H : Hp w c h g r m q s ks xs cs ws) (n : Int) (hno : 1 ≤ n → pg.find n 0 ks = none) :
    Calls Tryz.prog 267 #[.pointer (some ⟨c, 0, none⟩), .int .i64 n] w fun e w' => e = rI 0 false ∧ w.grownBy w' none := by
  have TK : Hid (Calls Tryz.prog 296 #[.pointer (some ⟨g, 0, none⟩), .int .i64 n] w fun e w' => e = rI 0 false ∧ w.grownBy w' none) := by
    by_cases hs : 1 ≤ n
    · exact pg.Span_none hs (pg.lowest_none H.tab hs (hno hs))
    · exact (pg.Span_below (q := some ⟨g, 0, none⟩) w (by omega)).mono fun e w' ⟨h1, h2⟩ => ⟨h1, by subst h2; exact World.grownBy.refl _ _⟩
  have f := H.h0
  have H0 := Lib.hid H
  clear H hno
  go_enter Tryz.func267, Tryz.ntmps267
  go_wp2_with (first
    | (go_at_call 197; (with_reducible refine (made_yes H0.out).mono ?_); rintro e w' ⟨rfl, rfl⟩)
    | (go_at_call 296; (with_reducible refine TK.out.mono ?_); rintro e w1 ⟨rfl, hg⟩; have G1 := Lib.hid hg; clear hg))
  go_ret2
  exact ⟨rfl, G1.out⟩
theorem Large_yes (H : Hp w c h g r m q s ks xs cs ws) (n : Nat) (h1 : 1 ≤ n) {p : Nat} (hf : pg.find n 0 ks = some p) (hx : xs.length = 32 * ks.length) {a z : Nat} (ha : a = p * 32) (hz : z = n * 32) (hn : (a : Int) ∉ bm.nums ws) :
    Calls Tryz.prog 267 #[.pointer (some ⟨c, 0, none⟩), .int .i64 n] w (Did (.tuple #[.int .i64 a, .bool true]) c h g r m q s (pg.spanN ks p n) (mm.fillN xs a 0 z) cs (bm.rising (bm.nums ws ++ [(a : Int)])) w) := by
  obtain ⟨hp, _, _, hpn⟩ := pg.find_at (n := n) (by omega) hf
  have hl := H.tab.le
  have n64 : n ≤ 64 := by omega
  have TK := Lib.hid (pg.Span_some H.tab h1 hf)
  have E1 := enk_iff.mpr (show 0 ≤ (p : Int) ∧ 1 ≤ (n : Int) ∧ (p : Int) + n ≤ 64 by omega)
  have E2 : enf (p : Int) n = a := by unfold enf; rw [if_pos E1]; omega
  have FP := Lib.hid (show fits (p : Int) = true by simp [fits]; omega)
  have FN := Lib.hid (show fits (n : Int) = true by simp [fits]; omega)
  have HZ := Lib.hid (show (n : Int) * 32 = z by omega)
  have GR := Lib.hid (fun W (hW : Hp W c h g r m q s (pg.spanN ks p n) xs cs ws) => grant_any hW a z (by omega) (by omega) hn)
  have f := H.h0
  have H0 := Lib.hid H
  clear H h1 hf hx hp hpn hl ha hn hz
  go_enter Tryz.func267, Tryz.ntmps267
  go_wp2_with (first
    | (go_at_call 197; (with_reducible refine (made_yes H0.out).mono ?_); rintro e w' ⟨rfl, rfl⟩)
    | (go_at_call 296; (with_reducible refine TK.out.mono ?_); rintro e w1 ⟨rfl, ht, hg⟩; have H1 := Lib.hid (H0.out.pages ht hg); have G1 := Lib.hid (Gr.one (L := [h, r, q, s]) hg (by simp)); clear ht hg)
    | (go_at_call 279; (with_reducible refine (ends_any _ _ _ FP.out FN.out).mono ?_); rintro e w' ⟨rfl, rfl⟩; rw [E1, E2])
    | (go_at_call 264; rw [HZ.out]; (with_reducible refine (GR.out _ H1.out).mono ?_); rintro e w6 ⟨ws6, rfl, hh, hx, hg⟩; have H6 := Lib.hid hh; have X6 := Lib.hid hx; have G6 := Lib.hid hg; clear hh hx hg))
  go_ret2
  exact ⟨ws6, rfl, H6.out, X6.out, G1.out.trans G6.out⟩
theorem field_n (x y : Int) : ∀ w : World, (Instr.field 194 (.agg #[.int .i64 x, .int .i64 y]) 1).run Tryz.prog w = .ok (.int .i64 y) w := fun _ => by kernel_rfl
theorem Drop_no (H : Hp w c h g r m q s ks xs cs ws) (hks : pg.Ks ks) (p : Int) (hno : cl (pg.kind ks p) = 0 ∨ ln ks cs p < cl (pg.kind ks p)) :
    Calls Tryz.prog 163 #[.pointer (some ⟨c, 0, none⟩), .int .i64 p] w fun e w' => e = .returned (.bool false) ∧ w.grownBy w' none := by
  have F := Lib.hid (kind_fits hks p)
  have L := Lib.hid (left_any H hks p)
  have K := Lib.hid (pg.Kind_any H.tab p)
  have f := H.h0
  have H0 := Lib.hid H
  generalize pg.kind ks p = k at *
  generalize lf ks cs p = x at *
  generalize ln ks cs p = y at *
  clear H hks
  by_cases c0 : cl k = 0
  · clear hno
    go_enter Tryz.func163, Tryz.ntmps163
    go_wp2_with (first
      | (go_at_call 197; (with_reducible refine (made_yes H0.out).mono ?_); rintro e w' ⟨rfl, rfl⟩)
      | (go_at_call 230; (with_reducible refine K.out.mono ?_); rintro e w' ⟨rfl, rfl⟩)
      | (go_at_call 223; (with_reducible refine (cells_any _ _ F.out).mono ?_); rintro e w' ⟨rfl, rfl⟩; rw [c0]))
    go_ret
    exact ⟨rfl, World.grownBy.refl _ _⟩
  · have h1 : decide (y < cl k) = true := by simpa using hno.resolve_left c0
    have e0 : (cl k == 0) = false := by simpa using c0
    clear hno c0
    generalize hc : cl k = z at *
    have HC := Lib.hid hc
    have QF := field_n x y
    clear hc
    go_enter Tryz.func163, Tryz.ntmps163
    go_wp2_with (first
      | (go_at_call 197; (with_reducible refine (made_yes H0.out).mono ?_); rintro e w' ⟨rfl, rfl⟩)
      | (go_at_call 230; (with_reducible refine K.out.mono ?_); rintro e w' ⟨rfl, rfl⟩)
      | (go_at_call 231; (with_reducible refine L.out.mono ?_); rintro e w2 ⟨rfl, hg⟩; have G2 := Lib.hid hg; clear hg)
      | (go_at_call 223; (with_reducible refine (cells_any _ _ F.out).mono ?_); rintro e w' ⟨rfl, rfl⟩; rw [HC.out]))
    go_ret
    exact ⟨rfl, G2.out⟩
theorem Drop_yes (H : Hp w c h g r m q s ks xs cs ws) (hks : pg.Ks ks) (p : Nat) (h0 : cl (pg.kind ks p) ≠ 0) (h1 : cl (pg.kind ks p) ≤ ln ks cs p) :
    Calls Tryz.prog 163 #[.pointer (some ⟨c, 0, none⟩), .int .i64 p] w (Did (.bool true) c h g r m q s (ks.set p 0) xs cs (bm.nums ws) w) := by
  have F := Lib.hid (kind_fits hks p)
  have L := Lib.hid (left_any H hks p)
  have K := Lib.hid (pg.Kind_any H.tab p)
  have X := Lib.hid (fun W (hg : w.grownBy W none) => pg.Free_any (H.new hg).tab hks p)
  have k1 := cl_in h0
  rw [pg.siz_small k1] at X
  have f := H.h0
  have H0 := Lib.hid H
  have C0 := Lib.hid (fun W (hg : w.grownBy W none) => (H.new hg).h0)
  generalize pg.kind ks p = k at *
  generalize lf ks cs p = x at *
  generalize ln ks cs p = y at *
  have e1 : decide (y < cl k) = false := by simpa using h1
  have e0 : (cl k == 0) = false := by simpa using h0
  clear H hks h0 h1 k1
  generalize hc : cl k = z at *
  have HC := Lib.hid hc
  have QF := field_n x y
  clear hc
  go_enter Tryz.func163, Tryz.ntmps163
  go_wp2_with (first
    | (go_at_call 197; (with_reducible refine (made_yes H0.out).mono ?_); rintro e w' ⟨rfl, rfl⟩)
    | (go_at_call 230; (with_reducible refine K.out.mono ?_); rintro e w' ⟨rfl, rfl⟩)
    | (go_at_call 231; (with_reducible refine L.out.mono ?_); rintro e w2 ⟨rfl, hg⟩; have G2 := Lib.hid hg; have f2 := C0.out _ G2.out; clear hg)
    | (go_at_call 223; (with_reducible refine (cells_any _ _ F.out).mono ?_); rintro e w' ⟨rfl, rfl⟩; rw [HC.out])
    | (go_at_call 232; (with_reducible refine (X.out _ G2.out).mono ?_); rintro e w3 ⟨rfl, ht, hg⟩; have H3 := Lib.hid ((H0.out.new G2.out).pages ht hg); have G3 := Lib.hid ((Gr.new (L := [h, r, q, s]) G2.out).trans (Gr.one hg (by simp))); clear ht hg))
  go_ret
  exact ⟨ws, rfl, H3.out, rfl, G3.out⟩
theorem Give_large (H : Hp w c h g r m q s ks xs cs ws) (hks : pg.Ks ks) (a p : Nat) (ha : (a : Int) ∈ bm.nums ws) (hp : pgOf a = p) (hk : cek (pg.kind ks p) a = false) :
    Calls Tryz.prog 260 #[.pointer (some ⟨c, 0, none⟩), .int .i64 a] w (Did (.bool true) c h g r m q s (pg.fillN ks p 0 (pg.siz ks p).toNat) xs cs ((bm.nums ws).filter fun y => decide (y ≠ (a : Int))) w) := by
  have R := Lib.hid (bm.Remove_any H.set a)
  rw [decide_eq_true ha] at R
  have F := Lib.hid (kind_fits hks p)
  have HK := Lib.hid hks
  have f := H.hs
  have H0 := Lib.hid H
  clear H ha hks
  go_enter Tryz.func260, Tryz.ntmps260
  go_wp2_with (first
    | (go_at_call 197; (with_reducible refine (made_yes H0.out).mono ?_); rintro e w' ⟨rfl, rfl⟩)
    | (go_at_call 259; (with_reducible refine R.out.mono ?_); rintro e w1 ⟨ws1, rfl, hs, hx, hg⟩; have H1 := Lib.hid (H0.out.takes hs hg); have X1 := Lib.hid hx; have G1 := Lib.hid (Gr.one (L := [h, r, q, s]) hg (by simp)); have f1 := H1.out.h0; clear hs hx hg)
    | (go_at_call 155; (with_reducible refine (page_any _ _).mono ?_); rintro e w' ⟨rfl, rfl⟩; rw [hp])
    | (go_at_call 230; (with_reducible refine (pg.Kind_any H1.out.tab _).mono ?_); rintro e w' ⟨rfl, rfl⟩)
    | (go_at_call 292; (with_reducible refine (cell_any _ _ _ F.out).mono ?_); rintro e w' ⟨rfl, rfl⟩; rw [hk])
    | (go_at_call 232; (with_reducible refine (pg.Free_any H1.out.tab HK.out _).mono ?_); rintro e w3 ⟨rfl, ht, hg⟩; have H3 := Lib.hid (H1.out.pages ht hg); have G3 := Lib.hid (G1.out.trans (Gr.one hg (by simp))); clear ht hg))
  go_ret
  exact ⟨ws1, rfl, H3.out, X1.out, G3.out⟩
theorem Give_cell (H : Hp w c h g r m q s ks xs cs ws) (hks : pg.Ks ks) (a p : Nat) (i : Int) (ha : (a : Int) ∈ bm.nums ws) (hp : pgOf a = p) (p64 : p < 64) (hk : cek (pg.kind ks p) a = true) (hi : cei (pg.kind ks p) a = i) (hai : ((p : Int) * 32 + i * sz (pg.kind ks p)).toNat = a)
    (hgv : ch.gv xs.length p (pg.kind ks p) (cf cs p) (cn cs p) i = true) :
    Calls Tryz.prog 260 #[.pointer (some ⟨c, 0, none⟩), .int .i64 a] w (Did (.bool true) c h g r m q s ks (xs.set a (-1 - cf cs p)) (cput cs p i (cn cs p + 1)) ((bm.nums ws).filter fun y => decide (y ≠ (a : Int))) w) := by
  have R := Lib.hid (bm.Remove_any H.set a)
  rw [decide_eq_true ha] at R
  have F := Lib.hid (kind_fits hks p)
  have FP := Lib.hid (show fits (p : Int) = true by simp [fits]; omega)
  have GV := Lib.hid (fun W (hm : mm.MemAt W m q xs) => ch.Give_yes _ _ _ _ _ hm FP.out F.out hgv)
  rw [hai] at GV
  have HI := Lib.hid hi
  have CF := Lib.hid (show cs.getD (2 * p) 0 = cf cs p by simp [cf])
  have CN := Lib.hid (show cs.getD (2 * p + 1) 0 = cn cs p by simp [cn])
  have f := H.hs
  have H0 := Lib.hid H
  generalize cf cs p = x at *
  generalize cn cs p = y at *
  clear H ha hks hgv hai hi
  go_enter Tryz.func260, Tryz.ntmps260
  go_wp2_with (first
    | (go_at_call 197; (with_reducible refine (made_yes H0.out).mono ?_); rintro e w' ⟨rfl, rfl⟩)
    | (go_at_call 259; (with_reducible refine R.out.mono ?_); rintro e w1 ⟨ws1, rfl, hs, hx, hg⟩; have H1 := Lib.hid (H0.out.takes hs hg); have X1 := Lib.hid hx; have G1 := Lib.hid (Gr.one (L := [h, r, q, s]) hg (by simp)); have f1 := H1.out.h0; clear hs hx hg)
    | (go_at_call 155; (with_reducible refine (page_any _ _).mono ?_); rintro e w' ⟨rfl, rfl⟩; rw [hp])
    | (go_at_call 230; (with_reducible refine (pg.Kind_any H1.out.tab _).mono ?_); rintro e w' ⟨rfl, rfl⟩)
    | (go_at_call 292; (with_reducible refine (cell_any _ _ _ F.out).mono ?_); rintro e w' ⟨rfl, rfl⟩; rw [hk, HI.out]))
  have f2 := H1.out.h1
  have y1 := H1.out.at (i := 2 * p) (by omega)
  have y2 := H1.out.at (i := 2 * p + 1) (by omega)
  rw [show 2 + 2 * p = 2 + p * 2 by omega, CF.out] at y1
  rw [show 2 + (2 * p + 1) = 2 + p * 2 + 1 by omega, CN.out] at y2
  go_region_with (first
    | (go_at_call 293; (with_reducible refine (GV.out _ H1.out.drew.mem).mono ?_); rintro e w2 ⟨rfl, hm, hg⟩; have H2 := Lib.hid (H1.out.drew.words hm hg (by rw [List.length_set])); have G2 := Lib.hid (G1.out.drew.trans (Gr.one hg (by simp))); have z1 := H2.out.fz (2 + p * 2); have z2 := H2.out.fz (2 + p * 2 + 1); have y3 := H2.out.at (i := 2 * p) (by omega); have y4 := H2.out.at (i := 2 * p + 1) (by omega); rw [show 2 + 2 * p = 2 + p * 2 by omega, CF.out] at y3; rw [show 2 + (2 * p + 1) = 2 + p * 2 + 1 by omega, CN.out] at y4; clear hm hg))
  all_goals
    go_wp2
    go_ret
    exact ⟨ws1, rfl, H2.out.chain p64 _ _, X1.out, G2.out.trans ((Gr.set _ _ _ _ (by simp)).trans (Gr.set _ _ _ _ (by simp)))⟩
end
end Go.Proofs.YtkgdcgmbapchcaaGreatDoor.ce
