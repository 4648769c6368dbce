/- A step of a script, by the program and by the list: a Set that may be; Drop; questions. -/
import Derived.Test.YtagahkofjgbfhaaCaJ
namespace Go.Proofs.Ytagahkofjgbfhaa.ca
open Go.ChangeShapes Go.WideShapes Go.ChangeAt Go.RowKit Go.Maps gen calls cls
set_option linter.unusedVariables false
set_option maxHeartbeats 8000000
set_option maxRecDepth 100000
section
variable {w w' : World} {c mb n : Nat} {m : List Ow} {D : DataW Unit} {v : Value}
theorem At.map (C : At w c mb n m D) : ∃ es clock, w.heap[mb]? = some (.map es clock) := by
  obtain ⟨es, clock, hb, _⟩ := C.own
  exact ⟨es, clock, hb⟩
theorem Lo.far {base : Nat} (C : At w c mb n m D) {m2 : List Ow} (L : Lo w base v m2) : v.ownBlock ≠ some mb := by
  obtain ⟨es, clock, hb⟩ := C.map
  exact L.off hb (fun cs z e => by cases e)
theorem row_far (C : At w c mb n m D) {base N : Nat} {xs : List Value} (h : w.ownsRow base 3 1 v N xs) : v.ownBlock ≠ some mb := by
  obtain ⟨es, clock, hb⟩ := C.map
  exact (own_off h hb (fun cs t z e => by cases e)).symm
theorem step_set (C : At w c mb n m D) (L : Lo w 0 v m) (t k p : Int) (ht : fits t = true) (hk : fits k = true) (h : may n m t k p = true) :
    Calls Try.prog 19 #[.pointer (some ⟨c, 0, none⟩), .int .i64 n, v, .agg #[.int .i64 1, .int .i64 t, .int .i64 k, .int .i64 p]] w (SAns c mb n (rest m t k ++ [(t, k, p)]) w) := by
  have G0 := Lib.hid (World.grownBy_alloc w (.cells #[.int .i64 1, .int .i64 t, .int .i64 k, .int .i64 p] 33) none)
  have T0 := Lib.hid (Four.new w 1 t k p 33)
  have CC := Lib.hid C
  have LL := Lib.hid L
  have few := C.good.few
  have OW := Lib.hid (fun W (hg : w.grownBy W none) => owner_any (L.new hg) (by omega) ⟨n, C.good⟩ p)
  have WI := Lib.hid (fun W (hg : w.grownBy W none) => without_any (L.new hg) (by omega) t k)
  have ST := Lib.hid (fun W (hg : w.grownBy W none) => Set_may (C.new hg) t k p ht hk h)
  have HK := Lib.hid hk
  have RL := Lib.hid (show (rest m t k).length ≤ 4096 by have := List.length_filter_le (fun x => !hit t k x) m; unfold rest; omega)
  have way : decide (0 ≤ t) = true ∧ decide (t < (n : Int)) = true ∧ decide (0 < sz k) = true ∧ decide (0 ≤ p) = true ∧ decide (p < 64) = true ∧ decide ((owner m p).1 < 0) = true := by
    simp only [decide_eq_true_eq, sz_pos]
    simp [may, place] at h
    omega
  obtain ⟨z, hz⟩ : ∃ z, sz k = z := ⟨_, rfl⟩
  have HZ := Lib.hid hz
  rw [hz] at way
  generalize (owner m p).1 = o1 at OW way
  generalize (owner m p).2 = o2 at OW
  obtain ⟨u0, u1, u2, u3⟩ := T0.out
  clear C L ht hk h hz few
  obtain ⟨e1, e2, e3, e4, e5, e6⟩ := way
  go_enter Try.func19, Try.ntmps19
  go_wp2_with (first
    | (go_at_call 28; (with_reducible refine (OW.out _ G0.out).mono ?_); rintro e w2 ⟨rfl, hg⟩; have G2 := Lib.hid (G0.out.trans hg); have T2 := Lib.hid (T0.out.made hg); obtain ⟨v0, v1, v2, v3⟩ := T2.out; clear hg)
    | (go_at_call 29; (with_reducible refine (rSize_any _ _ HK.out).mono ?_); rintro e w3 ⟨rfl, hb⟩; rw [HZ.out]; have hg := below_grown hb; have G3 := Lib.hid (G2.out.trans hg); have T3 := Lib.hid (T2.out.made hg); obtain ⟨y0, y1, y2, y3⟩ := T3.out; clear hb hg)
    | (go_at_call 30; (with_reducible refine (WI.out _ G3.out).mono ?_); rintro e w4 ⟨A, N, k4, B, M, j4, rfl, h1, h2, h3, h4, hg⟩; have L4 := Lib.hid h2; have G4 := Lib.hid (G3.out.trans hg); have T4 := Lib.hid (T3.out.made hg); have S4 := Lib.hid hg.size; have S3 := Lib.hid (World.block_lt_of_cell? w3 _ T3.out.t0); obtain ⟨x0, x1, x2, x3⟩ := T4.out; clear h1 h2 h3 h4 hg)
    | (refine append_ow rfl (.tmp 81) (.tmp 89) rfl w3.heap.size _ (rest m t k) rfl (L4.out.new (World.grownBy_alloc w4 (.cells #[.int .i64 t, .int .i64 k, .int .i64 p] 51) none)) w4.heap.size t k p rfl (by simp [go_sem]) (by simp [go_sem]) (by simp [go_sem]) RL.out (by have := S4.out; simp; omega) ?_; intro A5 N5 c5 w5 hN own1 gr1; have O5 := Lib.hid own1; have G5 := Lib.hid ((G4.out.trans (World.grownBy_alloc w4 (.cells #[.int .i64 t, .int .i64 k, .int .i64 p] 51) none)).andThen gr1 (fun j hj => .inl (Nat.le_trans G3.out.size (World.ownsRow.lt L4.out j hj).1))); have T5 := Lib.hid ((T4.out.made (World.grownBy_alloc w4 (.cells #[.int .i64 t, .int .i64 k, .int .i64 p] 51) none)).kept gr1 (fun e => by have h1 := (World.ownsRow.lt L4.out _ e.symm).1; have h2 : w.heap.size < w3.heap.size := S3.out; omega)); obtain ⟨q0, q1, q2, q3⟩ := T5.out; clear hN own1 gr1)
    | (go_at_call 12; (with_reducible refine (ST.out _ G5.out).mono ?_); rintro e w6 ⟨D6, rfl, h6, hg⟩; have C6 := Lib.hid h6; have G6 := Lib.hid hg; clear h6 hg))
  go_ret2
  exact ⟨_, D6, rfl, C6.out, (O5.out.kept G6.out (.inr (Lo.far (CC.out.new G5.out) O5.out))).mono (Nat.zero_le _), (G5.out.but _).trans G6.out⟩
theorem step_drop (C : At w c mb n m D) (L : Lo w 0 v m) (t k p : Int) :
    Calls Try.prog 19 #[.pointer (some ⟨c, 0, none⟩), .int .i64 n, v, .agg #[.int .i64 2, .int .i64 t, .int .i64 k, .int .i64 p]] w (SAns c mb n (rest m t 0) w) := by
  have G0 := Lib.hid (World.grownBy_alloc w (.cells #[.int .i64 2, .int .i64 t, .int .i64 k, .int .i64 p] 33) none)
  have T0 := Lib.hid (Four.new w 2 t k p 33)
  have CC := Lib.hid C
  have LL := Lib.hid L
  have few := C.good.few
  have WI := Lib.hid (fun W (hg : w.grownBy W none) => without_any (L.new hg) (by omega) t 0)
  have DR := Lib.hid (fun W (hg : w.grownBy W none) => Drop_any (C.new hg) t)
  have GL := Lib.hid (show (bm.rising (gone m t 0)).length ≤ 64 by have h1 := bm.rising_length (gone m t 0); have h2 := List.length_filter_le (hit t 0) m; unfold gone at h1 ⊢; rw [List.length_map] at h1; omega)
  obtain ⟨u0, u1, u2, u3⟩ := T0.out
  clear C L few
  go_enter Try.func19, Try.ntmps19
  go_wp2_with (first
    | (go_at_call 30; (with_reducible refine (WI.out _ G0.out).mono ?_); rintro e w4 ⟨A, N, k4, B, M, j4, rfl, h1, h2, h3, h4, hg⟩; have L4 := Lib.hid h2; have M4 := Lib.hid h3; have O4 := Lib.hid h4; have G4 := Lib.hid (G0.out.trans hg); have T4 := Lib.hid (T0.out.made hg); obtain ⟨x0, x1, x2, x3⟩ := T4.out; clear h1 h2 h3 h4 hg)
    | (go_at_call 11; (with_reducible refine (DR.out _ G4.out).mono ?_); rintro e w5 ⟨A5, k5, N5, D5, rfl, h1, h2, h3, hg⟩; have N5' := Lib.hid h1; have O5 := Lib.hid h2; have C5 := Lib.hid h3; have G5 := Lib.hid hg; have L5 := Lib.hid (L4.out.kept hg (.inr (Lo.far (CC.out.new G4.out) L4.out))); have P5 := Lib.hid (O4.out.kept hg (.inr (row_far (CC.out.new G4.out) O4.out))); clear h1 h2 h3 hg)
    | (go_at_call 18; (with_reducible refine (bm.Ints_true (bm.rising (gone m t 0)) _ _ _ _ _ _ _ _ _ (by have := GL.out; have := N5'.out; omega) (N5'.out.trans M4.out.symm) (bm.rd_own O5.out) (bm.rd_own P5.out)).mono ?_); rintro e w6 ⟨rfl, hd⟩; have G6 := Lib.hid (show w5.grownBy w6 none by obtain ⟨j, rfl⟩ := hd; exact grown_drewN _ _ _); clear hd))
  go_ret2
  exact ⟨_, D5, rfl, C5.out.new G6.out, (L5.out.new G6.out).mono (Nat.zero_le _), (((G4.out.but _).trans G5.out).trans (G6.out.but _))⟩
theorem step_ask (C : At w c mb n m D) (L : Lo w 0 v m) (q t k p : Int) (ht : fits t = true) (hk : fits k = true) (e1 : (q == 1) = false) (e2 : (q == 2) = false) :
    Calls Try.prog 19 #[.pointer (some ⟨c, 0, none⟩), .int .i64 n, v, .agg #[.int .i64 q, .int .i64 t, .int .i64 k, .int .i64 p]] w (SAns c mb n m w) := by
  have G0 := Lib.hid (World.grownBy_alloc w (.cells #[.int .i64 q, .int .i64 t, .int .i64 k, .int .i64 p] 33) none)
  have T0 := Lib.hid (Four.new w q t k p 33)
  have CC := Lib.hid C
  have LL := Lib.hid L
  have few := C.good.few
  have OW := Lib.hid (fun W (hg : w.grownBy W none) => owner_any (L.new hg) (by omega) ⟨n, C.good⟩ p)
  have PW := Lib.hid (fun W (hg : w.grownBy W none) => Owner_any (C.new hg) p)
  have OP := Lib.hid (fun W (hg : w.grownBy W none) => page_any (L.new hg) (by omega) ⟨n, C.good⟩ t k)
  have PP := Lib.hid (fun W (hg : w.grownBy W none) => Page_any (C.new hg) t k ht hk)
  generalize (owner m p).1 = o1 at OW PW
  generalize (owner m p).2 = o2 at OW PW
  generalize page m t k = pg at OP PP
  have b1 : (o1 == o1) = true := by simp
  have b2 : (o2 == o2) = true := by simp
  have b3 : (pg == pg) = true := by simp
  obtain ⟨u0, u1, u2, u3⟩ := T0.out
  clear C L few ht hk
  go_enter Try.func19, Try.ntmps19
  go_wp2_with (first
    | (go_at_call 28; (with_reducible refine (OW.out _ G2.out).mono ?_); rintro e w3 ⟨rfl, hg⟩; have G3 := Lib.hid (G2.out.trans hg); have T3 := Lib.hid (T2.out.made hg); obtain ⟨y0, y1, y2, y3⟩ := T3.out; have f0 := And.intro y1 y2; clear hg)
    | (go_at_call 13; (with_reducible refine (PW.out _ G0.out).mono ?_); rintro e w2 ⟨rfl, hg⟩; have G2 := Lib.hid (G0.out.trans hg); have T2 := Lib.hid (T0.out.made hg); obtain ⟨v0, v1, v2, v3⟩ := T2.out; clear hg))
  have GX := Lib.hid G3.out
  have TX := Lib.hid T3.out
  go_region_held3 (fun W => W.cell? ⟨w.heap.size, 1, none⟩ = some (.int .i64 t) ∧ W.cell? ⟨w.heap.size, 2, none⟩ = some (.int .i64 k)) (first | exact f0 | go_keep) (first
    | (go_at_call 14; (with_reducible refine (PP.out _ (GX.out.trans (grown_drewN _ _ _))).mono ?_); rintro e wx ⟨rfl, hg⟩; have TX := Lib.hid (TX.out.made ((grown_drewN _ _ _).trans hg)); have GX := Lib.hid (GX.out.trans ((grown_drewN _ _ _).trans hg)); obtain ⟨z0, z1, z2, z3⟩ := TX.out; have f0 := And.intro z1 z2; clear hg)
    | (go_at_call 14; (with_reducible refine (PP.out _ (GX.out.trans (grown_drew _ _))).mono ?_); rintro e wx ⟨rfl, hg⟩; have TX := Lib.hid (TX.out.made ((grown_drew _ _).trans hg)); have GX := Lib.hid (GX.out.trans ((grown_drew _ _).trans hg)); obtain ⟨z0, z1, z2, z3⟩ := TX.out; have f0 := And.intro z1 z2; clear hg)
    | (go_at_call 14; (with_reducible refine (PP.out _ GX.out).mono ?_); rintro e wx ⟨rfl, hg⟩; have TX := Lib.hid (TX.out.made hg); have GX := Lib.hid (GX.out.trans hg); obtain ⟨z0, z1, z2, z3⟩ := TX.out; have f0 := And.intro z1 z2; clear hg)
    | (go_at_call 31; (with_reducible refine (OP.out _ (GX.out.trans (grown_drewN _ _ _))).mono ?_); rintro e wx ⟨rfl, hg⟩; have TX := Lib.hid (TX.out.made ((grown_drewN _ _ _).trans hg)); have GX := Lib.hid (GX.out.trans ((grown_drewN _ _ _).trans hg)); obtain ⟨z0, z1, z2, z3⟩ := TX.out; have f0 := And.intro z1 z2; clear hg)
    | (go_at_call 31; (with_reducible refine (OP.out _ (GX.out.trans (grown_drew _ _))).mono ?_); rintro e wx ⟨rfl, hg⟩; have TX := Lib.hid (TX.out.made ((grown_drew _ _).trans hg)); have GX := Lib.hid (GX.out.trans ((grown_drew _ _).trans hg)); obtain ⟨z0, z1, z2, z3⟩ := TX.out; have f0 := And.intro z1 z2; clear hg)
    | (go_at_call 31; (with_reducible refine (OP.out _ GX.out).mono ?_); rintro e wx ⟨rfl, hg⟩; have TX := Lib.hid (TX.out.made hg); have GX := Lib.hid (GX.out.trans hg); obtain ⟨z0, z1, z2, z3⟩ := TX.out; have f0 := And.intro z1 z2; clear hg))
  all_goals
    go_wp2
    go_ret2
    exact ⟨_, _, rfl, CC.out.new GX.out, LL.out.new GX.out, GX.out.but _⟩
end
end Go.Proofs.Ytagahkofjgbfhaa.ca
