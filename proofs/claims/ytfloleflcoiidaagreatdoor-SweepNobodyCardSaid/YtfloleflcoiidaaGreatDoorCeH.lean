/- What a heap of cells that nobody made answers. -/
import Derived.Test.YtfloleflcoiidaaGreatDoorCeU
namespace Go.Proofs.YtfloleflcoiidaaGreatDoor.ce
open Go.ChangeShapes Go.WideShapes Go.ChangeAt Go.RowKit gen calls cls geos
set_option linter.unusedVariables false
set_option maxHeartbeats 4000000
set_option maxRecDepth 100000
/-- A pointer to nothing that New made. -/
def Nob (w : World) (p : Option Addr) : Prop := p = none ∨ ∃ c, p = some ⟨c, 0, none⟩ ∧ w.cell? ⟨c, 0, none⟩ = some (.pointer none)
theorem Nob.kept {w w' : World} {p : Option Addr} (h : Nob w p) (hg : w.grownBy w' none) : Nob w' p := by
  rcases h with h | ⟨c, h1, h2⟩
  · exact .inl h
  · exact .inr ⟨c, h1, hg.cell h2 (by simp)⟩
/-- A heap that has nothing. -/
structure Zh (w : World) (h : Nat) : Prop where
  h0 : w.cell? ⟨h, 0, none⟩ = some (.pointer none)
  h1 : w.cell? ⟨h, 1, none⟩ = some (.pointer none)
  hs : w.cell? ⟨h, 130, none⟩ = some (.pointer none)
theorem Zh.kept {w w' : World} {h : Nat} (H : Zh w h) (hg : w.grownBy w' none) : Zh w' h := ⟨hg.cell H.h0 (by simp), hg.cell H.h1 (by simp), hg.cell H.hs (by simp)⟩
theorem Zh.new (w : World) {B : Nat} (hB : w.heap.size = B) : Zh (w.alloc (.cells Tryz.zeroCells102 102)) B := by
  subst hB
  have e := heap_alloc_new w (.cells Tryz.zeroCells102 102)
  rw [zero_len] at e ⊢
  exact ⟨by rw [cell_of_row _ _ 0 _ _ _ e]; rfl, by rw [cell_of_row _ _ 1 _ _ _ e]; rfl, by rw [cell_of_row _ _ 130 _ _ _ e]; rfl⟩
theorem made_nob {p : Option Addr} {w : World} (hn : Nob w p) : Calls Tryz.prog 67 #[.pointer p] w fun e w' => ∃ h, e = .returned (.pointer (some ⟨h, 0, none⟩)) ∧ Zh w' h ∧ w.grownBy w' none := by
  rcases hn with rfl | ⟨c, rfl, hc⟩
  · go_enter Tryz.func67, Tryz.ntmps67
    go_wp2
    go_ret
    exact ⟨_, rfl, Zh.new w rfl, World.grownBy_alloc _ _ _⟩
  · go_enter Tryz.func67, Tryz.ntmps67
    go_wp2
    go_ret
    exact ⟨_, rfl, Zh.new w rfl, World.grownBy_alloc _ _ _⟩
theorem pn (w : World) : pg.Nobody w none := .inl rfl
theorem mn (w : World) : mm.Nobody w none := .inl rfl
theorem left_nob {h : Nat} {w : World} (H : Zh w h) (p : Int) :
    Calls Tryz.prog 96 #[.pointer (some ⟨h, 0, none⟩), .int .i64 p] w fun e w' => e = agg2 0 0 ∧ w.grownBy w' none := by
  have D := Lib.hid (ch.Two.new w 99 0 0 rfl)
  have f := (H.kept (World.grownBy_alloc w (.cells #[.int .i64 0, .int .i64 0] 99) none)).h0
  obtain ⟨d0, d1, d2, d3⟩ := D.out
  have c0 : cl (-1) = 0 := rfl
  clear H
  go_enter Tryz.func96, Tryz.ntmps96
  go_wp2_with (first
    | (go_at_call 95; (with_reducible refine (pg.Kind_nobody (pn _) p).mono ?_); rintro e w' ⟨rfl, rfl⟩)
    | (go_at_call 77; (with_reducible refine (cells_any (-1) _ rfl).mono ?_); rintro e w' ⟨rfl, rfl⟩; rw [c0]))
  refine bodyPost_ret (v := .agg #[.int .i64 0, .int .i64 0]) ?_ rfl ⟨rfl, World.grownBy_alloc _ _ _⟩
  simp [results, Tryz.results96, go_sem, *]
theorem there_nob (v : Value) (p : Int) (w : World) (hp : fits p = true) :
    Calls Tryz.prog 159 #[v, .int .i64 p, .int .i64 (-1)] w fun e w' => e = bool1 false ∧ w = w' := by
  have HP := Lib.hid hp
  have c0 : cl (-1) = 0 := rfl
  clear hp
  cases he : enk p 1
  all_goals
    go_enter Tryz.func159, Tryz.ntmps159
    go_wp2_with (first
      | (go_at_call 135; (with_reducible refine (ends_any _ _ _ HP.out rfl).mono ?_); rintro e w' ⟨rfl, rfl⟩; rw [he])
      | (go_at_call 77; (with_reducible refine (cells_any (-1) _ rfl).mono ?_); rintro e w' ⟨rfl, rfl⟩; rw [c0]))
    go_ret
    exact ⟨rfl, rfl⟩
theorem chTake_nob (v : Value) (p : Int) (w : World) (hp : fits p = true) :
    Calls Tryz.prog 141 #[v, .int .i64 p, .int .i64 (-1), .agg #[.int .i64 0, .int .i64 0]] w fun e w' => e = ch.ansT 0 0 0 false ∧ w.grownBy w' none := by
  have TH := Lib.hid (fun w => there_nob v p w hp)
  clear hp
  go_enter Tryz.func141, Tryz.ntmps141
  go_wp2_with (go_at_call 159; (with_reducible refine (TH.out _).mono ?_); rintro e w' ⟨rfl, rfl⟩)
  refine bodyPost_ret (v := .tuple #[.int .i64 0, .agg #[.int .i64 0, .int .i64 0], .bool false]) ?_ rfl ⟨rfl, ch.grown_two _ _ _⟩
  simp [results, Tryz.results141, go_sem, *]
theorem Carve_nob {P : Option Addr} {w : World} (hn : Nob w P) :
    Calls Tryz.prog 119 #[.pointer P, .int .i64 1] w fun e w' => e = rI 0 false ∧ w.grownBy w' none := by
  have HN := Lib.hid hn
  clear hn
  go_enter Tryz.func119, Tryz.ntmps119
  go_wp2_with (first
    | (go_at_call 67; (with_reducible refine (made_nob HN.out).mono ?_); rintro e w1 ⟨h, rfl, hz, hg⟩; have Z1 := Lib.hid hz; have G1 := Lib.hid hg; have f0 := hz.h0; have f1 := hz.h1; have f2 := hz.hs; clear hz hg)
    | (go_at_call 139; (with_reducible refine (pg.Take_none (k := 1) (by omega) (pg.lowest_nobody (pn _) 1)).mono ?_); rintro e w2 ⟨rfl, hg⟩; have G2 := Lib.hid (G1.out.trans hg); clear hg))
  go_ret2
  exact ⟨rfl, G2.out⟩
theorem Large_nob {P : Option Addr} {w : World} (hn : Nob w P) :
    Calls Tryz.prog 113 #[.pointer P, .int .i64 1] w fun e w' => e = rI 0 false ∧ w.grownBy w' none := by
  have HN := Lib.hid hn
  clear hn
  go_enter Tryz.func113, Tryz.ntmps113
  go_wp2_with (first
    | (go_at_call 67; (with_reducible refine (made_nob HN.out).mono ?_); rintro e w1 ⟨h, rfl, hz, hg⟩; have Z1 := Lib.hid hz; have G1 := Lib.hid hg; have f0 := hz.h0; have f1 := hz.h1; have f2 := hz.hs; clear hz hg)
    | (go_at_call 134; (with_reducible refine (pg.Span_none (n := 1) (by omega) (pg.lowest_nobody (pn _) 1)).mono ?_); rintro e w2 ⟨rfl, hg⟩; have G2 := Lib.hid (G1.out.trans hg); clear hg))
  go_ret2
  exact ⟨rfl, G2.out⟩
theorem Load_nob {P : Option Addr} {w : World} (hn : Nob w P) (a : Int) :
    Calls Tryz.prog 85 #[.pointer P, .int .i64 a] w fun e w' => e = rI 0 false ∧ w.grownBy w' none := by
  have HN := Lib.hid hn
  clear hn
  go_enter Tryz.func85, Tryz.ntmps85
  go_wp2_with (first
    | (go_at_call 67; (with_reducible refine (made_nob HN.out).mono ?_); rintro e w1 ⟨h, rfl, hz, hg⟩; have Z1 := Lib.hid hz; have G1 := Lib.hid hg; have f0 := hz.h0; have f1 := hz.h1; have f2 := hz.hs; clear hz hg)
    | (go_at_call 122; (with_reducible refine (mm.Load_nobody (mn _) a).mono ?_); rintro e w' ⟨rfl, rfl⟩))
  go_ret2
  exact ⟨rfl, G1.out⟩
theorem Give_nob {P : Option Addr} {w : World} (hn : Nob w P) (a : Int) :
    Calls Tryz.prog 107 #[.pointer P, .int .i64 a] w fun e w' => e = bool1 false ∧ w.grownBy w' none := by
  have HN := Lib.hid hn
  clear hn
  go_enter Tryz.func107, Tryz.ntmps107
  go_wp2_with (first
    | (go_at_call 67; (with_reducible refine (made_nob HN.out).mono ?_); rintro e w1 ⟨h, rfl, hz, hg⟩; have Z1 := Lib.hid hz; have G1 := Lib.hid hg; have f0 := hz.h0; have f1 := hz.h1; have f2 := hz.hs; clear hz hg)
    | (go_at_call 106; (with_reducible refine (bm.Remove_out _ _ _ (bm.place_nil _ _)).mono ?_); rintro e w' ⟨rfl, hw⟩; subst hw))
  go_ret
  exact ⟨rfl, G1.out⟩
theorem Drop_nob {P : Option Addr} {w : World} (hn : Nob w P) (a : Int) :
    Calls Tryz.prog 62 #[.pointer P, .int .i64 a] w fun e w' => e = bool1 false ∧ w.grownBy w' none := by
  have HN := Lib.hid hn
  have c0 : cl (-1) = 0 := rfl
  clear hn
  go_enter Tryz.func62, Tryz.ntmps62
  go_wp2_with (first
    | (go_at_call 67; (with_reducible refine (made_nob HN.out).mono ?_); rintro e w1 ⟨h, rfl, hz, hg⟩; have Z1 := Lib.hid hz; have G1 := Lib.hid hg; have f0 := hz.h0; have f1 := hz.h1; have f2 := hz.hs; clear hz hg)
    | (go_at_call 95; (with_reducible refine (pg.Kind_nobody (pn _) _).mono ?_); rintro e w' ⟨rfl, rfl⟩)
    | (go_at_call 77; (with_reducible refine (cells_any (-1) _ rfl).mono ?_); rintro e w' ⟨rfl, rfl⟩; rw [c0]))
  go_ret
  exact ⟨rfl, G1.out⟩
theorem Is_nob {P : Option Addr} {w : World} (hn : Nob w P) (a : Int) :
    Calls Tryz.prog 84 #[.pointer P, .int .i64 a] w fun e w' => e = bool1 false ∧ w.grownBy w' none := by
  have HN := Lib.hid hn
  clear hn
  go_enter Tryz.func84, Tryz.ntmps84
  go_wp2_with (first
    | (go_at_call 67; (with_reducible refine (made_nob HN.out).mono ?_); rintro e w1 ⟨h, rfl, hz, hg⟩; have Z1 := Lib.hid hz; have G1 := Lib.hid hg; have f0 := hz.h0; have f1 := hz.h1; have f2 := hz.hs; clear hz hg)
    | (go_at_call 53; (with_reducible refine (bm.Has_out _ _ _ (bm.place_nil _ _)).mono ?_); rintro e w' ⟨rfl, hw⟩; subst hw))
  go_ret
  exact ⟨rfl, G1.out⟩
theorem Left_nob {P : Option Addr} {w : World} (hn : Nob w P) (a : Int) :
    Calls Tryz.prog 118 #[.pointer P, .int .i64 a] w fun e w' => e = int1 0 ∧ w.grownBy w' none := by
  have HN := Lib.hid hn
  have QF := field_n 0 0
  clear hn
  go_enter Tryz.func118, Tryz.ntmps118
  go_wp2_with (first
    | (go_at_call 67; (with_reducible refine (made_nob HN.out).mono ?_); rintro e w1 ⟨h, rfl, hz, hg⟩; have Z1 := Lib.hid hz; have G1 := Lib.hid hg; have f0 := hz.h0; have f1 := hz.h1; have f2 := hz.hs; clear hz hg)
    | (go_at_call 96; (with_reducible refine (left_nob Z1.out a).mono ?_); rintro e w2 ⟨rfl, hg⟩; have G2 := Lib.hid (G1.out.trans hg); clear hg))
  go_ret
  exact ⟨rfl, G2.out⟩
theorem Kind_nob {P : Option Addr} {w : World} (hn : Nob w P) (a : Int) :
    Calls Tryz.prog 117 #[.pointer P, .int .i64 a] w fun e w' => e = int1 (-1) ∧ w.grownBy w' none := by
  have HN := Lib.hid hn
  clear hn
  go_enter Tryz.func117, Tryz.ntmps117
  go_wp2_with (first
    | (go_at_call 67; (with_reducible refine (made_nob HN.out).mono ?_); rintro e w1 ⟨h, rfl, hz, hg⟩; have Z1 := Lib.hid hz; have G1 := Lib.hid hg; have f0 := hz.h0; have f1 := hz.h1; have f2 := hz.hs; clear hz hg)
    | (go_at_call 95; (with_reducible refine (pg.Kind_nobody (pn _) _).mono ?_); rintro e w' ⟨rfl, rfl⟩))
  go_ret
  exact ⟨rfl, G1.out⟩
theorem Free_nob {P : Option Addr} {w : World} (hn : Nob w P) :
    Calls Tryz.prog 65 #[.pointer P] w fun e w' => e = int1 0 ∧ w.grownBy w' none := by
  have HN := Lib.hid hn
  clear hn
  go_enter Tryz.func65, Tryz.ntmps65
  go_wp2_with (first
    | (go_at_call 67; (with_reducible refine (made_nob HN.out).mono ?_); rintro e w1 ⟨h, rfl, hz, hg⟩; have Z1 := Lib.hid hz; have G1 := Lib.hid hg; have f0 := hz.h0; have f1 := hz.h1; have f2 := hz.hs; clear hz hg)
    | (go_at_call 74; (with_reducible refine (pg.Count_nobody (pn _)).mono ?_); rintro e w2 ⟨rfl, hg⟩; have G2 := Lib.hid (G1.out.trans hg); clear hg))
  go_ret
  exact ⟨rfl, G2.out⟩
theorem All_nob {P : Option Addr} {w : World} (hn : Nob w P) :
    Calls Tryz.prog 39 #[.pointer P] w fun e w' => e = .returned (.slice none 0 0) ∧ w.grownBy w' none := by
  have HN := Lib.hid hn
  clear hn
  go_enter Tryz.func39, Tryz.ntmps39
  go_wp2_with (first
    | (go_at_call 67; (with_reducible refine (made_nob HN.out).mono ?_); rintro e w1 ⟨h, rfl, hz, hg⟩; have Z1 := Lib.hid hz; have G1 := Lib.hid hg; have f0 := hz.h0; have f1 := hz.h1; have f2 := hz.hs; clear hz hg)
    | (go_at_call 37; (with_reducible refine (bm.All_nil _).mono ?_); rintro e w' ⟨rfl, hw⟩; subst hw))
  go_ret
  exact ⟨rfl, G1.out⟩
theorem Base_nob {P : Option Addr} {w : World} (hn : Nob w P) (a : Int) :
    Calls Tryz.prog 164 #[.pointer P, .int .i64 a] w fun e w' => e = int1 (-1) ∧ w.grownBy w' none := by
  have HN := Lib.hid hn
  have PG := Lib.hid (fun w => (page_any a w).mono fun e w' ⟨h1, h2⟩ => (⟨h1, h2.symm⟩ : e = int1 (pgOf a) ∧ w' = w))
  have FF := Lib.hid (fun w p => (pg.First_nobody (pn w) p).mono fun e w' ⟨h1, h2⟩ => (⟨h1, h2.symm⟩ : e = int1 (-1) ∧ w' = w))
  have e0 : enk (-1) 1 = false := rfl
  clear hn
  generalize pgOf a = pa at *
  go_enter Tryz.func164, Tryz.ntmps164
  go_wp2_with (first
    | (go_at_call 67; (with_reducible refine (made_nob HN.out).mono ?_); rintro e w1 ⟨h, rfl, hz, hg⟩; have Z1 := Lib.hid hz; have G1 := Lib.hid hg; have f0 := hz.h0; have f1 := hz.h1; have f2 := hz.hs; clear hz hg))
  go_quiet (first
    | (go_at_call 68; refine Calls.quiet_of_same (PG.out _))
    | (go_at_call 174; refine Calls.quiet_of_same (FF.out _ _)))
  go_wp2_with (go_at_call 135; (with_reducible refine (ends_any (-1) 1 _ rfl rfl).mono ?_); rintro e w' ⟨rfl, rfl⟩; rw [e0])
  go_ret
  exact ⟨rfl, G1.out.trans (bm.grown_drewN _ _ _)⟩
theorem Store_nob {P : Option Addr} {w : World} (hn : Nob w P) (a v : Int) :
    Calls Tryz.prog 138 #[.pointer P, .int .i64 a, .int .i64 v] w fun e w' => e = bool1 false ∧ w.grownBy w' none := by
  have HN := Lib.hid hn
  clear hn
  go_enter Tryz.func138, Tryz.ntmps138
  go_wp2_with (go_at_call 164; (with_reducible refine (Base_nob HN.out a).mono ?_); rintro e w2 ⟨rfl, hg⟩; have G2 := Lib.hid hg; clear hg)
  go_ret
  exact ⟨rfl, G2.out⟩
/-- Where Take's answer from nothing is told. -/
def Tkz (w : World) (vi vp vo : Value) (wx : World) : Prop :=
  ∃ B, vi = .int .i64 0 ∧ vp = .pointer (some ⟨B, 0, none⟩) ∧ vo = .bool false ∧ ch.Two wx B 0 0 ∧ w.grownBy wx none
theorem Take_nob {P : Option Addr} {w : World} (hn : Nob w P) (p : Int) (hp : fits p = true) :
    Calls Tryz.prog 121 #[.pointer P, .int .i64 p] w fun e w' => e = rI 0 false ∧ w.grownBy w' none := by
  have HN := Lib.hid hn
  have T := Lib.hid (fun W => chTake_nob (.pointer none) p W hp)
  clear hn hp
  go_enter Tryz.func121, Tryz.ntmps121
  go_wp2_with (first
    | (go_at_call 67; (with_reducible refine (made_nob HN.out).mono ?_); rintro e w1 ⟨h, rfl, hz, hg⟩; have Z1 := Lib.hid hz; have G1 := Lib.hid hg; have f0 := hz.h0; have f1 := hz.h1; have f2 := hz.hs; clear hz hg)
    | (go_at_call 95; (with_reducible refine (pg.Kind_nobody (pn _) _).mono ?_); rintro e w' ⟨rfl, rfl⟩))
  have HL := Lib.hid (show h < w1.heap.size from World.block_lt_of_cell? w1 _ f0)
  have C := Lib.hid (fun W (hg : w1.grownBy W none) => (Z1.out.kept hg).h1)
  have L := Lib.hid (fun W (hg : w1.grownBy W none) => left_nob (Z1.out.kept hg) p)
  go_region_held3 (fun W => W.cell? ⟨h, 1, none⟩ = some (.pointer none)) (first | go_keep | exact f4 | exact f3 | exact keep_two f3 (by have := HB3.out; have := HL.out; show h ≠ _; omega) _ _) (first
    | (have mark := D2; go_at_call 141; (with_reducible refine (T.out _).mono ?_); rintro e w3 ⟨rfl, hg⟩; have G3 := Lib.hid (G2.out.trans hg); have f3 := C.out _ G3.out; have D3 := Lib.hid (D2.out.kept hg (by simp)); obtain ⟨d0, d1, d2, d3⟩ := D3.out; have HB3 := Lib.hid HB2.out; clear hg)
    | (go_at_call 141; (with_reducible refine (T.out w2).mono ?_); rintro e w3 ⟨rfl, hg⟩; have G3 := Lib.hid (G2.out.trans hg); have f3 := C.out _ G3.out; clear hg)
    | (go_at_call 141; (with_reducible refine (T.out _).mono ?_); rintro e w3 ⟨rfl, hg⟩; have G3 := Lib.hid ((ch.grown_alloc2 G2.out (.cells #[.int .i64 0, .int .i64 0] 99)).trans hg); have f3 := C.out _ G3.out; have D3 := Lib.hid ((ch.Two.new w2 99 0 0 rfl).kept hg (by simp)); obtain ⟨d0, d1, d2, d3⟩ := D3.out; have HB3 := Lib.hid (show w1.heap.size ≤ w2.heap.size from G2.out.size); clear hg)
    | (go_at_call 96; (with_reducible refine (L.out _ (ch.grown_drew _ _)).mono ?_); rintro e w2 ⟨rfl, hg⟩; have G2 := Lib.hid ((ch.grown_drew w1 none).trans hg); have f4 := C.out _ G2.out; clear hg)
    | (go_at_call 96; (with_reducible refine (L.out _ ((World.grownBy_alloc w1 (.cells #[.int .i64 0, .int .i64 0] 99) none).trans (ch.grown_drew _ none))).mono ?_); rintro e w2 ⟨rfl, hg⟩; have G2 := Lib.hid (((World.grownBy_alloc w1 (.cells #[.int .i64 0, .int .i64 0] 99) none).trans (ch.grown_drew _ none)).trans hg); have D2 := Lib.hid (((ch.Two.new w1 99 0 0 rfl).kept (ch.grown_drew _ none) (by simp)).kept hg (by simp)); have HB2 := Lib.hid (Nat.le_refl w1.heap.size); have f4 := C.out _ G2.out; clear hg))
  all_goals
    go_wp2
    go_ret2
    first | exact ⟨rfl, G1.out.trans (ch.grown_alloc2 G3.out _)⟩ | exact ⟨rfl, G1.out.trans (ch.grown_setc (ch.grown_setc G3.out HB3.out _ _) HB3.out _ _)⟩
end Go.Proofs.YtfloleflcoiidaaGreatDoor.ce
