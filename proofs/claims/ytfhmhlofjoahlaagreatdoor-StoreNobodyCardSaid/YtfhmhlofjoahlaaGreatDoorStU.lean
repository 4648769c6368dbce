/- Joined: CeH, CaN, StV, StW. -/
import Derived.Test.YtfhmhlofjoahlaaGreatDoorCeG
import Derived.Test.YtfhmhlofjoahlaaGreatDoorCaF
import Derived.Test.YtfhmhlofjoahlaaGreatDoorStG
import Derived.OwnWalk
import Derived.Test.YtfhmhlofjoahlaaGreatDoorStT
/- What a heap of cells that nobody made answers. -/
namespace Go.Proofs.YtfhmhlofjoahlaaGreatDoor.ce
open Go.ChangeShapes Go.WideShapes Go.ChangeAt Go.RowKit gen calls cls geos
set_option linter.unusedVariables false
set_option maxHeartbeats 4000000
set_option maxRecDepth 100000
/-- A pointer to nothing that New made. -/
def Nob (w : World) (p : Option Addr) : Prop := p = none ∨ ∃ c, p = some ⟨c, 0, none⟩ ∧ w.cell? ⟨c, 0, none⟩ = some (.pointer none)
theorem Nob.kept {w w' : World} {p : Option Addr} (h : Nob w p) (hg : w.grownBy w' none) : Nob w' p := by
  rcases h with h | ⟨c, h1, h2⟩
  · exact .inl h
  · exact .inr ⟨c, h1, hg.cell h2 (by simp)⟩
/-- A heap that has nothing. -/
structure Zh (w : World) (h : Nat) : Prop where
  h0 : w.cell? ⟨h, 0, none⟩ = some (.pointer none)
  h1 : w.cell? ⟨h, 1, none⟩ = some (.pointer none)
  hs : w.cell? ⟨h, 130, none⟩ = some (.pointer none)
theorem Zh.kept {w w' : World} {h : Nat} (H : Zh w h) (hg : w.grownBy w' none) : Zh w' h := ⟨hg.cell H.h0 (by simp), hg.cell H.h1 (by simp), hg.cell H.hs (by simp)⟩
theorem Zh.new (w : World) {B : Nat} (hB : w.heap.size = B) : Zh (w.alloc (.cells Tryz.zeroCells78 78)) B := by
  subst hB
  have e := heap_alloc_new w (.cells Tryz.zeroCells78 78)
  rw [zero_len] at e ⊢
  exact ⟨by rw [cell_of_row _ _ 0 _ _ _ e]; rfl, by rw [cell_of_row _ _ 1 _ _ _ e]; rfl, by rw [cell_of_row _ _ 130 _ _ _ e]; rfl⟩
theorem made_nob {p : Option Addr} {w : World} (hn : Nob w p) : Calls Tryz.prog 52 #[.pointer p] w fun e w' => ∃ h, e = .returned (.pointer (some ⟨h, 0, none⟩)) ∧ Zh w' h ∧ w.grownBy w' none := by
  rcases hn with rfl | ⟨c, rfl, hc⟩
  · go_enter Tryz.func52, Tryz.ntmps52
    go_wp2
    go_ret
    exact ⟨_, rfl, Zh.new w rfl, World.grownBy_alloc _ _ _⟩
  · go_enter Tryz.func52, Tryz.ntmps52
    go_wp2
    go_ret
    exact ⟨_, rfl, Zh.new w rfl, World.grownBy_alloc _ _ _⟩
theorem pn (w : World) : pg.Nobody w none := .inl rfl
theorem mn (w : World) : mm.Nobody w none := .inl rfl
theorem left_nob {h : Nat} {w : World} (H : Zh w h) (p : Int) :
    Calls Tryz.prog 63 #[.pointer (some ⟨h, 0, none⟩), .int .i64 p] w fun e w' => e = agg2 0 0 ∧ w.grownBy w' none := by
  have D := Lib.hid (ch.Two.new w 74 0 0 rfl)
  have f := (H.kept (World.grownBy_alloc w (.cells #[.int .i64 0, .int .i64 0] 74) none)).h0
  obtain ⟨d0, d1, d2, d3⟩ := D.out
  have c0 : cl (-1) = 0 := rfl
  clear H
  go_enter Tryz.func63, Tryz.ntmps63
  go_wp2_with (first
    | (go_at_call 56; (with_reducible refine (pg.Kind_nobody (pn _) p).mono ?_); rintro e w' ⟨rfl, rfl⟩)
    | (go_at_call 48; (with_reducible refine (cells_any (-1) _ rfl).mono ?_); rintro e w' ⟨rfl, rfl⟩; rw [c0]))
  refine bodyPost_ret (v := .agg #[.int .i64 0, .int .i64 0]) ?_ rfl ⟨rfl, World.grownBy_alloc _ _ _⟩
  simp [results, Tryz.results63, go_sem, *]
theorem there_nob (v : Value) (p : Int) (w : World) (hp : fits p = true) :
    Calls Tryz.prog 89 #[v, .int .i64 p, .int .i64 (-1)] w fun e w' => e = bool1 false ∧ w = w' := by
  have HP := Lib.hid hp
  have c0 : cl (-1) = 0 := rfl
  clear hp
  cases he : enk p 1
  all_goals
    go_enter Tryz.func89, Tryz.ntmps89
    go_wp2_with (first
      | (go_at_call 93; (with_reducible refine (ends_any _ _ _ HP.out rfl).mono ?_); rintro e w' ⟨rfl, rfl⟩; rw [he])
      | (go_at_call 48; (with_reducible refine (cells_any (-1) _ rfl).mono ?_); rintro e w' ⟨rfl, rfl⟩; rw [c0]))
    go_ret
    exact ⟨rfl, rfl⟩
theorem chTake_nob (v : Value) (p : Int) (w : World) (hp : fits p = true) :
    Calls Tryz.prog 73 #[v, .int .i64 p, .int .i64 (-1), .agg #[.int .i64 0, .int .i64 0]] w fun e w' => e = ch.ansT 0 0 0 false ∧ w.grownBy w' none := by
  have TH := Lib.hid (fun w => there_nob v p w hp)
  clear hp
  go_enter Tryz.func73, Tryz.ntmps73
  go_wp2_with (go_at_call 89; (with_reducible refine (TH.out _).mono ?_); rintro e w' ⟨rfl, rfl⟩)
  refine bodyPost_ret (v := .tuple #[.int .i64 0, .agg #[.int .i64 0, .int .i64 0], .bool false]) ?_ rfl ⟨rfl, ch.grown_two _ _ _⟩
  simp [results, Tryz.results73, go_sem, *]
theorem Carve_nob {P : Option Addr} {w : World} (hn : Nob w P) :
    Calls Tryz.prog 81 #[.pointer P, .int .i64 1] w fun e w' => e = rI 0 false ∧ w.grownBy w' none := by
  have HN := Lib.hid hn
  clear hn
  go_enter Tryz.func81, Tryz.ntmps81
  go_wp2_with (first
    | (go_at_call 52; (with_reducible refine (made_nob HN.out).mono ?_); rintro e w1 ⟨h, rfl, hz, hg⟩; have Z1 := Lib.hid hz; have G1 := Lib.hid hg; have f0 := hz.h0; have f1 := hz.h1; have f2 := hz.hs; clear hz hg)
    | (go_at_call 104; (with_reducible refine (pg.Take_none (k := 1) (by omega) (pg.lowest_nobody (pn _) 1)).mono ?_); rintro e w2 ⟨rfl, hg⟩; have G2 := Lib.hid (G1.out.trans hg); clear hg))
  go_ret2
  exact ⟨rfl, G2.out⟩
theorem Large_nob {P : Option Addr} {w : World} (hn : Nob w P) :
    Calls Tryz.prog 78 #[.pointer P, .int .i64 1] w fun e w' => e = rI 0 false ∧ w.grownBy w' none := by
  have HN := Lib.hid hn
  clear hn
  go_enter Tryz.func78, Tryz.ntmps78
  go_wp2_with (first
    | (go_at_call 52; (with_reducible refine (made_nob HN.out).mono ?_); rintro e w1 ⟨h, rfl, hz, hg⟩; have Z1 := Lib.hid hz; have G1 := Lib.hid hg; have f0 := hz.h0; have f1 := hz.h1; have f2 := hz.hs; clear hz hg)
    | (go_at_call 102; (with_reducible refine (pg.Span_none (n := 1) (by omega) (pg.lowest_nobody (pn _) 1)).mono ?_); rintro e w2 ⟨rfl, hg⟩; have G2 := Lib.hid (G1.out.trans hg); clear hg))
  go_ret2
  exact ⟨rfl, G2.out⟩
theorem Load_nob {P : Option Addr} {w : World} (hn : Nob w P) (a : Int) :
    Calls Tryz.prog 27 #[.pointer P, .int .i64 a] w fun e w' => e = rI 0 false ∧ w.grownBy w' none := by
  have HN := Lib.hid hn
  clear hn
  go_enter Tryz.func27, Tryz.ntmps27
  go_wp2_with (first
    | (go_at_call 52; (with_reducible refine (made_nob HN.out).mono ?_); rintro e w1 ⟨h, rfl, hz, hg⟩; have Z1 := Lib.hid hz; have G1 := Lib.hid hg; have f0 := hz.h0; have f1 := hz.h1; have f2 := hz.hs; clear hz hg)
    | (go_at_call 53; (with_reducible refine (mm.Load_nobody (mn _) a).mono ?_); rintro e w' ⟨rfl, rfl⟩))
  go_ret2
  exact ⟨rfl, G1.out⟩
theorem Give_nob {P : Option Addr} {w : World} (hn : Nob w P) (a : Int) :
    Calls Tryz.prog 29 #[.pointer P, .int .i64 a] w fun e w' => e = bool1 false ∧ w.grownBy w' none := by
  have HN := Lib.hid hn
  clear hn
  go_enter Tryz.func29, Tryz.ntmps29
  go_wp2_with (first
    | (go_at_call 52; (with_reducible refine (made_nob HN.out).mono ?_); rintro e w1 ⟨h, rfl, hz, hg⟩; have Z1 := Lib.hid hz; have G1 := Lib.hid hg; have f0 := hz.h0; have f1 := hz.h1; have f2 := hz.hs; clear hz hg)
    | (go_at_call 55; (with_reducible refine (bm.Remove_out _ _ _ (bm.place_nil _ _)).mono ?_); rintro e w' ⟨rfl, hw⟩; subst hw))
  go_ret
  exact ⟨rfl, G1.out⟩
theorem Drop_nob {P : Option Addr} {w : World} (hn : Nob w P) (a : Int) :
    Calls Tryz.prog 32 #[.pointer P, .int .i64 a] w fun e w' => e = bool1 false ∧ w.grownBy w' none := by
  have HN := Lib.hid hn
  have c0 : cl (-1) = 0 := rfl
  clear hn
  go_enter Tryz.func32, Tryz.ntmps32
  go_wp2_with (first
    | (go_at_call 52; (with_reducible refine (made_nob HN.out).mono ?_); rintro e w1 ⟨h, rfl, hz, hg⟩; have Z1 := Lib.hid hz; have G1 := Lib.hid hg; have f0 := hz.h0; have f1 := hz.h1; have f2 := hz.hs; clear hz hg)
    | (go_at_call 56; (with_reducible refine (pg.Kind_nobody (pn _) _).mono ?_); rintro e w' ⟨rfl, rfl⟩)
    | (go_at_call 48; (with_reducible refine (cells_any (-1) _ rfl).mono ?_); rintro e w' ⟨rfl, rfl⟩; rw [c0]))
  go_ret
  exact ⟨rfl, G1.out⟩
theorem Is_nob {P : Option Addr} {w : World} (hn : Nob w P) (a : Int) :
    Calls Tryz.prog 64 #[.pointer P, .int .i64 a] w fun e w' => e = bool1 false ∧ w.grownBy w' none := by
  have HN := Lib.hid hn
  clear hn
  go_enter Tryz.func64, Tryz.ntmps64
  go_wp2_with (first
    | (go_at_call 52; (with_reducible refine (made_nob HN.out).mono ?_); rintro e w1 ⟨h, rfl, hz, hg⟩; have Z1 := Lib.hid hz; have G1 := Lib.hid hg; have f0 := hz.h0; have f1 := hz.h1; have f2 := hz.hs; clear hz hg)
    | (go_at_call 94; (with_reducible refine (bm.Has_out _ _ _ (bm.place_nil _ _)).mono ?_); rintro e w' ⟨rfl, hw⟩; subst hw))
  go_ret
  exact ⟨rfl, G1.out⟩
theorem Left_nob {P : Option Addr} {w : World} (hn : Nob w P) (a : Int) :
    Calls Tryz.prog 80 #[.pointer P, .int .i64 a] w fun e w' => e = int1 0 ∧ w.grownBy w' none := by
  have HN := Lib.hid hn
  have QF := field_n 0 0
  clear hn
  go_enter Tryz.func80, Tryz.ntmps80
  go_wp2_with (first
    | (go_at_call 52; (with_reducible refine (made_nob HN.out).mono ?_); rintro e w1 ⟨h, rfl, hz, hg⟩; have Z1 := Lib.hid hz; have G1 := Lib.hid hg; have f0 := hz.h0; have f1 := hz.h1; have f2 := hz.hs; clear hz hg)
    | (go_at_call 63; (with_reducible refine (left_nob Z1.out a).mono ?_); rintro e w2 ⟨rfl, hg⟩; have G2 := Lib.hid (G1.out.trans hg); clear hg))
  go_ret
  exact ⟨rfl, G2.out⟩
theorem Kind_nob {P : Option Addr} {w : World} (hn : Nob w P) (a : Int) :
    Calls Tryz.prog 38 #[.pointer P, .int .i64 a] w fun e w' => e = int1 (-1) ∧ w.grownBy w' none := by
  have HN := Lib.hid hn
  clear hn
  go_enter Tryz.func38, Tryz.ntmps38
  go_wp2_with (first
    | (go_at_call 52; (with_reducible refine (made_nob HN.out).mono ?_); rintro e w1 ⟨h, rfl, hz, hg⟩; have Z1 := Lib.hid hz; have G1 := Lib.hid hg; have f0 := hz.h0; have f1 := hz.h1; have f2 := hz.hs; clear hz hg)
    | (go_at_call 56; (with_reducible refine (pg.Kind_nobody (pn _) _).mono ?_); rintro e w' ⟨rfl, rfl⟩))
  go_ret
  exact ⟨rfl, G1.out⟩
theorem Free_nob {P : Option Addr} {w : World} (hn : Nob w P) :
    Calls Tryz.prog 37 #[.pointer P] w fun e w' => e = int1 0 ∧ w.grownBy w' none := by
  have HN := Lib.hid hn
  clear hn
  go_enter Tryz.func37, Tryz.ntmps37
  go_wp2_with (first
    | (go_at_call 52; (with_reducible refine (made_nob HN.out).mono ?_); rintro e w1 ⟨h, rfl, hz, hg⟩; have Z1 := Lib.hid hz; have G1 := Lib.hid hg; have f0 := hz.h0; have f1 := hz.h1; have f2 := hz.hs; clear hz hg)
    | (go_at_call 69; (with_reducible refine (pg.Count_nobody (pn _)).mono ?_); rintro e w2 ⟨rfl, hg⟩; have G2 := Lib.hid (G1.out.trans hg); clear hg))
  go_ret
  exact ⟨rfl, G2.out⟩
theorem All_nob {P : Option Addr} {w : World} (hn : Nob w P) :
    Calls Tryz.prog 34 #[.pointer P] w fun e w' => e = .returned (.slice none 0 0) ∧ w.grownBy w' none := by
  have HN := Lib.hid hn
  clear hn
  go_enter Tryz.func34, Tryz.ntmps34
  go_wp2_with (first
    | (go_at_call 52; (with_reducible refine (made_nob HN.out).mono ?_); rintro e w1 ⟨h, rfl, hz, hg⟩; have Z1 := Lib.hid hz; have G1 := Lib.hid hg; have f0 := hz.h0; have f1 := hz.h1; have f2 := hz.hs; clear hz hg)
    | (go_at_call 66; (with_reducible refine (bm.All_nil _).mono ?_); rintro e w' ⟨rfl, hw⟩; subst hw))
  go_ret
  exact ⟨rfl, G1.out⟩
theorem Base_nob {P : Option Addr} {w : World} (hn : Nob w P) (a : Int) :
    Calls Tryz.prog 61 #[.pointer P, .int .i64 a] w fun e w' => e = int1 (-1) ∧ w.grownBy w' none := by
  have HN := Lib.hid hn
  have PG := Lib.hid (fun w => (page_any a w).mono fun e w' ⟨h1, h2⟩ => (⟨h1, h2.symm⟩ : e = int1 (pgOf a) ∧ w' = w))
  have FF := Lib.hid (fun w p => (pg.First_nobody (pn w) p).mono fun e w' ⟨h1, h2⟩ => (⟨h1, h2.symm⟩ : e = int1 (-1) ∧ w' = w))
  have e0 : enk (-1) 1 = false := rfl
  clear hn
  generalize pgOf a = pa at *
  go_enter Tryz.func61, Tryz.ntmps61
  go_wp2_with (first
    | (go_at_call 52; (with_reducible refine (made_nob HN.out).mono ?_); rintro e w1 ⟨h, rfl, hz, hg⟩; have Z1 := Lib.hid hz; have G1 := Lib.hid hg; have f0 := hz.h0; have f1 := hz.h1; have f2 := hz.hs; clear hz hg))
  go_quiet (first
    | (go_at_call 35; refine Calls.quiet_of_same (PG.out _))
    | (go_at_call 92; refine Calls.quiet_of_same (FF.out _ _)))
  go_wp2_with (go_at_call 93; (with_reducible refine (ends_any (-1) 1 _ rfl rfl).mono ?_); rintro e w' ⟨rfl, rfl⟩; rw [e0])
  go_ret
  exact ⟨rfl, G1.out.trans (bm.grown_drewN _ _ _)⟩
theorem Store_nob {P : Option Addr} {w : World} (hn : Nob w P) (a v : Int) :
    Calls Tryz.prog 31 #[.pointer P, .int .i64 a, .int .i64 v] w fun e w' => e = bool1 false ∧ w.grownBy w' none := by
  have HN := Lib.hid hn
  clear hn
  go_enter Tryz.func31, Tryz.ntmps31
  go_wp2_with (go_at_call 61; (with_reducible refine (Base_nob HN.out a).mono ?_); rintro e w2 ⟨rfl, hg⟩; have G2 := Lib.hid hg; clear hg)
  go_ret
  exact ⟨rfl, G2.out⟩
/-- Where Take's answer from nothing is told. -/
def Tkz (w : World) (vi vp vo : Value) (wx : World) : Prop :=
  ∃ B, vi = .int .i64 0 ∧ vp = .pointer (some ⟨B, 0, none⟩) ∧ vo = .bool false ∧ ch.Two wx B 0 0 ∧ w.grownBy wx none
theorem Take_nob {P : Option Addr} {w : World} (hn : Nob w P) (p : Int) (hp : fits p = true) :
    Calls Tryz.prog 43 #[.pointer P, .int .i64 p] w fun e w' => e = rI 0 false ∧ w.grownBy w' none := by
  have HN := Lib.hid hn
  have T := Lib.hid (fun W => chTake_nob (.pointer none) p W hp)
  clear hn hp
  go_enter Tryz.func43, Tryz.ntmps43
  go_wp2_with (first
    | (go_at_call 52; (with_reducible refine (made_nob HN.out).mono ?_); rintro e w1 ⟨h, rfl, hz, hg⟩; have Z1 := Lib.hid hz; have G1 := Lib.hid hg; have f0 := hz.h0; have f1 := hz.h1; have f2 := hz.hs; clear hz hg)
    | (go_at_call 56; (with_reducible refine (pg.Kind_nobody (pn _) _).mono ?_); rintro e w' ⟨rfl, rfl⟩))
  have HL := Lib.hid (show h < w1.heap.size from World.block_lt_of_cell? w1 _ f0)
  have C := Lib.hid (fun W (hg : w1.grownBy W none) => (Z1.out.kept hg).h1)
  have L := Lib.hid (fun W (hg : w1.grownBy W none) => left_nob (Z1.out.kept hg) p)
  go_region_held3 (fun W => W.cell? ⟨h, 1, none⟩ = some (.pointer none)) (first | go_keep | exact f4 | exact f3 | exact keep_two f3 (by have := HB3.out; have := HL.out; show h ≠ _; omega) _ _) (first
    | (have mark := D2; go_at_call 73; (with_reducible refine (T.out _).mono ?_); rintro e w3 ⟨rfl, hg⟩; have G3 := Lib.hid (G2.out.trans hg); have f3 := C.out _ G3.out; have D3 := Lib.hid (D2.out.kept hg (by simp)); obtain ⟨d0, d1, d2, d3⟩ := D3.out; have HB3 := Lib.hid HB2.out; clear hg)
    | (go_at_call 73; (with_reducible refine (T.out w2).mono ?_); rintro e w3 ⟨rfl, hg⟩; have G3 := Lib.hid (G2.out.trans hg); have f3 := C.out _ G3.out; clear hg)
    | (go_at_call 73; (with_reducible refine (T.out _).mono ?_); rintro e w3 ⟨rfl, hg⟩; have G3 := Lib.hid ((ch.grown_alloc2 G2.out (.cells #[.int .i64 0, .int .i64 0] 74)).trans hg); have f3 := C.out _ G3.out; have D3 := Lib.hid ((ch.Two.new w2 74 0 0 rfl).kept hg (by simp)); obtain ⟨d0, d1, d2, d3⟩ := D3.out; have HB3 := Lib.hid (show w1.heap.size ≤ w2.heap.size from G2.out.size); clear hg)
    | (go_at_call 63; (with_reducible refine (L.out _ (ch.grown_drew _ _)).mono ?_); rintro e w2 ⟨rfl, hg⟩; have G2 := Lib.hid ((ch.grown_drew w1 none).trans hg); have f4 := C.out _ G2.out; clear hg)
    | (go_at_call 63; (with_reducible refine (L.out _ ((World.grownBy_alloc w1 (.cells #[.int .i64 0, .int .i64 0] 74) none).trans (ch.grown_drew _ none))).mono ?_); rintro e w2 ⟨rfl, hg⟩; have G2 := Lib.hid (((World.grownBy_alloc w1 (.cells #[.int .i64 0, .int .i64 0] 74) none).trans (ch.grown_drew _ none)).trans hg); have D2 := Lib.hid (((ch.Two.new w1 74 0 0 rfl).kept (ch.grown_drew _ none) (by simp)).kept hg (by simp)); have HB2 := Lib.hid (Nat.le_refl w1.heap.size); have f4 := C.out _ G2.out; clear hg))
  all_goals
    go_wp2
    go_ret2
    first | exact ⟨rfl, G1.out.trans (ch.grown_alloc2 G3.out _)⟩ | exact ⟨rfl, G1.out.trans (ch.grown_setc (ch.grown_setc G3.out HB3.out _ _) HB3.out _ _)⟩
end Go.Proofs.YtfhmhlofjoahlaaGreatDoor.ce

/- A cache that nobody made. -/
namespace Go.Proofs.YtfhmhlofjoahlaaGreatDoor.ca
open Go.ChangeShapes Go.WideShapes Go.ChangeAt Go.RowKit Go.Maps gen calls cls Go.Sort
set_option linter.unusedVariables false
set_option maxHeartbeats 8000000
set_option maxRecDepth 100000
/-- No cache, or one of nothing. -/
def Nob (w : World) (p : Option Addr) : Prop := p = none ∨ ∃ a, p = some ⟨a, 0, none⟩ ∧ w.cell? ⟨a, 0, none⟩ = some (.int .i64 0) ∧ w.cell? ⟨a, 1, none⟩ = some (.map none)
theorem field_1n (w : World) : (Instr.field 66 (.agg #[.int .i64 0, .map none]) 1).run Tryz.prog w = .ok (.map none) w := by kernel_rfl
theorem field_0n (w : World) : (Instr.field 66 (.agg #[.int .i64 0, .map none]) 0).run Tryz.prog w = .ok (.int .i64 0) w := by kernel_rfl
section
variable {w w' : World} {P : Option Addr}
theorem Nob.new (h : Nob w P) (hg : w.grownBy w' none) : Nob w' P := by
  rcases h with h | ⟨a, e, h0, h1⟩
  · exact .inl h
  · exact .inr ⟨a, e, hg.cell h0 (by simp), hg.cell h1 (by simp)⟩
theorem made_nob (h : Nob w P) : Calls Tryz.prog 45 #[.pointer P] w fun e w' => e = .returned (.agg #[.int .i64 0, .map none]) ∧ w.grownBy w' none := by
  rcases h with rfl | ⟨a, rfl, h0, h1⟩
  · go_enter Tryz.func45, Tryz.ntmps45
    go_wp2
    refine bodyPost_ret (v := .agg #[.int .i64 0, .map none]) ?_ rfl ⟨rfl, World.grownBy_alloc _ _ _⟩
    simp [results, Tryz.results45, go_sem]
  · have c0 := fun o => (World.grownBy_alloc w o none).cell h0 (by simp)
    have c1 := fun o => (World.grownBy_alloc w o none).cell h1 (by simp)
    clear h0 h1
    go_enter Tryz.func45, Tryz.ntmps45
    go_wp2
    refine bodyPost_ret (v := .agg #[.int .i64 0, .map none]) ?_ rfl ⟨rfl, World.grownBy_alloc _ _ _⟩
    simp [results, Tryz.results45, go_sem]
theorem has_nob (h : Nob w P) (k : Int) :
    Calls Tryz.prog 82 #[.pointer P, .agg #[.int .i64 0, .int .i64 k]] w fun e w' => e = .returned (.bool false) ∧ w.grownBy w' none := by
  have G0 := Lib.hid (World.grownBy_alloc w (.cells #[.int .i64 0, .int .i64 k] 69) none)
  have T0 := Lib.hid (Two.new w 0 k 69)
  have HM := Lib.hid (fun W (hg : w.grownBy W none) => made_nob (h.new hg))
  obtain ⟨f00, f01⟩ := T0.out
  have fl := field_0n
  clear h
  go_enter Tryz.func82, Tryz.ntmps82
  go_wp2
  refine wp_region_held_drew (S := fun _ => True) (by kernel_rfl) trivial (fun _ => ?_)
  refine wpAnyH_take (i := 0) (v := .pointer (some ⟨w.heap.size, 0, none⟩)) rfl (by kernel_rfl) (by kernel_rfl) (by kernel_rfl) (fun _ _ _ h => h) (Or.inl ⟨by kernel_rfl, fun _ _ => by go_simp⟩) trivial ?_
  refine any_at (b := { tmps := #[.pointer P, .agg #[.int .i64 0, .int .i64 k], undef, .pointer (some ⟨w.heap.size, 0, none⟩), .bool false, .pointer (some ⟨w.heap.size, 0, none⟩), undef, undef, undef, undef, undef, undef, undef, undef, undef, undef, undef, undef, undef, undef, undef, undef], defers := [] }) (by kernel_rfl) ?_
  refine wpAnyH_ready (rs := [1]) (by kernel_rfl) (by simp) (AllReadyH.cons rfl (fun K hK => ?_) AllReadyH.nil)
  go_simp
  refine hK.out _ _ trivial (fun _ => ?_)
  clear hK K
  refine any_at (b := { tmps := #[.pointer P, .agg #[.int .i64 0, .int .i64 k], undef, .pointer (some ⟨w.heap.size, 0, none⟩), .bool false, .pointer (some ⟨w.heap.size, 0, none⟩), .int .i64 0, undef, undef, undef, undef, undef, undef, undef, undef, undef, undef, undef, undef, undef, undef, undef], defers := [] }) (by kernel_rfl) ?_
  refine wpAnyH_take (i := 2) (v := .bool true) rfl (by kernel_rfl) (by kernel_rfl) (by kernel_rfl) (fun _ _ _ h => h) (Or.inl ⟨by kernel_rfl, fun _ _ => by go_simp⟩) trivial ?_
  refine any_at (b := { tmps := #[.pointer P, .agg #[.int .i64 0, .int .i64 k], undef, .pointer (some ⟨w.heap.size, 0, none⟩), .bool false, .pointer (some ⟨w.heap.size, 0, none⟩), .int .i64 0, .bool true, undef, undef, undef, undef, undef, undef, undef, undef, undef, undef, undef, undef, undef, undef], defers := [] }) (by kernel_rfl) ?_
  refine wpAnyH_take (i := 3) (v := .bool true) rfl (by kernel_rfl) (by kernel_rfl) (by kernel_rfl) (fun _ _ _ h => h) (Or.inl ⟨by kernel_rfl, fun _ _ => by rfl⟩) trivial ?_
  refine any_at (b := { tmps := #[.pointer P, .agg #[.int .i64 0, .int .i64 k], undef, .pointer (some ⟨w.heap.size, 0, none⟩), .bool false, .pointer (some ⟨w.heap.size, 0, none⟩), .int .i64 0, .bool true, .bool true, undef, undef, undef, undef, undef, undef, undef, undef, undef, undef, undef, undef, undef], defers := [] }) (by kernel_rfl) ?_
  refine wpAnyH_take (i := 4) (v := .pointer (some ⟨w.heap.size, 0, none⟩)) rfl (by kernel_rfl) (by kernel_rfl) (by kernel_rfl) (fun _ _ _ h => h) (Or.inl ⟨by kernel_rfl, fun _ _ => by go_simp⟩) trivial ?_
  refine any_at (b := { tmps := #[.pointer P, .agg #[.int .i64 0, .int .i64 k], undef, .pointer (some ⟨w.heap.size, 0, none⟩), .bool false, .pointer (some ⟨w.heap.size, 0, none⟩), .int .i64 0, .bool true, .bool true, .pointer (some ⟨w.heap.size, 0, none⟩), undef, undef, undef, undef, undef, undef, undef, undef, undef, undef, undef, undef], defers := [] }) (by kernel_rfl) ?_
  refine wpAnyH_take (i := 6) (v := .pointer P) rfl (by kernel_rfl) (by kernel_rfl) (by kernel_rfl) (fun _ _ _ h => h) (Or.inl ⟨by kernel_rfl, fun _ _ => by rfl⟩) trivial ?_
  refine any_at (b := { tmps := #[.pointer P, .agg #[.int .i64 0, .int .i64 k], undef, .pointer (some ⟨w.heap.size, 0, none⟩), .bool false, .pointer (some ⟨w.heap.size, 0, none⟩), .int .i64 0, .bool true, .bool true, .pointer (some ⟨w.heap.size, 0, none⟩), undef, .pointer P, undef, undef, undef, undef, undef, undef, undef, undef, undef, undef], defers := [] }) (by kernel_rfl) ?_
  refine wpAnyH_ready (rs := [5, 7]) (by kernel_rfl) (by simp) (AllReadyH.cons rfl (fun K hK => ?_) (AllReadyH.cons rfl (fun K hK => ?_) AllReadyH.nil))
  · skip
    go_simp
    refine hK.out _ _ trivial (fun _ => ?_)
    clear hK K
    refine any_at (b := { tmps := #[.pointer P, .agg #[.int .i64 0, .int .i64 k], undef, .pointer (some ⟨w.heap.size, 0, none⟩), .bool false, .pointer (some ⟨w.heap.size, 0, none⟩), .int .i64 0, .bool true, .bool true, .pointer (some ⟨w.heap.size, 0, none⟩), .int .i64 0, .pointer P, undef, undef, undef, undef, undef, undef, undef, undef, undef, undef], defers := [] }) (by kernel_rfl) ?_
    refine wpAnyH_ready (rs := [7]) (by kernel_rfl) (by simp) (AllReadyH.cons rfl (fun K hK => ?_) AllReadyH.nil)
    go_simp
    (first | (go_at_call 45; (with_reducible refine (HM.out _ (G0.out.trans (grown_drewN _ _ _))).mono ?_); rintro e w2 ⟨rfl, hg⟩; have G2 := Lib.hid (G0.out.trans ((grown_drewN _ _ _).trans hg)); have f2 := T0.out.made ((grown_drewN _ _ _).trans hg); obtain ⟨f20, f21⟩ := f2; clear hg) | (go_at_call 45; (with_reducible refine (HM.out _ (G0.out.trans (grown_drew _ _))).mono ?_); rintro e w2 ⟨rfl, hg⟩; have G2 := Lib.hid (G0.out.trans ((grown_drew _ _).trans hg)); have f2 := T0.out.made ((grown_drew _ _).trans hg); obtain ⟨f20, f21⟩ := f2; clear hg))
    refine hK.out _ _ trivial (fun _ => ?_)
    clear hK K
    refine any_at (b := { tmps := #[.pointer P, .agg #[.int .i64 0, .int .i64 k], undef, .pointer (some ⟨w.heap.size, 0, none⟩), .bool false, .pointer (some ⟨w.heap.size, 0, none⟩), .int .i64 0, .bool true, .bool true, .pointer (some ⟨w.heap.size, 0, none⟩), .int .i64 0, .pointer P, .agg #[.int .i64 0, .map none], undef, undef, undef, undef, undef, undef, undef, undef, undef], defers := [] }) (by kernel_rfl) ?_
    refine wpAnyH_take (i := 8) (v := .int .i64 0) rfl (by kernel_rfl) (by kernel_rfl) (by kernel_rfl) (fun _ _ _ h => h) (Or.inl ⟨by kernel_rfl, fun _ _ => by go_simp⟩) trivial ?_
    refine any_at (b := { tmps := #[.pointer P, .agg #[.int .i64 0, .int .i64 k], undef, .pointer (some ⟨w.heap.size, 0, none⟩), .bool false, .pointer (some ⟨w.heap.size, 0, none⟩), .int .i64 0, .bool true, .bool true, .pointer (some ⟨w.heap.size, 0, none⟩), .int .i64 0, .pointer P, .agg #[.int .i64 0, .map none], .int .i64 0, undef, undef, undef, undef, undef, undef, undef, undef], defers := [] }) (by kernel_rfl) ?_
    refine wpAnyH_take (i := 9) (v := .bool false) rfl (by kernel_rfl) (by kernel_rfl) (by kernel_rfl) (fun _ _ _ h => h) (Or.inl ⟨by kernel_rfl, fun _ _ => by go_simp⟩) trivial ?_
    refine any_at (b := { tmps := #[.pointer P, .agg #[.int .i64 0, .int .i64 k], undef, .pointer (some ⟨w.heap.size, 0, none⟩), .bool false, .pointer (some ⟨w.heap.size, 0, none⟩), .int .i64 0, .bool true, .bool true, .pointer (some ⟨w.heap.size, 0, none⟩), .int .i64 0, .pointer P, .agg #[.int .i64 0, .map none], .int .i64 0, .bool false, undef, undef, undef, undef, undef, undef, undef], defers := [] }) (by kernel_rfl) ?_
    refine wpAnyH_take (i := 10) (v := .bool false) rfl (by kernel_rfl) (by kernel_rfl) (by kernel_rfl) (fun _ _ _ h => h) (Or.inl ⟨by kernel_rfl, fun _ _ => by go_simp⟩) trivial ?_
    refine any_at (b := { tmps := #[.pointer P, .agg #[.int .i64 0, .int .i64 k], undef, .pointer (some ⟨w.heap.size, 0, none⟩), .bool false, .pointer (some ⟨w.heap.size, 0, none⟩), .int .i64 0, .bool true, .bool true, .pointer (some ⟨w.heap.size, 0, none⟩), .int .i64 0, .pointer P, .agg #[.int .i64 0, .map none], .int .i64 0, .bool false, .bool false, undef, undef, undef, undef, undef, undef], defers := [] }) (by kernel_rfl) ?_
    refine wpAnyH_take (i := 11) (v := .bool false) rfl (by kernel_rfl) (by kernel_rfl) (by kernel_rfl) (fun _ _ _ h => h) (Or.inl ⟨by kernel_rfl, fun _ _ => by rfl⟩) trivial ?_
    refine any_at (b := { tmps := #[.pointer P, .agg #[.int .i64 0, .int .i64 k], undef, .pointer (some ⟨w.heap.size, 0, none⟩), .bool false, .pointer (some ⟨w.heap.size, 0, none⟩), .int .i64 0, .bool true, .bool true, .pointer (some ⟨w.heap.size, 0, none⟩), .int .i64 0, .pointer P, .agg #[.int .i64 0, .map none], .int .i64 0, .bool false, .bool false, .bool false, undef, undef, undef, undef, undef], defers := [] }) (by kernel_rfl) ?_
    refine wpAnyH_take (i := 12) (v := undef) rfl (by kernel_rfl) (by kernel_rfl) (by kernel_rfl) (fun _ _ _ h => h) (Or.inr ⟨by kernel_rfl, rfl⟩) trivial ?_
    refine any_at (b := { tmps := #[.pointer P, .agg #[.int .i64 0, .int .i64 k], undef, .pointer (some ⟨w.heap.size, 0, none⟩), .bool false, .pointer (some ⟨w.heap.size, 0, none⟩), .int .i64 0, .bool true, .bool true, .pointer (some ⟨w.heap.size, 0, none⟩), .int .i64 0, .pointer P, .agg #[.int .i64 0, .map none], .int .i64 0, .bool false, .bool false, .bool false, undef, undef, undef, undef, undef], defers := [] }) (by kernel_rfl) ?_
    refine wpAnyH_take (i := 13) (v := undef) rfl (by kernel_rfl) (by kernel_rfl) (by kernel_rfl) (fun _ _ _ h => h) (Or.inr ⟨by kernel_rfl, rfl⟩) trivial ?_
    refine any_at (b := { tmps := #[.pointer P, .agg #[.int .i64 0, .int .i64 k], undef, .pointer (some ⟨w.heap.size, 0, none⟩), .bool false, .pointer (some ⟨w.heap.size, 0, none⟩), .int .i64 0, .bool true, .bool true, .pointer (some ⟨w.heap.size, 0, none⟩), .int .i64 0, .pointer P, .agg #[.int .i64 0, .map none], .int .i64 0, .bool false, .bool false, .bool false, undef, undef, undef, undef, undef], defers := [] }) (by kernel_rfl) ?_
    refine wpAnyH_take (i := 14) (v := undef) rfl (by kernel_rfl) (by kernel_rfl) (by kernel_rfl) (fun _ _ _ h => h) (Or.inr ⟨by kernel_rfl, rfl⟩) trivial ?_
    refine any_at (b := { tmps := #[.pointer P, .agg #[.int .i64 0, .int .i64 k], undef, .pointer (some ⟨w.heap.size, 0, none⟩), .bool false, .pointer (some ⟨w.heap.size, 0, none⟩), .int .i64 0, .bool true, .bool true, .pointer (some ⟨w.heap.size, 0, none⟩), .int .i64 0, .pointer P, .agg #[.int .i64 0, .map none], .int .i64 0, .bool false, .bool false, .bool false, undef, undef, undef, undef, undef], defers := [] }) (by kernel_rfl) ?_
    refine wpAnyH_take (i := 15) (v := undef) rfl (by kernel_rfl) (by kernel_rfl) (by kernel_rfl) (fun _ _ _ h => h) (Or.inr ⟨by kernel_rfl, rfl⟩) trivial ?_
    refine any_at (b := { tmps := #[.pointer P, .agg #[.int .i64 0, .int .i64 k], undef, .pointer (some ⟨w.heap.size, 0, none⟩), .bool false, .pointer (some ⟨w.heap.size, 0, none⟩), .int .i64 0, .bool true, .bool true, .pointer (some ⟨w.heap.size, 0, none⟩), .int .i64 0, .pointer P, .agg #[.int .i64 0, .map none], .int .i64 0, .bool false, .bool false, .bool false, undef, undef, undef, undef, undef], defers := [] }) (by kernel_rfl) ?_
    refine wpAnyH_take (i := 16) (v := .bool false) rfl (by kernel_rfl) (by kernel_rfl) (by kernel_rfl) (fun _ _ _ h => h) (Or.inl ⟨by kernel_rfl, fun _ _ => by kernel_rfl⟩) trivial ?_
    refine any_at (b := { tmps := #[.pointer P, .agg #[.int .i64 0, .int .i64 k], undef, .pointer (some ⟨w.heap.size, 0, none⟩), .bool false, .pointer (some ⟨w.heap.size, 0, none⟩), .int .i64 0, .bool true, .bool true, .pointer (some ⟨w.heap.size, 0, none⟩), .int .i64 0, .pointer P, .agg #[.int .i64 0, .map none], .int .i64 0, .bool false, .bool false, .bool false, undef, undef, undef, undef, .bool false], defers := [] }) (by kernel_rfl) ?_
    refine wpAnyH_take (i := 17) (v := .bool false) rfl (by kernel_rfl) (by kernel_rfl) (by kernel_rfl) (fun _ _ _ h => h) (Or.inl ⟨by kernel_rfl, fun _ _ => by rfl⟩) trivial ?_
    refine any_at (b := { tmps := #[.pointer P, .agg #[.int .i64 0, .int .i64 k], undef, .pointer (some ⟨w.heap.size, 0, none⟩), .bool false, .pointer (some ⟨w.heap.size, 0, none⟩), .int .i64 0, .bool true, .bool true, .pointer (some ⟨w.heap.size, 0, none⟩), .int .i64 0, .pointer P, .agg #[.int .i64 0, .map none], .int .i64 0, .bool false, .bool false, .bool false, undef, undef, undef, undef, .bool false], defers := [] }) (by kernel_rfl) ?_
    refine wpAnyH_done (by kernel_rfl) ?_ _
    refine then_at (b := { tmps := #[.pointer P, .agg #[.int .i64 0, .int .i64 k], undef, .pointer (some ⟨w.heap.size, 0, none⟩), .bool false, .pointer (some ⟨w.heap.size, 0, none⟩), .int .i64 0, .bool true, .bool true, .pointer (some ⟨w.heap.size, 0, none⟩), .int .i64 0, .pointer P, .agg #[.int .i64 0, .map none], .int .i64 0, .bool false, .bool false, .bool false, undef, undef, undef, undef, .bool false], defers := [] }) (by kernel_rfl) ?_
    go_wp2
    go_ret
    exact ⟨rfl, G2.out⟩
  · skip
    go_simp
    (first | (go_at_call 45; (with_reducible refine (HM.out _ (G0.out.trans (grown_drewN _ _ _))).mono ?_); rintro e w2 ⟨rfl, hg⟩; have G2 := Lib.hid (G0.out.trans ((grown_drewN _ _ _).trans hg)); have f2 := T0.out.made ((grown_drewN _ _ _).trans hg); obtain ⟨f20, f21⟩ := f2; clear hg) | (go_at_call 45; (with_reducible refine (HM.out _ (G0.out.trans (grown_drew _ _))).mono ?_); rintro e w2 ⟨rfl, hg⟩; have G2 := Lib.hid (G0.out.trans ((grown_drew _ _).trans hg)); have f2 := T0.out.made ((grown_drew _ _).trans hg); obtain ⟨f20, f21⟩ := f2; clear hg))
    refine hK.out _ _ trivial (fun _ => ?_)
    clear hK K
    refine any_at (b := { tmps := #[.pointer P, .agg #[.int .i64 0, .int .i64 k], undef, .pointer (some ⟨w.heap.size, 0, none⟩), .bool false, .pointer (some ⟨w.heap.size, 0, none⟩), .int .i64 0, .bool true, .bool true, .pointer (some ⟨w.heap.size, 0, none⟩), undef, .pointer P, .agg #[.int .i64 0, .map none], undef, undef, undef, undef, undef, undef, undef, undef, undef], defers := [] }) (by kernel_rfl) ?_
    refine wpAnyH_take (i := 8) (v := .int .i64 0) rfl (by kernel_rfl) (by kernel_rfl) (by kernel_rfl) (fun _ _ _ h => h) (Or.inl ⟨by kernel_rfl, fun _ _ => by go_simp⟩) trivial ?_
    refine any_at (b := { tmps := #[.pointer P, .agg #[.int .i64 0, .int .i64 k], undef, .pointer (some ⟨w.heap.size, 0, none⟩), .bool false, .pointer (some ⟨w.heap.size, 0, none⟩), .int .i64 0, .bool true, .bool true, .pointer (some ⟨w.heap.size, 0, none⟩), undef, .pointer P, .agg #[.int .i64 0, .map none], .int .i64 0, undef, undef, undef, undef, undef, undef, undef, undef], defers := [] }) (by kernel_rfl) ?_
    refine wpAnyH_ready (rs := [5]) (by kernel_rfl) (by simp) (AllReadyH.cons rfl (fun K hK => ?_) AllReadyH.nil)
    go_simp
    refine hK.out _ _ trivial (fun _ => ?_)
    clear hK K
    refine any_at (b := { tmps := #[.pointer P, .agg #[.int .i64 0, .int .i64 k], undef, .pointer (some ⟨w.heap.size, 0, none⟩), .bool false, .pointer (some ⟨w.heap.size, 0, none⟩), .int .i64 0, .bool true, .bool true, .pointer (some ⟨w.heap.size, 0, none⟩), .int .i64 0, .pointer P, .agg #[.int .i64 0, .map none], .int .i64 0, undef, undef, undef, undef, undef, undef, undef, undef], defers := [] }) (by kernel_rfl) ?_
    refine wpAnyH_take (i := 9) (v := .bool false) rfl (by kernel_rfl) (by kernel_rfl) (by kernel_rfl) (fun _ _ _ h => h) (Or.inl ⟨by kernel_rfl, fun _ _ => by go_simp⟩) trivial ?_
    refine any_at (b := { tmps := #[.pointer P, .agg #[.int .i64 0, .int .i64 k], undef, .pointer (some ⟨w.heap.size, 0, none⟩), .bool false, .pointer (some ⟨w.heap.size, 0, none⟩), .int .i64 0, .bool true, .bool true, .pointer (some ⟨w.heap.size, 0, none⟩), .int .i64 0, .pointer P, .agg #[.int .i64 0, .map none], .int .i64 0, .bool false, undef, undef, undef, undef, undef, undef, undef], defers := [] }) (by kernel_rfl) ?_
    refine wpAnyH_take (i := 10) (v := .bool false) rfl (by kernel_rfl) (by kernel_rfl) (by kernel_rfl) (fun _ _ _ h => h) (Or.inl ⟨by kernel_rfl, fun _ _ => by go_simp⟩) trivial ?_
    refine any_at (b := { tmps := #[.pointer P, .agg #[.int .i64 0, .int .i64 k], undef, .pointer (some ⟨w.heap.size, 0, none⟩), .bool false, .pointer (some ⟨w.heap.size, 0, none⟩), .int .i64 0, .bool true, .bool true, .pointer (some ⟨w.heap.size, 0, none⟩), .int .i64 0, .pointer P, .agg #[.int .i64 0, .map none], .int .i64 0, .bool false, .bool false, undef, undef, undef, undef, undef, undef], defers := [] }) (by kernel_rfl) ?_
    refine wpAnyH_take (i := 11) (v := .bool false) rfl (by kernel_rfl) (by kernel_rfl) (by kernel_rfl) (fun _ _ _ h => h) (Or.inl ⟨by kernel_rfl, fun _ _ => by rfl⟩) trivial ?_
    refine any_at (b := { tmps := #[.pointer P, .agg #[.int .i64 0, .int .i64 k], undef, .pointer (some ⟨w.heap.size, 0, none⟩), .bool false, .pointer (some ⟨w.heap.size, 0, none⟩), .int .i64 0, .bool true, .bool true, .pointer (some ⟨w.heap.size, 0, none⟩), .int .i64 0, .pointer P, .agg #[.int .i64 0, .map none], .int .i64 0, .bool false, .bool false, .bool false, undef, undef, undef, undef, undef], defers := [] }) (by kernel_rfl) ?_
    refine wpAnyH_take (i := 12) (v := undef) rfl (by kernel_rfl) (by kernel_rfl) (by kernel_rfl) (fun _ _ _ h => h) (Or.inr ⟨by kernel_rfl, rfl⟩) trivial ?_
    refine any_at (b := { tmps := #[.pointer P, .agg #[.int .i64 0, .int .i64 k], undef, .pointer (some ⟨w.heap.size, 0, none⟩), .bool false, .pointer (some ⟨w.heap.size, 0, none⟩), .int .i64 0, .bool true, .bool true, .pointer (some ⟨w.heap.size, 0, none⟩), .int .i64 0, .pointer P, .agg #[.int .i64 0, .map none], .int .i64 0, .bool false, .bool false, .bool false, undef, undef, undef, undef, undef], defers := [] }) (by kernel_rfl) ?_
    refine wpAnyH_take (i := 13) (v := undef) rfl (by kernel_rfl) (by kernel_rfl) (by kernel_rfl) (fun _ _ _ h => h) (Or.inr ⟨by kernel_rfl, rfl⟩) trivial ?_
    refine any_at (b := { tmps := #[.pointer P, .agg #[.int .i64 0, .int .i64 k], undef, .pointer (some ⟨w.heap.size, 0, none⟩), .bool false, .pointer (some ⟨w.heap.size, 0, none⟩), .int .i64 0, .bool true, .bool true, .pointer (some ⟨w.heap.size, 0, none⟩), .int .i64 0, .pointer P, .agg #[.int .i64 0, .map none], .int .i64 0, .bool false, .bool false, .bool false, undef, undef, undef, undef, undef], defers := [] }) (by kernel_rfl) ?_
    refine wpAnyH_take (i := 14) (v := undef) rfl (by kernel_rfl) (by kernel_rfl) (by kernel_rfl) (fun _ _ _ h => h) (Or.inr ⟨by kernel_rfl, rfl⟩) trivial ?_
    refine any_at (b := { tmps := #[.pointer P, .agg #[.int .i64 0, .int .i64 k], undef, .pointer (some ⟨w.heap.size, 0, none⟩), .bool false, .pointer (some ⟨w.heap.size, 0, none⟩), .int .i64 0, .bool true, .bool true, .pointer (some ⟨w.heap.size, 0, none⟩), .int .i64 0, .pointer P, .agg #[.int .i64 0, .map none], .int .i64 0, .bool false, .bool false, .bool false, undef, undef, undef, undef, undef], defers := [] }) (by kernel_rfl) ?_
    refine wpAnyH_take (i := 15) (v := undef) rfl (by kernel_rfl) (by kernel_rfl) (by kernel_rfl) (fun _ _ _ h => h) (Or.inr ⟨by kernel_rfl, rfl⟩) trivial ?_
    refine any_at (b := { tmps := #[.pointer P, .agg #[.int .i64 0, .int .i64 k], undef, .pointer (some ⟨w.heap.size, 0, none⟩), .bool false, .pointer (some ⟨w.heap.size, 0, none⟩), .int .i64 0, .bool true, .bool true, .pointer (some ⟨w.heap.size, 0, none⟩), .int .i64 0, .pointer P, .agg #[.int .i64 0, .map none], .int .i64 0, .bool false, .bool false, .bool false, undef, undef, undef, undef, undef], defers := [] }) (by kernel_rfl) ?_
    refine wpAnyH_take (i := 16) (v := .bool false) rfl (by kernel_rfl) (by kernel_rfl) (by kernel_rfl) (fun _ _ _ h => h) (Or.inl ⟨by kernel_rfl, fun _ _ => by kernel_rfl⟩) trivial ?_
    refine any_at (b := { tmps := #[.pointer P, .agg #[.int .i64 0, .int .i64 k], undef, .pointer (some ⟨w.heap.size, 0, none⟩), .bool false, .pointer (some ⟨w.heap.size, 0, none⟩), .int .i64 0, .bool true, .bool true, .pointer (some ⟨w.heap.size, 0, none⟩), .int .i64 0, .pointer P, .agg #[.int .i64 0, .map none], .int .i64 0, .bool false, .bool false, .bool false, undef, undef, undef, undef, .bool false], defers := [] }) (by kernel_rfl) ?_
    refine wpAnyH_take (i := 17) (v := .bool false) rfl (by kernel_rfl) (by kernel_rfl) (by kernel_rfl) (fun _ _ _ h => h) (Or.inl ⟨by kernel_rfl, fun _ _ => by rfl⟩) trivial ?_
    refine any_at (b := { tmps := #[.pointer P, .agg #[.int .i64 0, .int .i64 k], undef, .pointer (some ⟨w.heap.size, 0, none⟩), .bool false, .pointer (some ⟨w.heap.size, 0, none⟩), .int .i64 0, .bool true, .bool true, .pointer (some ⟨w.heap.size, 0, none⟩), .int .i64 0, .pointer P, .agg #[.int .i64 0, .map none], .int .i64 0, .bool false, .bool false, .bool false, undef, undef, undef, undef, .bool false], defers := [] }) (by kernel_rfl) ?_
    refine wpAnyH_done (by kernel_rfl) ?_ _
    refine then_at (b := { tmps := #[.pointer P, .agg #[.int .i64 0, .int .i64 k], undef, .pointer (some ⟨w.heap.size, 0, none⟩), .bool false, .pointer (some ⟨w.heap.size, 0, none⟩), .int .i64 0, .bool true, .bool true, .pointer (some ⟨w.heap.size, 0, none⟩), .int .i64 0, .pointer P, .agg #[.int .i64 0, .map none], .int .i64 0, .bool false, .bool false, .bool false, undef, undef, undef, undef, .bool false], defers := [] }) (by kernel_rfl) ?_
    go_wp2
    go_ret
    exact ⟨rfl, G2.out⟩
theorem Set_nob (h : Nob w P) (k p : Int) :
    Calls Tryz.prog 51 #[.pointer P, .int .i64 0, .int .i64 k, .int .i64 p] w fun e w' => e = .returned (.bool false) ∧ w.grownBy w' none := by
  have G0 := Lib.hid (World.grownBy_alloc w (.cells #[.int .i64 0, .int .i64 k] 69) none)
  have HA := Lib.hid (has_nob (h.new G0.out) k)
  clear h
  go_enter Tryz.func51, Tryz.ntmps51
  go_wp2_with (first
    | (go_at_call 82; (with_reducible refine HA.out.mono ?_); rintro e w2 ⟨rfl, hg⟩; have G2 := Lib.hid (G0.out.trans hg); clear hg))
  go_ret
  exact ⟨rfl, G2.out⟩
theorem Page_nob (h : Nob w P) (t k : Int) (ht : fits t = true) (hk : fits k = true) :
    Calls Tryz.prog 23 #[.pointer P, .int .i64 t, .int .i64 k] w fun e w' => e = .returned (.int .i64 (-1)) ∧ w.grownBy w' none := by
  have HM := Lib.hid (made_nob h)
  have fl := field_1n
  have lk := fun (w : World) => Maps.look_nil (P := Tryz.prog) (w := w) (t := 64) (e := 3) true klaw Tryz.underlying64 (zeroE w) (key_mk ht hk)
  clear h
  go_enter Tryz.func23, Tryz.ntmps23
  go_wp2_with (first
    | (go_at_call 45; (with_reducible refine HM.out.mono ?_); rintro e w2 ⟨rfl, hg⟩; have G2 := Lib.hid hg; clear hg))
  go_ret
  exact ⟨rfl, G2.out⟩
theorem Owner_nob (h : Nob w P) (p : Int) :
    Calls Tryz.prog 39 #[.pointer P, .int .i64 p] w fun e w' => e = .returned (.tuple #[.int .i64 (-1), .int .i64 0]) ∧ w.grownBy w' none := by
  have HM := Lib.hid (made_nob h)
  have fl := field_1n
  have hrg := fun w => run_range_nilMap (P := Tryz.prog) w 64 69 3 Tryz.underlying64
  have hnx : ∀ (w : World) ty, (Instr.next (.pointer (some ⟨w.heap.size, 0, none⟩)) false ty).run Tryz.prog (w.alloc (.mapIter none 0 #[] 0)) = _ := fun w ty => run_next_nilMap w ty 0 0 #[]
  clear h
  go_enter Tryz.func39, Tryz.ntmps39
  go_wp2_with (first
    | (go_at_call 45; (with_reducible refine HM.out.mono ?_); rintro e w2 ⟨rfl, hg⟩; have G2 := Lib.hid hg; clear hg))
  refine wp_loop_rounds 1 ?_
  rw [rounds_succ]
  go_wp2
  go_ret2
  exact ⟨rfl, G2.out.trans (World.grownBy_alloc _ _ _)⟩
theorem Drop_nob (h : Nob w P) (t : Int) :
    Calls Tryz.prog 36 #[.pointer P, .int .i64 t] w fun e w' => e = .returned (.slice none 0 0) ∧ w.grownBy w' none := by
  have HM := Lib.hid (made_nob h)
  have fl := field_1n
  have hrg := fun w => run_range_nilMap (P := Tryz.prog) w 64 69 3 Tryz.underlying64
  have hnx : ∀ (w : World) ty, (Instr.next (.pointer (some ⟨w.heap.size, 0, none⟩)) false ty).run Tryz.prog (w.alloc (.mapIter none 0 #[] 0)) = _ := fun w ty => run_next_nilMap w ty 0 0 #[]
  have SN := Lib.hid (fun w => AnyM.slices_Sort_int_none Tryz.sort none 0 w)
  clear h
  go_enter Tryz.func36, Tryz.ntmps36
  go_wp2_with (first
    | (go_at_call 45; (with_reducible refine HM.out.mono ?_); rintro e w2 ⟨rfl, hg⟩; have G2 := Lib.hid hg; clear hg))
  refine wp_loop_rounds 1 ?_
  rw [rounds_succ]
  go_wp2_with (first
    | (go_at_call 68; refine (SN.out _).mono ?_; rintro e w3 ⟨rfl, rfl⟩))
  go_ret
  exact ⟨rfl, G2.out.trans (World.grownBy_alloc _ _ _)⟩
end
end Go.Proofs.YtfhmhlofjoahlaaGreatDoor.ca

/- A store that nobody made. -/
namespace Go.Proofs.YtfhmhlofjoahlaaGreatDoor.st
open Go.ChangeShapes Go.WideShapes Go.ChangeAt Go.RowKit Go.Maps gen calls cls geos ce
set_option linter.unusedVariables false
set_option maxHeartbeats 4000000
set_option maxRecDepth 100000
/-- A store of nothing. -/
structure Zs (w : World) (a : Nat) : Prop where
  z0 : w.cell? ⟨a, 0, none⟩ = some (.pointer none)
  z1 : w.cell? ⟨a, 1, none⟩ = some (.pointer none)
  z2 : w.cell? ⟨a, 2, none⟩ = some (.int .i64 0)
  z3 : w.cell? ⟨a, 3, none⟩ = some (.int .i64 0)
/-- No store, or one of nothing. -/
def Nb (w : World) (p : Option Addr) : Prop := p = none ∨ ∃ a, p = some ⟨a, 0, none⟩ ∧ Zs w a
theorem cn (w : World) : ce.Nob w none := .inl rfl
theorem an (w : World) : ca.Nob w none := .inl rfl
section
variable {w w' : World} {a : Nat} {p : Option Addr}
theorem Zs.new (h : Zs w a) (hg : w.grownBy w' none) : Zs w' a := ⟨hg.cell h.z0 (by simp), hg.cell h.z1 (by simp), hg.cell h.z2 (by simp), hg.cell h.z3 (by simp)⟩
theorem Zs.made (w : World) : Zs (w.alloc (.cells #[.pointer none, .pointer none, .int .i64 0, .int .i64 0] 29)) w.heap.size := ⟨by simp [go_sem], by simp [go_sem], by simp [go_sem], by simp [go_sem]⟩
theorem Nb.new (h : Nb w p) (hg : w.grownBy w' none) : Nb w' p := by
  rcases h with h | ⟨a, e, z⟩
  · exact .inl h
  · exact .inr ⟨a, e, z.new hg⟩
theorem nb_of (z : Zs w a) : Nb w (some ⟨a, 0, none⟩) := .inr ⟨a, rfl, z⟩
theorem known_nb (h : Nb w p) : Calls Tryz.prog 21 #[.pointer p] w fun e w' => ∃ a, e = .returned (.pointer (some ⟨a, 0, none⟩)) ∧ Zs w' a ∧ w.grownBy w' none := by
  rcases h with rfl | ⟨a, rfl, z⟩
  · go_enter Tryz.func21, Tryz.ntmps21
    go_wp2
    go_ret
    exact ⟨_, rfl, Zs.made w, World.grownBy_alloc _ _ _⟩
  · have Z := Lib.hid z
    clear z
    go_enter Tryz.func21, Tryz.ntmps21
    go_wp2
    go_ret
    exact ⟨a, rfl, Z.out, World.grownBy.refl _ _⟩
theorem from_nb (h : Zs w a) (q n : Int) (hq : fits q = true) :
    Calls Tryz.prog 22 #[.pointer (some ⟨a, 0, none⟩), .int .i64 q, .int .i64 n] w fun e w' => e = rI 0 false ∧ w.grownBy w' none := by
  have TK := Lib.hid (Take_nob (cn w) q hq)
  have f0 := h.z0
  clear h hq
  go_enter Tryz.func22, Tryz.ntmps22
  go_wp2_with (first
    | (go_at_call 43; (with_reducible refine TK.out.mono ?_); rintro e w2 ⟨rfl, hg⟩; have G2 := Lib.hid hg; clear hg))
  go_ret2
  exact ⟨rfl, G2.out⟩
theorem Fast_nb (h : Nb w p) (n : Int) :
    Calls Tryz.prog 5 #[.pointer p, .int .i64 0, .int .i64 n] w fun e w' => e = rI 0 false ∧ w.grownBy w' none := by
  have of := ofn_wide n
  have KN := Lib.hid (known_nb h)
  have PG := Lib.hid (fun W => ca.Page_nob (an W) 0 (ofn n) rfl (by simp [fits]; omega))
  clear h of
  go_enter Tryz.func5, Tryz.ntmps5
  go_wp2_with (first
    | (go_at_call 21; (with_reducible refine KN.out.mono ?_); rintro e w1 ⟨a, rfl, hz, hg⟩; have Z1 := Lib.hid hz; have G1 := Lib.hid hg; have f1 := hz.z1; clear hz hg))
  go_region_held3 (fun W => W.cell? ⟨a, 1, none⟩ = some (.pointer none)) (first | exact f1 | exact f2 | exact f3 | go_keep) (first
    | (go_at_call 24; (with_reducible refine (of_any _ _).mono ?_); rintro e w' ⟨rfl, rfl⟩)
    | (go_at_call 23; (with_reducible refine (PG.out _).mono ?_); rintro e w2 ⟨rfl, hg⟩; have G2 := Lib.hid (((ca.grown_drewN _ _ _).trans hg) : World.grownBy w1 w2 none); have f2 := (Z1.out.new G2.out).z1; clear hg)
    | (go_at_call 23; (with_reducible refine (PG.out _).mono ?_); rintro e w2 ⟨rfl, hg⟩; have G2 := Lib.hid (((ca.grown_drew _ _).trans hg) : World.grownBy w1 w2 none); have f2 := (Z1.out.new G2.out).z1; clear hg)
    | (go_at_call 23; (with_reducible refine (PG.out _).mono ?_); rintro e w2 ⟨rfl, hg⟩; have G2 := Lib.hid (hg : World.grownBy w1 w2 none); have f2 := (Z1.out.new G2.out).z1; clear hg)
    | (go_at_call 22; (with_reducible refine (from_nb (Z1.out.new (G2.out.trans (ca.grown_drewN _ _ _))) (-1) n rfl).mono ?_); rintro e w3 ⟨rfl, hg⟩; have G3 := Lib.hid (World.grownBy.trans (G2.out.trans (ca.grown_drewN _ _ _)) hg); have f3 := (Z1.out.new G3.out).z1; clear hg)
    | (go_at_call 22; (with_reducible refine (from_nb (Z1.out.new (G2.out.trans (ca.grown_drew _ _))) (-1) n rfl).mono ?_); rintro e w3 ⟨rfl, hg⟩; have G3 := Lib.hid (World.grownBy.trans (G2.out.trans (ca.grown_drew _ _)) hg); have f3 := (Z1.out.new G3.out).z1; clear hg)
    | (go_at_call 22; (with_reducible refine (from_nb (Z1.out.new G2.out) (-1) n rfl).mono ?_); rintro e w3 ⟨rfl, hg⟩; have G3 := Lib.hid (World.grownBy.trans G2.out hg); have f3 := (Z1.out.new G3.out).z1; clear hg))
  all_goals
    go_wp2
    go_ret2
    exact ⟨rfl, G1.out.trans G3.out⟩
theorem Slow_nb (h : Nb w p) :
    Calls Tryz.prog 6 #[.pointer p, .int .i64 0, .int .i64 1] w fun e w' => e = .returned (.tuple #[.int .i64 0, .int .i64 9]) ∧ w.grownBy w' none := by
  have KN := Lib.hid (known_nb h)
  clear h
  go_enter Tryz.func6, Tryz.ntmps6
  go_wp2_with (first
    | (go_at_call 21; (with_reducible refine KN.out.mono ?_); rintro e w1 ⟨a, rfl, hz, hg⟩; have G1 := Lib.hid hg; have f0 := hz.z0; clear hz hg))
  go_ret2
  exact ⟨rfl, G1.out⟩
theorem Free_nb (h : Nb w p) (n : Int) :
    Calls Tryz.prog 8 #[.pointer p, .int .i64 n] w fun e w' => e = bool1 false ∧ w.grownBy w' none := by
  have KN := Lib.hid (known_nb h)
  have CE := Lib.hid (fun W => Give_nob (cn W) n)
  clear h
  go_enter Tryz.func8, Tryz.ntmps8
  go_wp2_with (first
    | (go_at_call 21; (with_reducible refine KN.out.mono ?_); rintro e w1 ⟨a, rfl, hz, hg⟩; have Z1 := Lib.hid hz; have G1 := Lib.hid hg; have f0 := hz.z0; have f1 := hz.z1; clear hz hg)
    | (go_at_call 29; (with_reducible refine (CE.out _).mono ?_); rintro e w2 ⟨rfl, hg⟩; have G2 := Lib.hid (G1.out.trans hg); clear hg))
  go_ret
  exact ⟨rfl, G2.out⟩
theorem Objects_nb (h : Nb w p) :
    Calls Tryz.prog 13 #[.pointer p] w fun e w' => e = .returned (.slice none 0 0) ∧ w.grownBy w' none := by
  have KN := Lib.hid (known_nb h)
  have CE := Lib.hid (fun W => ce.All_nob (cn W))
  clear h
  go_enter Tryz.func13, Tryz.ntmps13
  go_wp2_with (first
    | (go_at_call 21; (with_reducible refine KN.out.mono ?_); rintro e w1 ⟨a, rfl, hz, hg⟩; have Z1 := Lib.hid hz; have G1 := Lib.hid hg; have f0 := hz.z0; have f1 := hz.z1; clear hz hg)
    | (go_at_call 34; (with_reducible refine (CE.out _).mono ?_); rintro e w2 ⟨rfl, hg⟩; have G2 := Lib.hid (G1.out.trans hg); clear hg))
  go_ret
  exact ⟨rfl, G2.out⟩
theorem Pages_nb (h : Nb w p) :
    Calls Tryz.prog 16 #[.pointer p] w fun e w' => e = int1 0 ∧ w.grownBy w' none := by
  have KN := Lib.hid (known_nb h)
  have CE := Lib.hid (fun W => Free_nob (cn W))
  clear h
  go_enter Tryz.func16, Tryz.ntmps16
  go_wp2_with (first
    | (go_at_call 21; (with_reducible refine KN.out.mono ?_); rintro e w1 ⟨a, rfl, hz, hg⟩; have Z1 := Lib.hid hz; have G1 := Lib.hid hg; have f0 := hz.z0; have f1 := hz.z1; clear hz hg)
    | (go_at_call 37; (with_reducible refine (CE.out _).mono ?_); rintro e w2 ⟨rfl, hg⟩; have G2 := Lib.hid (G1.out.trans hg); clear hg))
  go_ret
  exact ⟨rfl, G2.out⟩
theorem Kind_nb (h : Nb w p) (n : Int) :
    Calls Tryz.prog 17 #[.pointer p, .int .i64 n] w fun e w' => e = int1 (-1) ∧ w.grownBy w' none := by
  have KN := Lib.hid (known_nb h)
  have CE := Lib.hid (fun W => Kind_nob (cn W) n)
  clear h
  go_enter Tryz.func17, Tryz.ntmps17
  go_wp2_with (first
    | (go_at_call 21; (with_reducible refine KN.out.mono ?_); rintro e w1 ⟨a, rfl, hz, hg⟩; have Z1 := Lib.hid hz; have G1 := Lib.hid hg; have f0 := hz.z0; have f1 := hz.z1; clear hz hg)
    | (go_at_call 38; (with_reducible refine (CE.out _).mono ?_); rintro e w2 ⟨rfl, hg⟩; have G2 := Lib.hid (G1.out.trans hg); clear hg))
  go_ret
  exact ⟨rfl, G2.out⟩
theorem Owner_nb (h : Nb w p) (n : Int) :
    Calls Tryz.prog 18 #[.pointer p, .int .i64 n] w fun e w' => e = int1 (-1) ∧ w.grownBy w' none := by
  have KN := Lib.hid (known_nb h)
  have CE := Lib.hid (fun W => ca.Owner_nob (an W) n)
  clear h
  go_enter Tryz.func18, Tryz.ntmps18
  go_wp2_with (first
    | (go_at_call 21; (with_reducible refine KN.out.mono ?_); rintro e w1 ⟨a, rfl, hz, hg⟩; have Z1 := Lib.hid hz; have G1 := Lib.hid hg; have f0 := hz.z0; have f1 := hz.z1; clear hz hg)
    | (go_at_call 39; (with_reducible refine (CE.out _).mono ?_); rintro e w2 ⟨rfl, hg⟩; have G2 := Lib.hid (G1.out.trans hg); clear hg))
  go_ret
  exact ⟨rfl, G2.out⟩
theorem Made_nb (h : Nb w p) : Calls Tryz.prog 19 #[.pointer p] w fun e w' => e = int1 0 ∧ w.grownBy w' none := by
  have KN := Lib.hid (known_nb h)
  clear h
  go_enter Tryz.func19, Tryz.ntmps19
  go_wp2_with (first
    | (go_at_call 21; (with_reducible refine KN.out.mono ?_); rintro e w1 ⟨a, rfl, hz, hg⟩; have G1 := Lib.hid hg; have f3 := hz.z3; clear hz hg))
  go_ret
  exact ⟨rfl, G1.out⟩
theorem first_nb (h : Nb w p) (n : Int) :
    Calls Tryz.prog 33 #[.pointer p, .int .i64 n] w fun e w' => e = .returned (.tuple #[.int .i64 0, .int .i64 0, .bool false]) ∧ w.grownBy w' none := by
  have KN := Lib.hid (known_nb h)
  have IS := Lib.hid (fun W => Is_nob (cn W) n)
  clear h
  go_enter Tryz.func33, Tryz.ntmps33
  go_wp2_with (first
    | (go_at_call 21; (with_reducible refine KN.out.mono ?_); rintro e w1 ⟨a, rfl, hz, hg⟩; have G1 := Lib.hid hg; have f0 := hz.z0; clear hz hg)
    | (go_at_call 64; (with_reducible refine (IS.out _).mono ?_); rintro e w2 ⟨rfl, hg⟩; have G2 := Lib.hid (G1.out.trans hg); clear hg))
  go_ret3
  exact ⟨rfl, G2.out⟩
theorem Fields_nb (h : Nb w p) (n : Int) :
    Calls Tryz.prog 11 #[.pointer p, .int .i64 n] w fun e w' => e = int1 (-1) ∧ w.grownBy w' none := by
  have F := Lib.hid (first_nb h n)
  clear h
  go_enter Tryz.func11, Tryz.ntmps11
  go_wp2_with (go_at_call 33; (with_reducible refine F.out.mono ?_); rintro e w2 ⟨rfl, hg⟩; have G2 := Lib.hid hg; clear hg)
  go_ret
  exact ⟨rfl, G2.out⟩
theorem Serial_nb (h : Nb w p) (n : Int) :
    Calls Tryz.prog 12 #[.pointer p, .int .i64 n] w fun e w' => e = int1 (-1) ∧ w.grownBy w' none := by
  have F := Lib.hid (first_nb h n)
  clear h
  go_enter Tryz.func12, Tryz.ntmps12
  go_wp2_with (go_at_call 33; (with_reducible refine F.out.mono ?_); rintro e w2 ⟨rfl, hg⟩; have G2 := Lib.hid hg; clear hg)
  go_ret
  exact ⟨rfl, G2.out⟩
theorem field_nb (h : Nb w p) (n : Int) :
    Calls Tryz.prog 26 #[.pointer p, .int .i64 n, .int .i64 0] w fun e w' => e = rI 0 false ∧ w.grownBy w' none := by
  have F := Lib.hid (Fields_nb h n)
  clear h
  go_enter Tryz.func26, Tryz.ntmps26
  go_wp2_with (go_at_call 11; (with_reducible refine F.out.mono ?_); rintro e w2 ⟨rfl, hg⟩; have G2 := Lib.hid hg; clear hg)
  go_ret2
  exact ⟨rfl, G2.out⟩
theorem Get_nb (h : Nb w p) (n : Int) :
    Calls Tryz.prog 7 #[.pointer p, .int .i64 n, .int .i64 0] w fun e w' => e = wd.ans 0 0 false ∧ w.grownBy w' none := by
  have FD := Lib.hid (fun W (hg : w.grownBy W none) => field_nb (h.new hg) n)
  have G0 := Lib.hid (World.grownBy_alloc w (.cells #[.int .i64 0, .int .i64 0] 23) none)
  have T0 := Lib.hid (wd.Two.new w 23 0 0 rfl)
  clear h
  go_enter Tryz.func7, Tryz.ntmps7
  go_wp2_with (go_at_call 26; (with_reducible refine (FD.out _ G0.out).mono ?_); rintro e w2 ⟨rfl, hg⟩; have G2 := Lib.hid (G0.out.trans hg); have T2 := wd.Two.below (li.grown_below hg) T0.out; obtain ⟨c0, c1, c2, c3⟩ := T2; clear hg)
  refine bodyPost_ret (v := .tuple #[.agg #[.int .i64 0, .int .i64 0], .bool false]) ?_ rfl ⟨rfl, below_new (((li.grown_below G2.out).setCell (Nat.le_refl _) _).setCell (Nat.le_refl _) _)⟩
  simp [results, Tryz.results7, go_sem, *]
theorem Set_nb (h : Nb w p) (n k m : Int) :
    Calls Tryz.prog 9 #[.pointer p, .int .i64 n, .int .i64 0, .agg #[.int .i64 k, .int .i64 m]] w fun e w' => e = bool1 false ∧ w.grownBy w' none := by
  have FD := Lib.hid (fun W (hg : w.grownBy W none) => field_nb (h.new hg) n)
  have PT := Lib.hid (fun W => wd.Put_any k m W)
  have G0 := Lib.hid (World.grownBy_alloc w (.cells #[.int .i64 k, .int .i64 m] 23) none)
  have T0 := Lib.hid (wd.Two.new w 23 k m rfl)
  obtain ⟨c0, c1, c2, c3⟩ := T0.out
  generalize wd.wd k m = v at *
  generalize wd.vb k m = b at *
  clear h
  cases b
  all_goals
    go_enter Tryz.func9, Tryz.ntmps9
    go_wp2_with (first
      | (go_at_call 30; (with_reducible refine (PT.out _).mono ?_); rintro e w2 ⟨rfl, hb⟩; have G2 := Lib.hid (G0.out.trans (below_new hb)); clear hb)
      | (go_at_call 26; (with_reducible refine (FD.out _ G2.out).mono ?_); rintro e w3 ⟨rfl, hg⟩; have G3 := Lib.hid (G2.out.trans hg); clear hg))
    go_ret
    exact ⟨rfl, G3.out⟩
theorem Trim_nb (h : Nb w p) (n : Int) :
    Calls Tryz.prog 10 #[.pointer p, .int .i64 n] w fun e w' => e = bool1 false ∧ w.grownBy w' none := by
  have KN := Lib.hid (known_nb h)
  have DR := Lib.hid (fun W => Drop_nob (cn W) n)
  clear h
  go_enter Tryz.func10, Tryz.ntmps10
  go_wp2_with (first
    | (go_at_call 21; (with_reducible refine KN.out.mono ?_); rintro e w1 ⟨a, rfl, hz, hg⟩; have Z1 := Lib.hid hz; have G1 := Lib.hid hg; clear hz hg)
    | (go_at_call 18; (with_reducible refine (Owner_nb (nb_of Z1.out) n).mono ?_); rintro e w2 ⟨rfl, hg⟩; have G2 := Lib.hid (G1.out.trans hg); have f2 := (Z1.out.new hg).z0; clear hg)
    | (go_at_call 32; (with_reducible refine (DR.out _).mono ?_); rintro e w3 ⟨rfl, hg⟩; have G3 := Lib.hid (G2.out.trans hg); clear hg))
  go_ret
  exact ⟨rfl, G3.out⟩
theorem Quit_nb (h : Nb w p) (n : Int) :
    Calls Tryz.prog 15 #[.pointer p, .int .i64 n] w fun e w' => e = int1 0 ∧ w.grownBy w' none := by
  have KN := Lib.hid (known_nb h)
  have DR := Lib.hid (fun W => ca.Drop_nob (an W) n)
  clear h
  go_enter Tryz.func15, Tryz.ntmps15
  go_wp2_with (first
    | (go_at_call 21; (with_reducible refine KN.out.mono ?_); rintro e w1 ⟨a, rfl, hz, hg⟩; have G1 := Lib.hid hg; have f1 := hz.z1; clear hz hg)
    | (go_at_call 36; (with_reducible refine (DR.out _).mono ?_); rintro e w2 ⟨rfl, hg⟩; have G2 := Lib.hid (G1.out.trans hg); clear hg))
  refine wp_loop_rounds 1 ?_
  rw [rounds_succ]
  go_wp2
  go_ret
  exact ⟨rfl, G2.out⟩
theorem In_nb (h : Nb w p) (n : Int) :
    Calls Tryz.prog 14 #[.pointer p, .int .i64 n] w fun e w' => e = .returned (.slice none 0 0) ∧ w.grownBy w' none := by
  have OB := Lib.hid (Objects_nb h)
  clear h
  go_enter Tryz.func14, Tryz.ntmps14
  go_wp2_with (first
    | (go_at_call 13; (with_reducible refine OB.out.mono ?_); rintro e w2 ⟨rfl, hg⟩; have G2 := Lib.hid hg; clear hg))
  refine wp_loop_rounds 1 ?_
  rw [rounds_succ]
  go_wp2
  go_ret
  exact ⟨rfl, G2.out⟩
end
end Go.Proofs.YtfhmhlofjoahlaaGreatDoor.st

/- The walk of the statement on a store that nobody made. -/
namespace Go.Proofs.YtfhmhlofjoahlaaGreatDoor.st
open Go.ChangeShapes Go.WideShapes Go.ChangeAt Go.RowKit Go.Maps gen calls cls geos ce
set_option linter.unusedVariables false
set_option maxHeartbeats 16000000
set_option maxRecDepth 100000
theorem nbn (w : World) : Nb w none := .inl rfl
/-- The world behind the box of the value. -/
abbrev bxv (w : World) (vk vn : Int) : World := w.alloc (.cells #[.int .i64 vk, .int .i64 vn] 23)
theorem StoreNobody_any (n vk vn : Int) (w : World) :
    Calls Tryz.prog 3 #[.int .i64 n, .agg #[.int .i64 vk, .int .i64 vn]] w fun e w' => e = .returned (.bool true) ∧ w.grownBy w' none := by
  have G0 := Lib.hid (World.grownBy_alloc w (.cells #[.int .i64 vk, .int .i64 vn] 23) none)
  have V0 := Lib.hid (ca.Two.new w vk vn 23)
  go_enter Tryz.func3, Tryz.ntmps3
  go_wp2_with (first
    | (go_at_call 4; (with_reducible refine (alive_any _).mono ?_); rintro e w1 ⟨rfl, hg⟩; have G := Lib.hid (show (bxv w vk vn).grownBy w1 none from hg); clear hg)
    | (go_at_call 5; (with_reducible refine (Fast_nb (nb_of Z.out) n).mono ?_); rintro e wx ⟨rfl, hg⟩; have Z := Lib.hid (Z.out.new hg); have G := Lib.hid (G.out.trans hg); clear hg)
    | (go_at_call 5; (with_reducible refine (Fast_nb (nbn _) n).mono ?_); rintro e wx ⟨rfl, hg⟩; have Z := Lib.hid ((Zs.made w1).new hg); have G := Lib.hid (G.out.trans ((World.grownBy_alloc _ _ _).trans hg)); clear hg)
    | (go_at_call 6; (with_reducible refine (Slow_nb (nb_of Z.out)).mono ?_); rintro e wx ⟨rfl, hg⟩; have Z := Lib.hid (Z.out.new hg); have G := Lib.hid (G.out.trans hg); clear hg)
    | (go_at_call 6; (with_reducible refine (Slow_nb (nbn _)).mono ?_); rintro e wx ⟨rfl, hg⟩; have Z := Lib.hid (Z.out.new hg); have G := Lib.hid (G.out.trans hg); clear hg)
    | (go_at_call 7; (with_reducible refine (Get_nb (nbn _) n).mono ?_); rintro e wx ⟨rfl, hg⟩; have Z := Lib.hid (Z.out.new hg); have G := Lib.hid (G.out.trans hg); clear hg)
    | (go_at_call 8; (with_reducible refine (Free_nb (nb_of Z.out) n).mono ?_); rintro e wx ⟨rfl, hg⟩; have Z := Lib.hid (Z.out.new hg); have G := Lib.hid (G.out.trans hg); obtain ⟨c0, c1⟩ := (V0.out.made G.out).both; clear hg)
    | (go_at_call 8; (with_reducible refine (Free_nb (nbn _) n).mono ?_); rintro e wx ⟨rfl, hg⟩; have Z := Lib.hid (Z.out.new ((World.grownBy_alloc _ _ _).trans hg)); have G := Lib.hid (G.out.trans ((World.grownBy_alloc _ _ _).trans hg)); clear hg)
    | (go_at_call 9; (with_reducible refine (Set_nb (nbn _) n vk vn).mono ?_); rintro e wx ⟨rfl, hg⟩; have Z := Lib.hid (Z.out.new hg); have G := Lib.hid (G.out.trans hg); obtain ⟨c0, c1⟩ := (V0.out.made G.out).both; clear hg)
    | (go_at_call 9; (with_reducible refine (Set_nb (nb_of Z.out) n vk vn).mono ?_); rintro e wx ⟨rfl, hg⟩; have Z := Lib.hid (Z.out.new hg); have G := Lib.hid (G.out.trans hg); clear hg)
    | (go_at_call 10; (with_reducible refine (Trim_nb (nb_of Z.out) n).mono ?_); rintro e wx ⟨rfl, hg⟩; have Z := Lib.hid (Z.out.new hg); have G := Lib.hid (G.out.trans hg); clear hg)
    | (go_at_call 10; (with_reducible refine (Trim_nb (nbn _) n).mono ?_); rintro e wx ⟨rfl, hg⟩; have Z := Lib.hid (Z.out.new hg); have G := Lib.hid (G.out.trans hg); clear hg)
    | (go_at_call 11; (with_reducible refine (Fields_nb (nb_of Z.out) n).mono ?_); rintro e wx ⟨rfl, hg⟩; have Z := Lib.hid (Z.out.new hg); have G := Lib.hid (G.out.trans hg); clear hg)
    | (go_at_call 11; (with_reducible refine (Fields_nb (nbn _) n).mono ?_); rintro e wx ⟨rfl, hg⟩; have Z := Lib.hid (Z.out.new hg); have G := Lib.hid (G.out.trans hg); clear hg)
    | (go_at_call 12; (with_reducible refine (Serial_nb (nb_of Z.out) n).mono ?_); rintro e wx ⟨rfl, hg⟩; have Z := Lib.hid (Z.out.new hg); have G := Lib.hid (G.out.trans hg); clear hg)
    | (go_at_call 12; (with_reducible refine (Serial_nb (nbn _) n).mono ?_); rintro e wx ⟨rfl, hg⟩; have Z := Lib.hid (Z.out.new hg); have G := Lib.hid (G.out.trans hg); clear hg)
    | (go_at_call 13; (with_reducible refine (Objects_nb (nb_of Z.out)).mono ?_); rintro e wx ⟨rfl, hg⟩; have Z := Lib.hid (Z.out.new hg); have G := Lib.hid (G.out.trans hg); clear hg)
    | (go_at_call 13; (with_reducible refine (Objects_nb (nbn _)).mono ?_); rintro e wx ⟨rfl, hg⟩; have Z := Lib.hid (Z.out.new hg); have G := Lib.hid (G.out.trans hg); clear hg)
    | (go_at_call 14; (with_reducible refine (In_nb (nb_of Z.out) n).mono ?_); rintro e wx ⟨rfl, hg⟩; have Z := Lib.hid (Z.out.new hg); have G := Lib.hid (G.out.trans hg); clear hg)
    | (go_at_call 14; (with_reducible refine (In_nb (nbn _) n).mono ?_); rintro e wx ⟨rfl, hg⟩; have Z := Lib.hid (Z.out.new hg); have G := Lib.hid (G.out.trans hg); clear hg)
    | (go_at_call 15; (with_reducible refine (Quit_nb (nb_of Z.out) n).mono ?_); rintro e wx ⟨rfl, hg⟩; have Z := Lib.hid (Z.out.new hg); have G := Lib.hid (G.out.trans hg); clear hg)
    | (go_at_call 15; (with_reducible refine (Quit_nb (nbn _) n).mono ?_); rintro e wx ⟨rfl, hg⟩; have Z := Lib.hid (Z.out.new hg); have G := Lib.hid (G.out.trans hg); clear hg)
    | (go_at_call 16; (with_reducible refine (Pages_nb (nb_of Z.out)).mono ?_); rintro e wx ⟨rfl, hg⟩; have Z := Lib.hid (Z.out.new hg); have G := Lib.hid (G.out.trans hg); clear hg)
    | (go_at_call 16; (with_reducible refine (Pages_nb (nbn _)).mono ?_); rintro e wx ⟨rfl, hg⟩; have Z := Lib.hid (Z.out.new hg); have G := Lib.hid (G.out.trans hg); clear hg)
    | (go_at_call 17; (with_reducible refine (Kind_nb (nb_of Z.out) n).mono ?_); rintro e wx ⟨rfl, hg⟩; have Z := Lib.hid (Z.out.new hg); have G := Lib.hid (G.out.trans hg); clear hg)
    | (go_at_call 17; (with_reducible refine (Kind_nb (nbn _) n).mono ?_); rintro e wx ⟨rfl, hg⟩; have Z := Lib.hid (Z.out.new hg); have G := Lib.hid (G.out.trans hg); clear hg)
    | (go_at_call 18; (with_reducible refine (Owner_nb (nb_of Z.out) n).mono ?_); rintro e wx ⟨rfl, hg⟩; have Z := Lib.hid (Z.out.new hg); have G := Lib.hid (G.out.trans hg); clear hg)
    | (go_at_call 18; (with_reducible refine (Owner_nb (nbn _) n).mono ?_); rintro e wx ⟨rfl, hg⟩; have Z := Lib.hid (Z.out.new hg); have G := Lib.hid (G.out.trans hg); clear hg)
    | (go_at_call 19; (with_reducible refine (Made_nb (nb_of Z.out)).mono ?_); rintro e wx ⟨rfl, hg⟩; have Z := Lib.hid (Z.out.new hg); have G := Lib.hid (G.out.trans hg); clear hg)
    | (go_at_call 19; (with_reducible refine (Made_nb (nbn _)).mono ?_); rintro e wx ⟨rfl, hg⟩; have Z := Lib.hid (Z.out.new hg); have G := Lib.hid (G.out.trans hg); clear hg))
  go_ret
  exact ⟨rfl, G0.out.trans G.out⟩
end Go.Proofs.YtfhmhlofjoahlaaGreatDoor.st
