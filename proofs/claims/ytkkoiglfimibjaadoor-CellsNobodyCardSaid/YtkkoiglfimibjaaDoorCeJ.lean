/- The walk of the statement on what nobody made. -/
import Derived.Test.YtkkoiglfimibjaaDoorCeI
namespace Go.Proofs.YtkkoiglfimibjaaDoor.ce
open Go.ChangeShapes Go.WideShapes Go.ChangeAt Go.RowKit gen calls cls geos
set_option linter.unusedVariables false
set_option maxHeartbeats 8000000
set_option maxRecDepth 100000
/-- What stands through the walk: the cell at b is nobody's. -/
structure Nd (w : World) (b : Nat) (cur : World) : Prop where
  grown : w.grownBy cur none
  nob : Nob cur (some ⟨b, 0, none⟩)
  lt : b < cur.heap.size
theorem grown_below {a w : World} (h : a.grownBy w none) : Below a.heap.size a w := li.grown_below h
theorem nb (w : World) : Nob w none := .inl rfl
theorem Nd.go {w cur cur' : World} {b : Nat} (h : Nd w b cur) (hg : cur.grownBy cur' none) : Nd w b cur' := ⟨h.grown.trans hg, h.nob.kept hg, Nat.lt_of_lt_of_le h.lt hg.size⟩
theorem Nd.gr {w cur cur' : World} {b : Nat} {L : List Nat} (h : Nd w b cur) (hg : Gr L cur cur') (hL : ∀ k, k ∈ L → b < k ∧ w.heap.size ≤ k) : Nd w b cur' := by
  refine ⟨Gr.grown h.grown hg (fun k hk => (hL k hk).2), ?_, Nat.lt_of_lt_of_le h.lt hg.size⟩
  rcases h.nob with h1 | ⟨c, h1, h2⟩
  · cases h1
  · injection h1 with h1
    injection h1 with h1
    subst h1
    exact .inr ⟨_, rfl, hg.cell h2 (fun hk => by have := (hL _ hk).1; exact Nat.lt_irrefl _ this)⟩
theorem Nd.new {w w1 : World} (hg : w.grownBy w1 none) : Nd w w1.heap.size (w1.alloc (.cells #[.pointer none] 47)) :=
  ⟨hg.trans (World.grownBy_alloc _ _ _), .inr ⟨_, rfl, by simp [go_sem]⟩, by simp⟩
theorem Nd.over {w cur : World} {b h r q s : Nat} (H : Nd w b cur) (h1 : cur.heap.size ≤ h ∧ cur.heap.size ≤ r ∧ cur.heap.size ≤ q ∧ cur.heap.size ≤ s) : ∀ k, k ∈ [h, r, q, s] → b < k ∧ w.heap.size ≤ k := by
  intro k hk
  have := H.lt
  have := H.grown.size
  simp at hk
  omega
def y1 : List Int := ch.builtN x0 0 4 8
def d1 : List Int := cput c0 0 0 8
def y2 : List Int := mm.fillN y1 0 0 4
def d2 : List Int := cput d1 0 1 7
theorem y1_bd : ch.Bd y1 := ch.Bd.built (ch.Bd.zeros 64) (by decide) (by decide) 8 (by decide)
theorem k20 : pg.Ks [2, 0] := fun i => by
  match i with
  | 0 => decide
  | 1 => decide
  | i + 2 => exact ⟨by simp, by simp⟩
section
variable {w w' : World} {c h g r m q s : Nat} {ws : List Nat}
theorem no_c (H : Hp w c h g r m q s (List.replicate 2 0) (List.replicate (32 * 2) 0) (List.replicate 128 0) bm.zeros) :
    Calls Tryd.prog 13 #[.pointer (some ⟨c, 0, none⟩), .int .i64 2] w (Did (.tuple #[.int .i64 0, .bool true]) c h g r m q s [2, 0] y1 d1 [] w) := by
  have := Carve_yes H 2 (by omega) (p := 0) (by decide) (by simp) (z := 4) (n := 8) rfl rfl
  rw [bm.nums_zeros] at this
  exact this
theorem no_t (H : Hp w c h g r m q s [2, 0] y1 d1 ws) (hn : bm.nums ws = []) :
    Calls Tryd.prog 14 #[.pointer (some ⟨c, 0, none⟩), .int .i64 0] w (Did (.tuple #[.int .i64 0, .bool true]) c h g r m q s [2, 0] y2 d2 [0] w) := by
  have := Take_some H k20 y1_bd 0 (k := 2) (f := 0) (n := 8) rfl rfl rfl rfl (by decide +kernel) (a := 0) (z := 4) rfl rfl (by rw [hn]; simp)
  rw [hn, show ch.lk y1 ((0 : Nat) : Int) 2 0 = 1 by decide +kernel] at this
  exact this
theorem y2_len : y2.length = 64 := by simp [y2, y1, x0, mm.fillN_length, ch.builtN_length]
theorem no_l (H : Hp w c h g r m q s [2, 0] y2 d2 ws) :
    Calls Tryd.prog 22 #[.pointer (some ⟨c, 0, none⟩), .int .i64 0] w fun e w' => e = rI 0 true ∧ w = w' := by
  have := Load_yes H 0 (by rw [y2_len]; decide)
  rw [show y2.getD 0 0 = 0 by decide +kernel] at this
  exact this
theorem no_s {g2 r2 : Nat} (H : mm.MemAt w g2 r2 y2) : Calls Tryd.prog 26 #[.pointer (some ⟨g2, 0, none⟩), .int .i64 0, .int .i64 7] w fun e w' => e = .returned (.bool true) ∧ mm.MemAt w' g2 r2 (y2.set 0 7) ∧ w.grownBy w' (some r2) :=
  mm.Store_yes H 0 7 (by rw [y2_len]; decide)
end
theorem CellsNobody_any (n v : Int) (w : World) (hn : fits n = true) : Calls Tryd.prog 5 #[.int .i64 n, .int .i64 v] w fun e w' => e = .returned (.bool true) ∧ w.grownBy w' none := by
  have HN := Lib.hid hn
  clear hn
  go_enter Tryd.func5, Tryd.ntmps5
  go_wp2_with (first
    | (go_at_call 6; (with_reducible refine (alive_any _).mono ?_); rintro e w1 ⟨rfl, hg⟩; have ST := Lib.hid (Nd.new hg); clear hg)
    | (have mark := M3; go_at_call 22; (with_reducible refine (no_l M4.out).mono ?_); rintro e w' ⟨rfl, rfl⟩)
    | (go_at_call 8; (with_reducible refine (New_any 2 2 (by decide) _).mono ?_); rintro e w2 ⟨c, h, g, r, m, q, s, rfl, hm, hl, hw⟩; have M1 := Lib.hid hm; have O := Lib.hid (Nd.over (h := h) (r := r) (q := q) (s := s) ST.out (by omega)); have ST := Lib.hid (ST.out.go hw); clear hm hw hl)
    | (have mark := M1; go_at_call 13; (with_reducible refine (no_c M1.out).mono ?_); rintro e w3 ⟨ws3, rfl, hm, hx, hw⟩; have M2 := Lib.hid hm; have X2 := Lib.hid hx; have ST := Lib.hid (ST.out.gr hw O.out); clear hm hx hw)
    | (have mark := M2; go_at_call 14; (with_reducible refine (no_t M2.out X2.out).mono ?_); rintro e w4 ⟨ws4, rfl, hm, hx, hw⟩; have M3 := Lib.hid hm; have ST := Lib.hid (ST.out.gr hw O.out); clear hm hx hw)
    | (have mark := M3; go_at_call 25; (with_reducible refine (Mem_any M3.out).mono ?_); rintro e w5 ⟨g2, r2, rfl, hm, h1, h2, hw⟩; have E5 := Lib.hid hm; have R5 := Lib.hid h2; have G5 := Lib.hid hw; clear hm h1 h2 hw)
    | (have mark := E5; go_at_call 26; (with_reducible refine (no_s E5.out).mono ?_); rintro e w6 ⟨rfl, hm, hg⟩; have G6 := Lib.hid (li.grown_new G5.out hg R5.out); have M4 := Lib.hid (M3.out.new G6.out); have ST := Lib.hid (ST.out.go G6.out); clear hm hg)
    | (go_at_call 13; (with_reducible refine (Carve_nob (nb _)).mono ?_); rintro e wn ⟨rfl, hg⟩; have ST := Lib.hid (ST.out.go hg); clear hg)
    | (go_at_call 13; (with_reducible refine (Carve_nob ST.out.nob).mono ?_); rintro e wn ⟨rfl, hg⟩; have ST := Lib.hid (ST.out.go hg); clear hg)
    | (go_at_call 14; (with_reducible refine (Take_nob (nb _) n HN.out).mono ?_); rintro e wn ⟨rfl, hg⟩; have ST := Lib.hid (ST.out.go hg); clear hg)
    | (go_at_call 15; (with_reducible refine (Large_nob (nb _)).mono ?_); rintro e wn ⟨rfl, hg⟩; have ST := Lib.hid (ST.out.go hg); clear hg)
    | (go_at_call 15; (with_reducible refine (Large_nob ST.out.nob).mono ?_); rintro e wn ⟨rfl, hg⟩; have ST := Lib.hid (ST.out.go hg); clear hg)
    | (go_at_call 22; (with_reducible refine (Load_nob (nb _) n).mono ?_); rintro e wn ⟨rfl, hg⟩; have ST := Lib.hid (ST.out.go hg); clear hg)
    | (go_at_call 22; (with_reducible refine (Load_nob ST.out.nob n).mono ?_); rintro e wn ⟨rfl, hg⟩; have ST := Lib.hid (ST.out.go hg); clear hg)
    | (go_at_call 16; (with_reducible refine (Give_nob (nb _) n).mono ?_); rintro e wn ⟨rfl, hg⟩; have ST := Lib.hid (ST.out.go hg); clear hg)
    | (go_at_call 16; (with_reducible refine (Give_nob ST.out.nob n).mono ?_); rintro e wn ⟨rfl, hg⟩; have ST := Lib.hid (ST.out.go hg); clear hg)
    | (go_at_call 17; (with_reducible refine (Drop_nob (nb _) n).mono ?_); rintro e wn ⟨rfl, hg⟩; have ST := Lib.hid (ST.out.go hg); clear hg)
    | (go_at_call 17; (with_reducible refine (Drop_nob ST.out.nob n).mono ?_); rintro e wn ⟨rfl, hg⟩; have ST := Lib.hid (ST.out.go hg); clear hg)
    | (go_at_call 23; (with_reducible refine (Is_nob (nb _) n).mono ?_); rintro e wn ⟨rfl, hg⟩; have ST := Lib.hid (ST.out.go hg); clear hg)
    | (go_at_call 23; (with_reducible refine (Is_nob ST.out.nob n).mono ?_); rintro e wn ⟨rfl, hg⟩; have ST := Lib.hid (ST.out.go hg); clear hg)
    | (go_at_call 24; (with_reducible refine (Store_nob (nb _) n v).mono ?_); rintro e wn ⟨rfl, hg⟩; have ST := Lib.hid (ST.out.go hg); clear hg)
    | (go_at_call 24; (with_reducible refine (Store_nob ST.out.nob n v).mono ?_); rintro e wn ⟨rfl, hg⟩; have ST := Lib.hid (ST.out.go hg); clear hg)
    | (go_at_call 25; (with_reducible refine (Mem_nob (nb _)).mono ?_); rintro e wn ⟨rfl, hg⟩; have ST := Lib.hid (ST.out.go hg); clear hg)
    | (go_at_call 25; (with_reducible refine (Mem_nob ST.out.nob).mono ?_); rintro e wn ⟨rfl, hg⟩; have ST := Lib.hid (ST.out.go hg); clear hg)
    | (go_at_call 27; (with_reducible refine (Left_nob (nb _) n).mono ?_); rintro e wn ⟨rfl, hg⟩; have ST := Lib.hid (ST.out.go hg); clear hg)
    | (go_at_call 27; (with_reducible refine (Left_nob ST.out.nob n).mono ?_); rintro e wn ⟨rfl, hg⟩; have ST := Lib.hid (ST.out.go hg); clear hg)
    | (go_at_call 21; (with_reducible refine (Base_nob (nb _) n).mono ?_); rintro e wn ⟨rfl, hg⟩; have ST := Lib.hid (ST.out.go hg); clear hg)
    | (go_at_call 21; (with_reducible refine (Base_nob ST.out.nob n).mono ?_); rintro e wn ⟨rfl, hg⟩; have ST := Lib.hid (ST.out.go hg); clear hg)
    | (go_at_call 20; (with_reducible refine (Kind_nob (nb _) n).mono ?_); rintro e wn ⟨rfl, hg⟩; have ST := Lib.hid (ST.out.go hg); clear hg)
    | (go_at_call 20; (with_reducible refine (Kind_nob ST.out.nob n).mono ?_); rintro e wn ⟨rfl, hg⟩; have ST := Lib.hid (ST.out.go hg); clear hg)
    | (go_at_call 28; (with_reducible refine (Free_nob (nb _)).mono ?_); rintro e wn ⟨rfl, hg⟩; have ST := Lib.hid (ST.out.go hg); clear hg)
    | (go_at_call 28; (with_reducible refine (Free_nob ST.out.nob).mono ?_); rintro e wn ⟨rfl, hg⟩; have ST := Lib.hid (ST.out.go hg); clear hg)
    | (go_at_call 18; (with_reducible refine (All_nob (nb _)).mono ?_); rintro e wn ⟨rfl, hg⟩; have ST := Lib.hid (ST.out.go hg); clear hg)
    | (go_at_call 18; (with_reducible refine (All_nob ST.out.nob).mono ?_); rintro e wn ⟨rfl, hg⟩; have ST := Lib.hid (ST.out.go hg); clear hg))
  go_ret
  exact ⟨rfl, ST.out.grown⟩
end Go.Proofs.YtkkoiglfimibjaaDoor.ce
