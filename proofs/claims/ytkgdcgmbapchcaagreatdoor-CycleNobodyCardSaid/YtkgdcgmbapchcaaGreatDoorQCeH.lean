/- Texts that this claim stands on. -/
import Derived.OwnWalk
import Derived.Test.YtkgdcgmbapchcaaGreatDoorQCeU
import Derived.Test.YtkgdcgmbapchcaaGreatDoorQShf
import Derived.Test.YtkgdcgmbapchcaaGreatDoorQStW
namespace Go.Proofs.YtkgdcgmbapchcaaGreatDoor.ce
open Go.ChangeShapes Go.WideShapes Go.ChangeAt Go.RowKit gen calls cls geos
set_option linter.unusedVariables false
set_option maxHeartbeats 4000000
set_option maxRecDepth 100000
def Nob (w : World) (p : Option Addr) : Prop := p = none ∨ ∃ c, p = some ⟨c, 0, none⟩ ∧ w.cell? ⟨c, 0, none⟩ = some (.pointer none)
structure Zh (w : World) (h : Nat) : Prop where
  h0 : w.cell? ⟨h, 0, none⟩ = some (.pointer none)
  h1 : w.cell? ⟨h, 1, none⟩ = some (.pointer none)
  hs : w.cell? ⟨h, 130, none⟩ = some (.pointer none)
theorem Zh.new (w : World) {B : Nat} (hB : w.heap.size = B) : Zh (w.alloc (.cells Tryz.zeroCells197 197)) B := by
  subst hB
  have e := heap_alloc_new w (.cells Tryz.zeroCells197 197)
  rw [zero_len] at e ⊢
  exact ⟨by rw [cell_of_row _ _ 0 _ _ _ e]; rfl, by rw [cell_of_row _ _ 1 _ _ _ e]; rfl, by rw [cell_of_row _ _ 130 _ _ _ e]; rfl⟩
theorem made_nob {p : Option Addr} {w : World} (hn : Nob w p) : Calls Tryz.prog 197 #[.pointer p] w fun e w' => ∃ h, e = .returned (.pointer (some ⟨h, 0, none⟩)) ∧ Zh w' h ∧ w.grownBy w' none := by
  rcases hn with rfl | ⟨c, rfl, hc⟩
  · go_enter Tryz.func197, Tryz.ntmps197
    go_wp2
    go_ret
    exact ⟨_, rfl, Zh.new w rfl, World.grownBy_alloc _ _ _⟩
  · go_enter Tryz.func197, Tryz.ntmps197
    go_wp2
    go_ret
    exact ⟨_, rfl, Zh.new w rfl, World.grownBy_alloc _ _ _⟩
theorem pn (w : World) : pg.Nobody w none := .inl rfl
theorem Is_nob {P : Option Addr} {w : World} (hn : Nob w P) (a : Int) :
    Calls Tryz.prog 236 #[.pointer P, .int .i64 a] w fun e w' => e = bool1 false ∧ w.grownBy w' none := by
  have HN := Lib.hid hn
  clear hn
  go_enter Tryz.func236, Tryz.ntmps236
  go_wp2_with (first
    | (go_at_call 197; (with_reducible refine (made_nob HN.out).mono ?_); rintro e w1 ⟨h, rfl, hz, hg⟩; have Z1 := Lib.hid hz; have G1 := Lib.hid hg; have f0 := hz.h0; have f1 := hz.h1; have f2 := hz.hs; clear hz hg)
    | (go_at_call 200; (with_reducible refine (bm.Has_out _ _ _ (bm.place_nil _ _)).mono ?_); rintro e w' ⟨rfl, hw⟩; subst hw))
  go_ret
  exact ⟨rfl, G1.out⟩
theorem Free_nob {P : Option Addr} {w : World} (hn : Nob w P) :
    Calls Tryz.prog 170 #[.pointer P] w fun e w' => e = int1 0 ∧ w.grownBy w' none := by
  have HN := Lib.hid hn
  clear hn
  go_enter Tryz.func170, Tryz.ntmps170
  go_wp2_with (first
    | (go_at_call 197; (with_reducible refine (made_nob HN.out).mono ?_); rintro e w1 ⟨h, rfl, hz, hg⟩; have Z1 := Lib.hid hz; have G1 := Lib.hid hg; have f0 := hz.h0; have f1 := hz.h1; have f2 := hz.hs; clear hz hg)
    | (go_at_call 238; (with_reducible refine (pg.Count_nobody (pn _)).mono ?_); rintro e w2 ⟨rfl, hg⟩; have G2 := Lib.hid (G1.out.trans hg); clear hg))
  go_ret
  exact ⟨rfl, G2.out⟩
theorem All_nob {P : Option Addr} {w : World} (hn : Nob w P) :
    Calls Tryz.prog 128 #[.pointer P] w fun e w' => e = .returned (.slice none 0 0) ∧ w.grownBy w' none := by
  have HN := Lib.hid hn
  clear hn
  go_enter Tryz.func128, Tryz.ntmps128
  go_wp2_with (first
    | (go_at_call 197; (with_reducible refine (made_nob HN.out).mono ?_); rintro e w1 ⟨h, rfl, hz, hg⟩; have Z1 := Lib.hid hz; have G1 := Lib.hid hg; have f0 := hz.h0; have f1 := hz.h1; have f2 := hz.hs; clear hz hg)
    | (go_at_call 198; (with_reducible refine (bm.All_nil _).mono ?_); rintro e w' ⟨rfl, hw⟩; subst hw))
  go_ret
  exact ⟨rfl, G1.out⟩
end Go.Proofs.YtkgdcgmbapchcaaGreatDoor.ce
namespace Go.Proofs.YtkgdcgmbapchcaaGreatDoor.ca
end Go.Proofs.YtkgdcgmbapchcaaGreatDoor.ca
namespace Go.Proofs.YtkgdcgmbapchcaaGreatDoor.st
open Go.ChangeShapes Go.WideShapes Go.ChangeAt Go.RowKit Go.Maps gen calls cls geos ce
set_option linter.unusedVariables false
set_option maxHeartbeats 4000000
set_option maxRecDepth 100000
structure Zs (w : World) (a : Nat) : Prop where
  z0 : w.cell? ⟨a, 0, none⟩ = some (.pointer none)
  z1 : w.cell? ⟨a, 1, none⟩ = some (.pointer none)
  z2 : w.cell? ⟨a, 2, none⟩ = some (.int .i64 0)
  z3 : w.cell? ⟨a, 3, none⟩ = some (.int .i64 0)
def Nb (w : World) (p : Option Addr) : Prop := p = none ∨ ∃ a, p = some ⟨a, 0, none⟩ ∧ Zs w a
theorem cn (w : World) : ce.Nob w none := .inl rfl
section
variable {w w' : World} {a : Nat} {p : Option Addr}
theorem Zs.new (h : Zs w a) (hg : w.grownBy w' none) : Zs w' a := ⟨hg.cell h.z0 (by simp), hg.cell h.z1 (by simp), hg.cell h.z2 (by simp), hg.cell h.z3 (by simp)⟩
theorem Zs.made (w : World) : Zs (w.alloc (.cells #[.pointer none, .pointer none, .int .i64 0, .int .i64 0] 149)) w.heap.size := ⟨by simp [go_sem], by simp [go_sem], by simp [go_sem], by simp [go_sem]⟩
theorem Nb.new (h : Nb w p) (hg : w.grownBy w' none) : Nb w' p := by
  rcases h with h | ⟨a, e, z⟩
  · exact .inl h
  · exact .inr ⟨a, e, z.new hg⟩
theorem known_nb (h : Nb w p) : Calls Tryz.prog 127 #[.pointer p] w fun e w' => ∃ a, e = .returned (.pointer (some ⟨a, 0, none⟩)) ∧ Zs w' a ∧ w.grownBy w' none := by
  rcases h with rfl | ⟨a, rfl, z⟩
  · go_enter Tryz.func127, Tryz.ntmps127
    go_wp2
    go_ret
    exact ⟨_, rfl, Zs.made w, World.grownBy_alloc _ _ _⟩
  · have Z := Lib.hid z
    clear z
    go_enter Tryz.func127, Tryz.ntmps127
    go_wp2
    go_ret
    exact ⟨a, rfl, Z.out, World.grownBy.refl _ _⟩
theorem Objects_nb (h : Nb w p) :
    Calls Tryz.prog 65 #[.pointer p] w fun e w' => e = .returned (.slice none 0 0) ∧ w.grownBy w' none := by
  have KN := Lib.hid (known_nb h)
  have CE := Lib.hid (fun W => ce.All_nob (cn W))
  clear h
  go_enter Tryz.func65, Tryz.ntmps65
  go_wp2_with (first
    | (go_at_call 127; (with_reducible refine KN.out.mono ?_); rintro e w1 ⟨a, rfl, hz, hg⟩; have Z1 := Lib.hid hz; have G1 := Lib.hid hg; have f0 := hz.z0; have f1 := hz.z1; clear hz hg)
    | (go_at_call 128; (with_reducible refine (CE.out _).mono ?_); rintro e w2 ⟨rfl, hg⟩; have G2 := Lib.hid (G1.out.trans hg); clear hg))
  go_ret
  exact ⟨rfl, G2.out⟩
theorem Pages_nb (h : Nb w p) :
    Calls Tryz.prog 99 #[.pointer p] w fun e w' => e = int1 0 ∧ w.grownBy w' none := by
  have KN := Lib.hid (known_nb h)
  have CE := Lib.hid (fun W => Free_nob (cn W))
  clear h
  go_enter Tryz.func99, Tryz.ntmps99
  go_wp2_with (first
    | (go_at_call 127; (with_reducible refine KN.out.mono ?_); rintro e w1 ⟨a, rfl, hz, hg⟩; have Z1 := Lib.hid hz; have G1 := Lib.hid hg; have f0 := hz.z0; have f1 := hz.z1; clear hz hg)
    | (go_at_call 170; (with_reducible refine (CE.out _).mono ?_); rintro e w2 ⟨rfl, hg⟩; have G2 := Lib.hid (G1.out.trans hg); clear hg))
  go_ret
  exact ⟨rfl, G2.out⟩
theorem first_nb (h : Nb w p) (n : Int) :
    Calls Tryz.prog 169 #[.pointer p, .int .i64 n] w fun e w' => e = .returned (.tuple #[.int .i64 0, .int .i64 0, .bool false]) ∧ w.grownBy w' none := by
  have KN := Lib.hid (known_nb h)
  have IS := Lib.hid (fun W => Is_nob (cn W) n)
  clear h
  go_enter Tryz.func169, Tryz.ntmps169
  go_wp2_with (first
    | (go_at_call 127; (with_reducible refine KN.out.mono ?_); rintro e w1 ⟨a, rfl, hz, hg⟩; have G1 := Lib.hid hg; have f0 := hz.z0; clear hz hg)
    | (go_at_call 236; (with_reducible refine (IS.out _).mono ?_); rintro e w2 ⟨rfl, hg⟩; have G2 := Lib.hid (G1.out.trans hg); clear hg))
  go_ret3
  exact ⟨rfl, G2.out⟩
theorem Fields_nb (h : Nb w p) (n : Int) :
    Calls Tryz.prog 97 #[.pointer p, .int .i64 n] w fun e w' => e = int1 (-1) ∧ w.grownBy w' none := by
  have F := Lib.hid (first_nb h n)
  clear h
  go_enter Tryz.func97, Tryz.ntmps97
  go_wp2_with (go_at_call 169; (with_reducible refine F.out.mono ?_); rintro e w2 ⟨rfl, hg⟩; have G2 := Lib.hid hg; clear hg)
  go_ret
  exact ⟨rfl, G2.out⟩
theorem Serial_nb (h : Nb w p) (n : Int) :
    Calls Tryz.prog 98 #[.pointer p, .int .i64 n] w fun e w' => e = int1 (-1) ∧ w.grownBy w' none := by
  have F := Lib.hid (first_nb h n)
  clear h
  go_enter Tryz.func98, Tryz.ntmps98
  go_wp2_with (go_at_call 169; (with_reducible refine F.out.mono ?_); rintro e w2 ⟨rfl, hg⟩; have G2 := Lib.hid hg; clear hg)
  go_ret
  exact ⟨rfl, G2.out⟩
theorem field_nb (h : Nb w p) (n : Int) :
    Calls Tryz.prog 158 #[.pointer p, .int .i64 n, .int .i64 0] w fun e w' => e = rI 0 false ∧ w.grownBy w' none := by
  have F := Lib.hid (Fields_nb h n)
  clear h
  go_enter Tryz.func158, Tryz.ntmps158
  go_wp2_with (go_at_call 97; (with_reducible refine F.out.mono ?_); rintro e w2 ⟨rfl, hg⟩; have G2 := Lib.hid hg; clear hg)
  go_ret2
  exact ⟨rfl, G2.out⟩
theorem Get_nb (h : Nb w p) (n : Int) :
    Calls Tryz.prog 83 #[.pointer p, .int .i64 n, .int .i64 0] w fun e w' => e = wd.ans 0 0 false ∧ w.grownBy w' none := by
  have FD := Lib.hid (fun W (hg : w.grownBy W none) => field_nb (h.new hg) n)
  have G0 := Lib.hid (World.grownBy_alloc w (.cells #[.int .i64 0, .int .i64 0] 36) none)
  have T0 := Lib.hid (wd.Two.new w 36 0 0 rfl)
  clear h
  go_enter Tryz.func83, Tryz.ntmps83
  go_wp2_with (go_at_call 158; (with_reducible refine (FD.out _ G0.out).mono ?_); rintro e w2 ⟨rfl, hg⟩; have G2 := Lib.hid (G0.out.trans hg); have T2 := wd.Two.below (li.grown_below hg) T0.out; obtain ⟨c0, c1, c2, c3⟩ := T2; clear hg)
  refine bodyPost_ret (v := .tuple #[.agg #[.int .i64 0, .int .i64 0], .bool false]) ?_ rfl ⟨rfl, below_new (((li.grown_below G2.out).setCell (Nat.le_refl _) _).setCell (Nat.le_refl _) _)⟩
  simp [results, Tryz.results83, go_sem, *]
end
end Go.Proofs.YtkgdcgmbapchcaaGreatDoor.st
