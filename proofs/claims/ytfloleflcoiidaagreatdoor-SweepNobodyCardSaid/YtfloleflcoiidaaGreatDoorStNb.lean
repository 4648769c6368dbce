/- A store that nobody made. -/
import Derived.Test.YtfloleflcoiidaaGreatDoorStW
import Derived.Test.YtfloleflcoiidaaGreatDoorCeH
import Derived.Test.YtfloleflcoiidaaGreatDoorCaN
import Derived.OwnWalk
namespace Go.Proofs.YtfloleflcoiidaaGreatDoor.st
open Go.ChangeShapes Go.WideShapes Go.ChangeAt Go.RowKit Go.Maps gen calls cls geos ce
set_option linter.unusedVariables false
set_option maxHeartbeats 4000000
set_option maxRecDepth 100000
/-- A store of nothing. -/
structure Zs (w : World) (a : Nat) : Prop where
  z0 : w.cell? ⟨a, 0, none⟩ = some (.pointer none)
  z1 : w.cell? ⟨a, 1, none⟩ = some (.pointer none)
  z2 : w.cell? ⟨a, 2, none⟩ = some (.int .i64 0)
  z3 : w.cell? ⟨a, 3, none⟩ = some (.int .i64 0)
/-- No store, or one of nothing. -/
def Nb (w : World) (p : Option Addr) : Prop := p = none ∨ ∃ a, p = some ⟨a, 0, none⟩ ∧ Zs w a
theorem cn (w : World) : ce.Nob w none := .inl rfl
theorem an (w : World) : ca.Nob w none := .inl rfl
section
variable {w w' : World} {a : Nat} {p : Option Addr}
theorem Zs.new (h : Zs w a) (hg : w.grownBy w' none) : Zs w' a := ⟨hg.cell h.z0 (by simp), hg.cell h.z1 (by simp), hg.cell h.z2 (by simp), hg.cell h.z3 (by simp)⟩
theorem Zs.made (w : World) : Zs (w.alloc (.cells #[.pointer none, .pointer none, .int .i64 0, .int .i64 0] 80)) w.heap.size := ⟨by simp [go_sem], by simp [go_sem], by simp [go_sem], by simp [go_sem]⟩
theorem Nb.new (h : Nb w p) (hg : w.grownBy w' none) : Nb w' p := by
  rcases h with h | ⟨a, e, z⟩
  · exact .inl h
  · exact .inr ⟨a, e, z.new hg⟩
theorem nb_of (z : Zs w a) : Nb w (some ⟨a, 0, none⟩) := .inr ⟨a, rfl, z⟩
theorem known_nb (h : Nb w p) : Calls Tryz.prog 38 #[.pointer p] w fun e w' => ∃ a, e = .returned (.pointer (some ⟨a, 0, none⟩)) ∧ Zs w' a ∧ w.grownBy w' none := by
  rcases h with rfl | ⟨a, rfl, z⟩
  · go_enter Tryz.func38, Tryz.ntmps38
    go_wp2
    go_ret
    exact ⟨_, rfl, Zs.made w, World.grownBy_alloc _ _ _⟩
  · have Z := Lib.hid z
    clear z
    go_enter Tryz.func38, Tryz.ntmps38
    go_wp2
    go_ret
    exact ⟨a, rfl, Z.out, World.grownBy.refl _ _⟩
theorem from_nb (h : Zs w a) (q n : Int) (hq : fits q = true) :
    Calls Tryz.prog 82 #[.pointer (some ⟨a, 0, none⟩), .int .i64 q, .int .i64 n] w fun e w' => e = rI 0 false ∧ w.grownBy w' none := by
  have TK := Lib.hid (Take_nob (cn w) q hq)
  have f0 := h.z0
  clear h hq
  go_enter Tryz.func82, Tryz.ntmps82
  go_wp2_with (first
    | (go_at_call 121; (with_reducible refine TK.out.mono ?_); rintro e w2 ⟨rfl, hg⟩; have G2 := Lib.hid hg; clear hg))
  go_ret2
  exact ⟨rfl, G2.out⟩
theorem Fast_nb (h : Nb w p) (n : Int) :
    Calls Tryz.prog 79 #[.pointer p, .int .i64 0, .int .i64 n] w fun e w' => e = rI 0 false ∧ w.grownBy w' none := by
  have of := ofn_wide n
  have KN := Lib.hid (known_nb h)
  have PG := Lib.hid (fun W => ca.Page_nob (an W) 0 (ofn n) rfl (by simp [fits]; omega))
  clear h of
  go_enter Tryz.func79, Tryz.ntmps79
  go_wp2_with (first
    | (go_at_call 38; (with_reducible refine KN.out.mono ?_); rintro e w1 ⟨a, rfl, hz, hg⟩; have Z1 := Lib.hid hz; have G1 := Lib.hid hg; have f1 := hz.z1; clear hz hg))
  go_region_held3 (fun W => W.cell? ⟨a, 1, none⟩ = some (.pointer none)) (first | exact f1 | exact f2 | exact f3 | go_keep) (first
    | (go_at_call 76; (with_reducible refine (of_any _ _).mono ?_); rintro e w' ⟨rfl, rfl⟩)
    | (go_at_call 116; (with_reducible refine (PG.out _).mono ?_); rintro e w2 ⟨rfl, hg⟩; have G2 := Lib.hid (((ca.grown_drewN _ _ _).trans hg) : World.grownBy w1 w2 none); have f2 := (Z1.out.new G2.out).z1; clear hg)
    | (go_at_call 116; (with_reducible refine (PG.out _).mono ?_); rintro e w2 ⟨rfl, hg⟩; have G2 := Lib.hid (((ca.grown_drew _ _).trans hg) : World.grownBy w1 w2 none); have f2 := (Z1.out.new G2.out).z1; clear hg)
    | (go_at_call 116; (with_reducible refine (PG.out _).mono ?_); rintro e w2 ⟨rfl, hg⟩; have G2 := Lib.hid (hg : World.grownBy w1 w2 none); have f2 := (Z1.out.new G2.out).z1; clear hg)
    | (go_at_call 82; (with_reducible refine (from_nb (Z1.out.new (G2.out.trans (ca.grown_drewN _ _ _))) (-1) n rfl).mono ?_); rintro e w3 ⟨rfl, hg⟩; have G3 := Lib.hid (World.grownBy.trans (G2.out.trans (ca.grown_drewN _ _ _)) hg); have f3 := (Z1.out.new G3.out).z1; clear hg)
    | (go_at_call 82; (with_reducible refine (from_nb (Z1.out.new (G2.out.trans (ca.grown_drew _ _))) (-1) n rfl).mono ?_); rintro e w3 ⟨rfl, hg⟩; have G3 := Lib.hid (World.grownBy.trans (G2.out.trans (ca.grown_drew _ _)) hg); have f3 := (Z1.out.new G3.out).z1; clear hg)
    | (go_at_call 82; (with_reducible refine (from_nb (Z1.out.new G2.out) (-1) n rfl).mono ?_); rintro e w3 ⟨rfl, hg⟩; have G3 := Lib.hid (World.grownBy.trans G2.out hg); have f3 := (Z1.out.new G3.out).z1; clear hg))
  all_goals
    go_wp2
    go_ret2
    exact ⟨rfl, G1.out.trans G3.out⟩
theorem Slow_nb (h : Nb w p) :
    Calls Tryz.prog 23 #[.pointer p, .int .i64 0, .int .i64 1] w fun e w' => e = .returned (.tuple #[.int .i64 0, .int .i64 9]) ∧ w.grownBy w' none := by
  have KN := Lib.hid (known_nb h)
  clear h
  go_enter Tryz.func23, Tryz.ntmps23
  go_wp2_with (first
    | (go_at_call 38; (with_reducible refine KN.out.mono ?_); rintro e w1 ⟨a, rfl, hz, hg⟩; have G1 := Lib.hid hg; have f0 := hz.z0; clear hz hg))
  go_ret2
  exact ⟨rfl, G1.out⟩
theorem Free_nb (h : Nb w p) (n : Int) :
    Calls Tryz.prog 70 #[.pointer p, .int .i64 n] w fun e w' => e = bool1 false ∧ w.grownBy w' none := by
  have KN := Lib.hid (known_nb h)
  have CE := Lib.hid (fun W => Give_nob (cn W) n)
  clear h
  go_enter Tryz.func70, Tryz.ntmps70
  go_wp2_with (first
    | (go_at_call 38; (with_reducible refine KN.out.mono ?_); rintro e w1 ⟨a, rfl, hz, hg⟩; have Z1 := Lib.hid hz; have G1 := Lib.hid hg; have f0 := hz.z0; have f1 := hz.z1; clear hz hg)
    | (go_at_call 107; (with_reducible refine (CE.out _).mono ?_); rintro e w2 ⟨rfl, hg⟩; have G2 := Lib.hid (G1.out.trans hg); clear hg))
  go_ret
  exact ⟨rfl, G2.out⟩
theorem Objects_nb (h : Nb w p) :
    Calls Tryz.prog 12 #[.pointer p] w fun e w' => e = .returned (.slice none 0 0) ∧ w.grownBy w' none := by
  have KN := Lib.hid (known_nb h)
  have CE := Lib.hid (fun W => ce.All_nob (cn W))
  clear h
  go_enter Tryz.func12, Tryz.ntmps12
  go_wp2_with (first
    | (go_at_call 38; (with_reducible refine KN.out.mono ?_); rintro e w1 ⟨a, rfl, hz, hg⟩; have Z1 := Lib.hid hz; have G1 := Lib.hid hg; have f0 := hz.z0; have f1 := hz.z1; clear hz hg)
    | (go_at_call 39; (with_reducible refine (CE.out _).mono ?_); rintro e w2 ⟨rfl, hg⟩; have G2 := Lib.hid (G1.out.trans hg); clear hg))
  go_ret
  exact ⟨rfl, G2.out⟩
theorem Pages_nb (h : Nb w p) :
    Calls Tryz.prog 35 #[.pointer p] w fun e w' => e = int1 0 ∧ w.grownBy w' none := by
  have KN := Lib.hid (known_nb h)
  have CE := Lib.hid (fun W => Free_nob (cn W))
  clear h
  go_enter Tryz.func35, Tryz.ntmps35
  go_wp2_with (first
    | (go_at_call 38; (with_reducible refine KN.out.mono ?_); rintro e w1 ⟨a, rfl, hz, hg⟩; have Z1 := Lib.hid hz; have G1 := Lib.hid hg; have f0 := hz.z0; have f1 := hz.z1; clear hz hg)
    | (go_at_call 65; (with_reducible refine (CE.out _).mono ?_); rintro e w2 ⟨rfl, hg⟩; have G2 := Lib.hid (G1.out.trans hg); clear hg))
  go_ret
  exact ⟨rfl, G2.out⟩
theorem Owner_nb (h : Nb w p) (n : Int) :
    Calls Tryz.prog 71 #[.pointer p, .int .i64 n] w fun e w' => e = int1 (-1) ∧ w.grownBy w' none := by
  have KN := Lib.hid (known_nb h)
  have CE := Lib.hid (fun W => ca.Owner_nob (an W) n)
  clear h
  go_enter Tryz.func71, Tryz.ntmps71
  go_wp2_with (first
    | (go_at_call 38; (with_reducible refine KN.out.mono ?_); rintro e w1 ⟨a, rfl, hz, hg⟩; have Z1 := Lib.hid hz; have G1 := Lib.hid hg; have f0 := hz.z0; have f1 := hz.z1; clear hz hg)
    | (go_at_call 108; (with_reducible refine (CE.out _).mono ?_); rintro e w2 ⟨rfl, hg⟩; have G2 := Lib.hid (G1.out.trans hg); clear hg))
  go_ret
  exact ⟨rfl, G2.out⟩
theorem first_nb (h : Nb w p) (n : Int) :
    Calls Tryz.prog 52 #[.pointer p, .int .i64 n] w fun e w' => e = .returned (.tuple #[.int .i64 0, .int .i64 0, .bool false]) ∧ w.grownBy w' none := by
  have KN := Lib.hid (known_nb h)
  have IS := Lib.hid (fun W => Is_nob (cn W) n)
  clear h
  go_enter Tryz.func52, Tryz.ntmps52
  go_wp2_with (first
    | (go_at_call 38; (with_reducible refine KN.out.mono ?_); rintro e w1 ⟨a, rfl, hz, hg⟩; have G1 := Lib.hid hg; have f0 := hz.z0; clear hz hg)
    | (go_at_call 84; (with_reducible refine (IS.out _).mono ?_); rintro e w2 ⟨rfl, hg⟩; have G2 := Lib.hid (G1.out.trans hg); clear hg))
  go_ret3
  exact ⟨rfl, G2.out⟩
theorem Fields_nb (h : Nb w p) (n : Int) :
    Calls Tryz.prog 25 #[.pointer p, .int .i64 n] w fun e w' => e = int1 (-1) ∧ w.grownBy w' none := by
  have F := Lib.hid (first_nb h n)
  clear h
  go_enter Tryz.func25, Tryz.ntmps25
  go_wp2_with (go_at_call 52; (with_reducible refine F.out.mono ?_); rintro e w2 ⟨rfl, hg⟩; have G2 := Lib.hid hg; clear hg)
  go_ret
  exact ⟨rfl, G2.out⟩
theorem Trim_nb (h : Nb w p) (n : Int) :
    Calls Tryz.prog 43 #[.pointer p, .int .i64 n] w fun e w' => e = bool1 false ∧ w.grownBy w' none := by
  have KN := Lib.hid (known_nb h)
  have DR := Lib.hid (fun W => Drop_nob (cn W) n)
  clear h
  go_enter Tryz.func43, Tryz.ntmps43
  go_wp2_with (first
    | (go_at_call 38; (with_reducible refine KN.out.mono ?_); rintro e w1 ⟨a, rfl, hz, hg⟩; have Z1 := Lib.hid hz; have G1 := Lib.hid hg; clear hz hg)
    | (go_at_call 71; (with_reducible refine (Owner_nb (nb_of Z1.out) n).mono ?_); rintro e w2 ⟨rfl, hg⟩; have G2 := Lib.hid (G1.out.trans hg); have f2 := (Z1.out.new hg).z0; clear hg)
    | (go_at_call 62; (with_reducible refine (DR.out _).mono ?_); rintro e w3 ⟨rfl, hg⟩; have G3 := Lib.hid (G2.out.trans hg); clear hg))
  go_ret
  exact ⟨rfl, G3.out⟩
theorem Quit_nb (h : Nb w p) (n : Int) :
    Calls Tryz.prog 32 #[.pointer p, .int .i64 n] w fun e w' => e = int1 0 ∧ w.grownBy w' none := by
  have KN := Lib.hid (known_nb h)
  have DR := Lib.hid (fun W => ca.Drop_nob (an W) n)
  clear h
  go_enter Tryz.func32, Tryz.ntmps32
  go_wp2_with (first
    | (go_at_call 38; (with_reducible refine KN.out.mono ?_); rintro e w1 ⟨a, rfl, hz, hg⟩; have G1 := Lib.hid hg; have f1 := hz.z1; clear hz hg)
    | (go_at_call 61; (with_reducible refine (DR.out _).mono ?_); rintro e w2 ⟨rfl, hg⟩; have G2 := Lib.hid (G1.out.trans hg); clear hg))
  refine wp_loop_rounds 1 ?_
  rw [rounds_succ]
  go_wp2
  go_ret
  exact ⟨rfl, G2.out⟩
theorem In_nb (h : Nb w p) (n : Int) :
    Calls Tryz.prog 41 #[.pointer p, .int .i64 n] w fun e w' => e = .returned (.slice none 0 0) ∧ w.grownBy w' none := by
  have OB := Lib.hid (Objects_nb h)
  clear h
  go_enter Tryz.func41, Tryz.ntmps41
  go_wp2_with (first
    | (go_at_call 12; (with_reducible refine OB.out.mono ?_); rintro e w2 ⟨rfl, hg⟩; have G2 := Lib.hid hg; clear hg))
  refine wp_loop_rounds 1 ?_
  rw [rounds_succ]
  go_wp2
  go_ret
  exact ⟨rfl, G2.out⟩
end
end Go.Proofs.YtfloleflcoiidaaGreatDoor.st
