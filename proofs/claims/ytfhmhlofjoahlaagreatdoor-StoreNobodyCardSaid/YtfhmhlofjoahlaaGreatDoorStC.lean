/- The store's own: from a page; Fast. -/
import Derived.Test.YtfhmhlofjoahlaaGreatDoorStB
namespace Go.Proofs.YtfhmhlofjoahlaaGreatDoor.st
open Go.ChangeShapes Go.WideShapes Go.ChangeAt Go.RowKit Go.Maps gen calls cls geos ce
set_option linter.unusedVariables false
set_option maxHeartbeats 4000000
set_option maxRecDepth 100000
section
variable {w w' : World} {I : Ids} {x : Hs}
/-- Page p has no free cell. -/
def Noc (x : Hs) (p : Int) : Prop := 1 ≤ pg.kind x.ks p ∧ pg.kind x.ks p ≤ 4 → x.fr p.toNat = []
theorem from_no (H : Sr w I x) {p : Int} (n : Int) (hp : fits p = true) (hno : Noc x p) :
    Calls Tryz.prog 22 #[.pointer (some ⟨I.S, 0, none⟩), .int .i64 p, .int .i64 n] w fun e w' => e = rI 0 false ∧ w.grownBy w' none := by
  obtain ⟨ws, H0, e⟩ := H.hp
  have O := H.ok
  rw [← e] at O
  have TK := Lib.hid (Take_no' H0 O p hp hno)
  have f0 := H.s0
  clear H H0 O hno e
  go_enter Tryz.func22, Tryz.ntmps22
  go_wp2_with (first
    | (go_at_call 43; (with_reducible refine TK.out.mono ?_); rintro e w2 ⟨rfl, hg⟩; have G2 := Lib.hid hg; clear hg))
  go_ret2
  exact ⟨rfl, G2.out⟩
/-- A cell that is taken is one that was not: what is taken then. -/
theorem took_in {ks xs cs tk : List Int} {fr : Nat → List Int} (O : Ok ks xs cs tk fr) {b : Int} (hb : b ∈ tk) : bs ks tk b ≠ -1 := by
  have h1 := bz_pos O hb
  have h2 := bz_in O hb
  rw [base_in O hb (Int.le_refl _) (by omega)]
  omega
theorem from_yes (H : Sr w I x) {p a z : Nat} {f n : Int} {rest : List Int} (hm : hd.May x.cnt n) (hk : 1 ≤ pg.kind x.ks p ∧ pg.kind x.ks p ≤ 4) (hfr : x.fr p = f :: rest) (ha : (a : Int) = p * 32 + f * sz (pg.kind x.ks p)) (hz : sz (pg.kind x.ks p) = z) :
    Calls Tryz.prog 22 #[.pointer (some ⟨I.S, 0, none⟩), .int .i64 p, .int .i64 n] w (Done I (.tuple #[.int .i64 a, .bool true]) ((x.took p f rest a z).begun a n) w) := by
  obtain ⟨ws, H0, e⟩ := H.hp
  have O := H.ok
  have O2 := (O.take hk hfr ha hz).1
  have IN : bs x.ks (bm.rising (x.tk ++ [(a : Int)])) a ≠ -1 := took_in O2 (by rw [bm.mem_rising]; simp)
  rw [← e] at O
  obtain ⟨a', z', e1, e2, e3, _⟩ := take_at O hk hfr
  obtain rfl : a = a' := by omega
  obtain rfl : z = z' := by omega
  have TK := Lib.hid (Take_yes' H0 O hk hfr ha hz e3)
  have f0 := H.s0
  have HH := Lib.hid H
  have HE := Lib.hid e
  have HM := Lib.hid hm
  have OO := Lib.hid O2
  have BG := Lib.hid (fun W (hs : Sr W I (x.took p f rest a z)) => begin_any hs (n := n) hm IN)
  clear H H0 O O2 IN hm e hfr ha hz e1 e2 e3 hk
  go_enter Tryz.func22, Tryz.ntmps22
  go_wp2_with (first
    | (go_at_call 43; (with_reducible refine TK.out.mono ?_); rintro e w2 ⟨ws2, rfl, hp, he, hg⟩; have H2 := Lib.hid (show Sr w2 I (x.took p f rest a z) from HH.out.heap hp (he.trans (by rw [HE.out])) OO.out hg); have G2 := Lib.hid (gr4 (I := I) hg); clear hp he hg)
    | (go_at_call 44; (with_reducible refine (BG.out _ H2.out).mono ?_); rintro e w3 ⟨rfl, hs, hg⟩; have H3 := Lib.hid hs; have G3 := Lib.hid (G2.out.trans hg); clear hs hg))
  go_ret2
  exact ⟨rfl, H3.out, G3.out⟩
theorem page_wide (H : Sr w I x) (t k : Int) : -1 ≤ ca.page x.own t k ∧ ca.page x.own t k < 64 := by
  obtain ⟨D, C⟩ := H.at_
  unfold ca.page
  split
  · rename_i o h
    have := C.good.bnd o (List.mem_of_find?_eq_some h)
    omega
  · omega
theorem Fast_no (H : Sr w I x) (t n : Int) (ht : fits t = true) (hno : Noc x (ca.page x.own t (ofn n))) :
    Calls Tryz.prog 5 #[.pointer (some ⟨I.S, 0, none⟩), .int .i64 t, .int .i64 n] w fun e w' => e = rI 0 false ∧ w.grownBy w' none := by
  obtain ⟨D, C⟩ := H.at_
  have of := ofn_wide n
  have PG := Lib.hid (fun W (hg : w.grownBy W none) => ca.Page_any (C.new hg) t (ofn n) ht (by simp [fits]; omega))
  have pw := page_wide H t (ofn n)
  have PF := Lib.hid (show fits (ca.page x.own t (ofn n)) = true by simp [fits]; omega)
  have f1 := H.s1
  have HH := Lib.hid H
  have HN := Lib.hid hno
  generalize ca.page x.own t (ofn n) = p at *
  clear H C hno of pw
  go_enter Tryz.func5, Tryz.ntmps5
  go_wp2_with (first
    | (go_at_call 21; (with_reducible refine (known_yes _ _).mono ?_); rintro e w' ⟨rfl, rfl⟩))
  go_region_held3 (fun W => W.cell? ⟨I.S, 1, none⟩ = some (.pointer (some ⟨I.C, 0, none⟩))) (first | exact f1 | exact f2 | exact f3 | go_keep) (first
    | (go_at_call 24; (with_reducible refine (of_any _ _).mono ?_); rintro e w' ⟨rfl, rfl⟩)
    | (go_at_call 23; (with_reducible refine (PG.out _ (ca.grown_drewN _ _ _)).mono ?_); rintro e w2 ⟨rfl, hg⟩; have G2 := Lib.hid (((ca.grown_drewN _ _ _).trans hg) : World.grownBy w w2 none); have f2 := (HH.out.new G2.out).s1; clear hg)
    | (go_at_call 23; (with_reducible refine (PG.out _ (ca.grown_drew _ _)).mono ?_); rintro e w2 ⟨rfl, hg⟩; have G2 := Lib.hid (((ca.grown_drew _ _).trans hg) : World.grownBy w w2 none); have f2 := (HH.out.new G2.out).s1; clear hg)
    | (go_at_call 23; (with_reducible refine (PG.out _ (World.grownBy.refl _ _)).mono ?_); rintro e w2 ⟨rfl, hg⟩; have G2 := Lib.hid (hg : World.grownBy w w2 none); have f2 := (HH.out.new G2.out).s1; clear hg)
    | (go_at_call 22; (with_reducible refine (from_no (HH.out.new (G2.out.trans (ca.grown_drewN _ _ _))) n PF.out HN.out).mono ?_); rintro e w3 ⟨rfl, hg⟩; have G3 := Lib.hid (World.grownBy.trans (G2.out.trans (ca.grown_drewN _ _ _)) hg); have f3 := (HH.out.new G3.out).s1; clear hg)
    | (go_at_call 22; (with_reducible refine (from_no (HH.out.new (G2.out.trans (ca.grown_drew _ _))) n PF.out HN.out).mono ?_); rintro e w3 ⟨rfl, hg⟩; have G3 := Lib.hid (World.grownBy.trans (G2.out.trans (ca.grown_drew _ _)) hg); have f3 := (HH.out.new G3.out).s1; clear hg)
    | (go_at_call 22; (with_reducible refine (from_no (HH.out.new G2.out) n PF.out HN.out).mono ?_); rintro e w3 ⟨rfl, hg⟩; have G3 := Lib.hid (World.grownBy.trans G2.out hg); have f3 := (HH.out.new G3.out).s1; clear hg))
  all_goals
    go_wp2
    go_ret2
    exact ⟨rfl, G3.out⟩
theorem Fast_yes (H : Sr w I x) (t : Int) {p a z : Nat} {f n : Int} {rest : List Int} (ht : fits t = true) (hp : ca.page x.own t (ofn n) = p) (hm : hd.May x.cnt n) (hk : 1 ≤ pg.kind x.ks p ∧ pg.kind x.ks p ≤ 4) (hfr : x.fr p = f :: rest) (ha : (a : Int) = p * 32 + f * sz (pg.kind x.ks p)) (hz : sz (pg.kind x.ks p) = z) :
    Calls Tryz.prog 5 #[.pointer (some ⟨I.S, 0, none⟩), .int .i64 t, .int .i64 n] w (Done I (.tuple #[.int .i64 a, .bool true]) ((x.took p f rest a z).begun a n) w) := by
  obtain ⟨D, C⟩ := H.at_
  have of := ofn_wide n
  have PG := Lib.hid (fun W (hg : w.grownBy W none) => ca.Page_any (C.new hg) t (ofn n) ht (by simp [fits]; omega))
  rw [hp] at PG
  have f1 := H.s1
  have HH := Lib.hid H
  have FR := Lib.hid (fun W (hg : w.grownBy W none) => from_yes (H.new hg) hm hk hfr ha hz)
  clear H C of hm hk hfr ha hz hp
  go_enter Tryz.func5, Tryz.ntmps5
  go_wp2_with (first
    | (go_at_call 21; (with_reducible refine (known_yes _ _).mono ?_); rintro e w' ⟨rfl, rfl⟩))
  go_region_held3 (fun W => W.cell? ⟨I.S, 1, none⟩ = some (.pointer (some ⟨I.C, 0, none⟩))) (first | exact f1 | exact f2 | exact f3 | go_keep) (first
    | (go_at_call 24; (with_reducible refine (of_any _ _).mono ?_); rintro e w' ⟨rfl, rfl⟩)
    | (go_at_call 23; (with_reducible refine (PG.out _ (ca.grown_drewN _ _ _)).mono ?_); rintro e w2 ⟨rfl, hg⟩; have G2 := Lib.hid (((ca.grown_drewN _ _ _).trans hg) : World.grownBy w w2 none); have f2 := (HH.out.new G2.out).s1; clear hg)
    | (go_at_call 23; (with_reducible refine (PG.out _ (ca.grown_drew _ _)).mono ?_); rintro e w2 ⟨rfl, hg⟩; have G2 := Lib.hid (((ca.grown_drew _ _).trans hg) : World.grownBy w w2 none); have f2 := (HH.out.new G2.out).s1; clear hg)
    | (go_at_call 23; (with_reducible refine (PG.out _ (World.grownBy.refl _ _)).mono ?_); rintro e w2 ⟨rfl, hg⟩; have G2 := Lib.hid (hg : World.grownBy w w2 none); have f2 := (HH.out.new G2.out).s1; clear hg)
    | (go_at_call 22; (with_reducible refine (FR.out _ (G2.out.trans (ca.grown_drewN _ _ _))).mono ?_); rintro e w3 ⟨rfl, hs, hg⟩; have H3 := Lib.hid hs; have G3 := Lib.hid ((Gr.new (G2.out.trans (ca.grown_drewN _ _ _))).trans hg); have f3 := H3.out.s1; clear hs hg)
    | (go_at_call 22; (with_reducible refine (FR.out _ (G2.out.trans (ca.grown_drew _ _))).mono ?_); rintro e w3 ⟨rfl, hs, hg⟩; have H3 := Lib.hid hs; have G3 := Lib.hid ((Gr.new (G2.out.trans (ca.grown_drew _ _))).trans hg); have f3 := H3.out.s1; clear hs hg)
    | (go_at_call 22; (with_reducible refine (FR.out _ G2.out).mono ?_); rintro e w3 ⟨rfl, hs, hg⟩; have H3 := Lib.hid hs; have G3 := Lib.hid ((Gr.new G2.out).trans hg); have f3 := H3.out.s1; clear hs hg))
  all_goals
    go_wp2
    go_ret2
    exact ⟨rfl, H3.out, G3.out⟩
end
end Go.Proofs.YtfhmhlofjoahlaaGreatDoor.st
