/- Texts that this claim stands on. -/
import Derived.Test.YtkgdcgmbapchcaaGreatDoorQStX
namespace Go.Proofs.YtkgdcgmbapchcaaGreatDoor.st
open Go.ChangeShapes Go.WideShapes Go.ChangeAt Go.RowKit Go.Maps gen calls cls geos ce
set_option linter.unusedVariables false
set_option maxHeartbeats 4000000
set_option maxRecDepth 100000
section
variable {w w' : World} {I : Ids} {x : Hs}
def Noc (x : Hs) (p : Int) : Prop := 1 ≤ pg.kind x.ks p ∧ pg.kind x.ks p ≤ 4 → x.fr p.toNat = []
theorem from_no (H : Sr w I x) {p : Int} (n : Int) (hp : fits p = true) (hno : Noc x p) :
    Calls Tryz.prog 152 #[.pointer (some ⟨I.S, 0, none⟩), .int .i64 p, .int .i64 n] w fun e w' => e = rI 0 false ∧ w.grownBy w' none := by
  obtain ⟨ws, H0, e⟩ := H.hp
  have O := H.ok
  rw [← e] at O
  have TK := Lib.hid (Take_no' H0 O p hp hno)
  have f0 := H.s0
  clear H H0 O hno e
  go_enter Tryz.func152, Tryz.ntmps152
  go_wp2_with (first
    | (go_at_call 216; (with_reducible refine TK.out.mono ?_); rintro e w2 ⟨rfl, hg⟩; have G2 := Lib.hid hg; clear hg))
  go_ret2
  exact ⟨rfl, G2.out⟩
theorem took_in {ks xs cs tk : List Int} {fr : Nat → List Int} (O : Ok ks xs cs tk fr) {b : Int} (hb : b ∈ tk) : bs ks tk b ≠ -1 := by
  have h1 := bz_pos O hb
  have h2 := bz_in O hb
  rw [base_in O hb (Int.le_refl _) (by omega)]
  omega
theorem from_yes (H : Sr w I x) {p a z : Nat} {f n : Int} {rest : List Int} (hm : hd.May x.cnt n) (hk : 1 ≤ pg.kind x.ks p ∧ pg.kind x.ks p ≤ 4) (hfr : x.fr p = f :: rest) (ha : (a : Int) = p * 32 + f * sz (pg.kind x.ks p)) (hz : sz (pg.kind x.ks p) = z) :
    Calls Tryz.prog 152 #[.pointer (some ⟨I.S, 0, none⟩), .int .i64 p, .int .i64 n] w (Done I (.tuple #[.int .i64 a, .bool true]) ((x.took p f rest a z).begun a n) w) := by
  obtain ⟨ws, H0, e⟩ := H.hp
  have O := H.ok
  have O2 := (O.take hk hfr ha hz).1
  have IN : bs x.ks (bm.rising (x.tk ++ [(a : Int)])) a ≠ -1 := took_in O2 (by rw [bm.mem_rising]; simp)
  rw [← e] at O
  obtain ⟨a', z', e1, e2, e3, _⟩ := take_at O hk hfr
  obtain rfl : a = a' := by omega
  obtain rfl : z = z' := by omega
  have TK := Lib.hid (Take_yes' H0 O hk hfr ha hz e3)
  have f0 := H.s0
  have HH := Lib.hid H
  have HE := Lib.hid e
  have HM := Lib.hid hm
  have OO := Lib.hid O2
  have BG := Lib.hid (fun W (hs : Sr W I (x.took p f rest a z)) => begin_any hs (n := n) hm IN)
  clear H H0 O O2 IN hm e hfr ha hz e1 e2 e3 hk
  go_enter Tryz.func152, Tryz.ntmps152
  go_wp2_with (first
    | (go_at_call 216; (with_reducible refine TK.out.mono ?_); rintro e w2 ⟨ws2, rfl, hp, he, hg⟩; have H2 := Lib.hid (show Sr w2 I (x.took p f rest a z) from HH.out.heap hp (he.trans (by rw [HE.out])) OO.out hg); have G2 := Lib.hid (gr4 (I := I) hg); clear hp he hg)
    | (go_at_call 217; (with_reducible refine (BG.out _ H2.out).mono ?_); rintro e w3 ⟨rfl, hs, hg⟩; have H3 := Lib.hid hs; have G3 := Lib.hid (G2.out.trans hg); clear hs hg))
  go_ret2
  exact ⟨rfl, H3.out, G3.out⟩
theorem page_wide (H : Sr w I x) (t k : Int) : -1 ≤ ca.page x.own t k ∧ ca.page x.own t k < 64 := by
  obtain ⟨D, C⟩ := H.at_
  unfold ca.page
  split
  · rename_i o h
    have := C.good.bnd o (List.mem_of_find?_eq_some h)
    omega
  · omega
theorem Fast_no (H : Sr w I x) (t n : Int) (ht : fits t = true) (hno : Noc x (ca.page x.own t (ofn n))) :
    Calls Tryz.prog 80 #[.pointer (some ⟨I.S, 0, none⟩), .int .i64 t, .int .i64 n] w fun e w' => e = rI 0 false ∧ w.grownBy w' none := by
  obtain ⟨D, C⟩ := H.at_
  have of := ofn_wide n
  have PG := Lib.hid (fun W (hg : w.grownBy W none) => ca.Page_any (C.new hg) t (ofn n) ht (by simp [fits]; omega))
  have pw := page_wide H t (ofn n)
  have PF := Lib.hid (show fits (ca.page x.own t (ofn n)) = true by simp [fits]; omega)
  have f1 := H.s1
  have HH := Lib.hid H
  have HN := Lib.hid hno
  generalize ca.page x.own t (ofn n) = p at *
  clear H C hno of pw
  go_enter Tryz.func80, Tryz.ntmps80
  go_wp2_with (first
    | (go_at_call 127; (with_reducible refine (known_yes _ _).mono ?_); rintro e w' ⟨rfl, rfl⟩))
  go_region_held3 (fun W => W.cell? ⟨I.S, 1, none⟩ = some (.pointer (some ⟨I.C, 0, none⟩))) (first | exact f1 | exact f2 | exact f3 | go_keep) (first
    | (go_at_call 154; (with_reducible refine (of_any _ _).mono ?_); rintro e w' ⟨rfl, rfl⟩)
    | (go_at_call 153; (with_reducible refine (PG.out _ (ca.grown_drewN _ _ _)).mono ?_); rintro e w2 ⟨rfl, hg⟩; have G2 := Lib.hid (((ca.grown_drewN _ _ _).trans hg) : World.grownBy w w2 none); have f2 := (HH.out.new G2.out).s1; clear hg)
    | (go_at_call 153; (with_reducible refine (PG.out _ (ca.grown_drew _ _)).mono ?_); rintro e w2 ⟨rfl, hg⟩; have G2 := Lib.hid (((ca.grown_drew _ _).trans hg) : World.grownBy w w2 none); have f2 := (HH.out.new G2.out).s1; clear hg)
    | (go_at_call 153; (with_reducible refine (PG.out _ (World.grownBy.refl _ _)).mono ?_); rintro e w2 ⟨rfl, hg⟩; have G2 := Lib.hid (hg : World.grownBy w w2 none); have f2 := (HH.out.new G2.out).s1; clear hg)
    | (go_at_call 152; (with_reducible refine (from_no (HH.out.new (G2.out.trans (ca.grown_drewN _ _ _))) n PF.out HN.out).mono ?_); rintro e w3 ⟨rfl, hg⟩; have G3 := Lib.hid (World.grownBy.trans (G2.out.trans (ca.grown_drewN _ _ _)) hg); have f3 := (HH.out.new G3.out).s1; clear hg)
    | (go_at_call 152; (with_reducible refine (from_no (HH.out.new (G2.out.trans (ca.grown_drew _ _))) n PF.out HN.out).mono ?_); rintro e w3 ⟨rfl, hg⟩; have G3 := Lib.hid (World.grownBy.trans (G2.out.trans (ca.grown_drew _ _)) hg); have f3 := (HH.out.new G3.out).s1; clear hg)
    | (go_at_call 152; (with_reducible refine (from_no (HH.out.new G2.out) n PF.out HN.out).mono ?_); rintro e w3 ⟨rfl, hg⟩; have G3 := Lib.hid (World.grownBy.trans G2.out hg); have f3 := (HH.out.new G3.out).s1; clear hg))
  all_goals
    go_wp2
    go_ret2
    exact ⟨rfl, G3.out⟩
theorem Fast_yes (H : Sr w I x) (t : Int) {p a z : Nat} {f n : Int} {rest : List Int} (ht : fits t = true) (hp : ca.page x.own t (ofn n) = p) (hm : hd.May x.cnt n) (hk : 1 ≤ pg.kind x.ks p ∧ pg.kind x.ks p ≤ 4) (hfr : x.fr p = f :: rest) (ha : (a : Int) = p * 32 + f * sz (pg.kind x.ks p)) (hz : sz (pg.kind x.ks p) = z) :
    Calls Tryz.prog 80 #[.pointer (some ⟨I.S, 0, none⟩), .int .i64 t, .int .i64 n] w (Done I (.tuple #[.int .i64 a, .bool true]) ((x.took p f rest a z).begun a n) w) := by
  obtain ⟨D, C⟩ := H.at_
  have of := ofn_wide n
  have PG := Lib.hid (fun W (hg : w.grownBy W none) => ca.Page_any (C.new hg) t (ofn n) ht (by simp [fits]; omega))
  rw [hp] at PG
  have f1 := H.s1
  have HH := Lib.hid H
  have FR := Lib.hid (fun W (hg : w.grownBy W none) => from_yes (H.new hg) hm hk hfr ha hz)
  clear H C of hm hk hfr ha hz hp
  go_enter Tryz.func80, Tryz.ntmps80
  go_wp2_with (first
    | (go_at_call 127; (with_reducible refine (known_yes _ _).mono ?_); rintro e w' ⟨rfl, rfl⟩))
  go_region_held3 (fun W => W.cell? ⟨I.S, 1, none⟩ = some (.pointer (some ⟨I.C, 0, none⟩))) (first | exact f1 | exact f2 | exact f3 | go_keep) (first
    | (go_at_call 154; (with_reducible refine (of_any _ _).mono ?_); rintro e w' ⟨rfl, rfl⟩)
    | (go_at_call 153; (with_reducible refine (PG.out _ (ca.grown_drewN _ _ _)).mono ?_); rintro e w2 ⟨rfl, hg⟩; have G2 := Lib.hid (((ca.grown_drewN _ _ _).trans hg) : World.grownBy w w2 none); have f2 := (HH.out.new G2.out).s1; clear hg)
    | (go_at_call 153; (with_reducible refine (PG.out _ (ca.grown_drew _ _)).mono ?_); rintro e w2 ⟨rfl, hg⟩; have G2 := Lib.hid (((ca.grown_drew _ _).trans hg) : World.grownBy w w2 none); have f2 := (HH.out.new G2.out).s1; clear hg)
    | (go_at_call 153; (with_reducible refine (PG.out _ (World.grownBy.refl _ _)).mono ?_); rintro e w2 ⟨rfl, hg⟩; have G2 := Lib.hid (hg : World.grownBy w w2 none); have f2 := (HH.out.new G2.out).s1; clear hg)
    | (go_at_call 152; (with_reducible refine (FR.out _ (G2.out.trans (ca.grown_drewN _ _ _))).mono ?_); rintro e w3 ⟨rfl, hs, hg⟩; have H3 := Lib.hid hs; have G3 := Lib.hid ((Gr.new (G2.out.trans (ca.grown_drewN _ _ _))).trans hg); have f3 := H3.out.s1; clear hs hg)
    | (go_at_call 152; (with_reducible refine (FR.out _ (G2.out.trans (ca.grown_drew _ _))).mono ?_); rintro e w3 ⟨rfl, hs, hg⟩; have H3 := Lib.hid hs; have G3 := Lib.hid ((Gr.new (G2.out.trans (ca.grown_drew _ _))).trans hg); have f3 := H3.out.s1; clear hs hg)
    | (go_at_call 152; (with_reducible refine (FR.out _ G2.out).mono ?_); rintro e w3 ⟨rfl, hs, hg⟩; have H3 := Lib.hid hs; have G3 := Lib.hid ((Gr.new G2.out).trans hg); have f3 := H3.out.s1; clear hs hg))
  all_goals
    go_wp2
    go_ret2
    exact ⟨rfl, H3.out, G3.out⟩
end
end Go.Proofs.YtkgdcgmbapchcaaGreatDoor.st
namespace Go.Proofs.YtkgdcgmbapchcaaGreatDoor.st
open Go.ChangeShapes Go.WideShapes Go.ChangeAt Go.RowKit Go.Maps gen calls cls geos ce
set_option linter.unusedVariables false
set_option maxHeartbeats 4000000
set_option maxRecDepth 100000
section
variable {w w' : World} {I : Ids} {x : Hs}
theorem large_no (H : Sr w I x) (n : Int) (hno : pg.find (pgs n) 0 x.ks = none) :
    Calls Tryz.prog 224 #[.pointer (some ⟨I.S, 0, none⟩), .int .i64 n] w fun e w' => e = rI 0 false ∧ w.grownBy w' none := by
  obtain ⟨ws, H0, e⟩ := H.hp
  have LG := Lib.hid (fun W (hg : w.grownBy W none) => Large_no (H0.new hg) (pgs n) (fun _ => hno))
  have HH := Lib.hid H
  have f0 := H.s0
  clear H H0 hno e
  go_enter Tryz.func224, Tryz.ntmps224
  go_wp2
  go_region_held3 (fun W => W.cell? ⟨I.S, 0, none⟩ = some (.pointer (some ⟨I.c, 0, none⟩))) (first | exact f0 | exact f2 | go_keep) (first
    | (go_at_call 268; (with_reducible refine (pages_any _ _).mono ?_); rintro e w' ⟨rfl, rfl⟩)
    | (go_at_call 267; (with_reducible refine (LG.out _ (ca.grown_drewN _ _ _)).mono ?_); rintro e w2 ⟨rfl, hg⟩; have G2 := Lib.hid (((ca.grown_drewN _ _ _).trans hg) : World.grownBy w w2 none); have f2 := (HH.out.new G2.out).s0; clear hg)
    | (go_at_call 267; (with_reducible refine (LG.out _ (ca.grown_drew _ _)).mono ?_); rintro e w2 ⟨rfl, hg⟩; have G2 := Lib.hid (((ca.grown_drew _ _).trans hg) : World.grownBy w w2 none); have f2 := (HH.out.new G2.out).s0; clear hg)
    | (go_at_call 267; (with_reducible refine (LG.out _ (World.grownBy.refl _ _)).mono ?_); rintro e w2 ⟨rfl, hg⟩; have G2 := Lib.hid (hg : World.grownBy w w2 none); have f2 := (HH.out.new G2.out).s0; clear hg))
  all_goals
    go_wp2
    go_ret2
    exact ⟨rfl, G2.out⟩
theorem large_yes (H : Sr w I x) {n : Int} {N p a z : Nat} (hm : hd.May x.cnt n) (hN : pgs n = N) (h1 : 1 ≤ N) (hf : pg.find N 0 x.ks = some p) (ha : a = p * 32) (hz : z = N * 32) :
    Calls Tryz.prog 224 #[.pointer (some ⟨I.S, 0, none⟩), .int .i64 n] w (Done I (.tuple #[.int .i64 a, .bool true]) ((x.spanned p N a z).begun a n) w) := by
  obtain ⟨ws, H0, e⟩ := H.hp
  have O := H.ok
  have O2 := O.large h1 hf ha hz
  have IN : bs (pg.spanN x.ks p N) (bm.rising (x.tk ++ [(a : Int)])) a ≠ -1 := took_in O2.1 (by rw [bm.mem_rising]; simp)
  have LG := Lib.hid (fun W (hg : w.grownBy W none) => Large_yes (H0.new hg) N h1 hf O.len ha hz (by rw [e]; exact O2.2))
  have f0 := H.s0
  have HH := Lib.hid H
  have HE := Lib.hid e
  have HM := Lib.hid hm
  have OO := Lib.hid O2.1
  have BG := Lib.hid (fun W (hs : Sr W I (x.spanned p N a z)) => begin_any hs (n := n) hm IN)
  have HN := Lib.hid hN
  clear H H0 O O2 IN hm e hf ha hz hN h1
  go_enter Tryz.func224, Tryz.ntmps224
  go_wp2
  go_region_held3 (fun W => W.cell? ⟨I.S, 0, none⟩ = some (.pointer (some ⟨I.c, 0, none⟩))) (first | exact f0 | exact f2 | go_keep) (first
    | (go_at_call 268; (with_reducible refine (pages_any _ _).mono ?_); rintro e w' ⟨rfl, rfl⟩; rw [HN.out])
    | (go_at_call 267; (with_reducible refine (LG.out _ (ca.grown_drewN _ _ _)).mono ?_); rintro e w2 ⟨ws2, rfl, hp, he, hg⟩; have hg2 : Gr [I.h, I.r, I.q, I.s] w w2 := ((Gr.new (ca.grown_drewN _ _ _)).trans hg); have H2 := Lib.hid (show Sr w2 I (x.spanned p N a z) from HH.out.heap hp (he.trans (by rw [HE.out])) OO.out hg2); have G2 := Lib.hid (gr4 (I := I) hg2); have f2 := H2.out.s0; clear hp he hg hg2)
    | (go_at_call 267; (with_reducible refine (LG.out _ (ca.grown_drew _ _)).mono ?_); rintro e w2 ⟨ws2, rfl, hp, he, hg⟩; have hg2 : Gr [I.h, I.r, I.q, I.s] w w2 := ((Gr.new (ca.grown_drew _ _)).trans hg); have H2 := Lib.hid (show Sr w2 I (x.spanned p N a z) from HH.out.heap hp (he.trans (by rw [HE.out])) OO.out hg2); have G2 := Lib.hid (gr4 (I := I) hg2); have f2 := H2.out.s0; clear hp he hg hg2)
    | (go_at_call 267; (with_reducible refine (LG.out _ (World.grownBy.refl _ _)).mono ?_); rintro e w2 ⟨ws2, rfl, hp, he, hg⟩; have hg2 : Gr [I.h, I.r, I.q, I.s] w w2 := hg; have H2 := Lib.hid (show Sr w2 I (x.spanned p N a z) from HH.out.heap hp (he.trans (by rw [HE.out])) OO.out hg2); have G2 := Lib.hid (gr4 (I := I) hg2); have f2 := H2.out.s0; clear hp he hg hg2))
  all_goals
    go_wp2_with (first
      | (go_at_call 217; (with_reducible refine (BG.out _ H2.out).mono ?_); rintro e w3 ⟨rfl, hs, hg⟩; have H3 := Lib.hid hs; have G3 := Lib.hid (G2.out.trans hg); clear hs hg))
    go_ret2
    exact ⟨rfl, H3.out, G3.out⟩
def fit (x : Hs) (k p : Int) : Bool := (pg.kind x.ks p == k) && decide (0 < ln x.ks x.cs p) && ((ca.owner x.own p).1 == -1)
def OpenAns (I : Ids) (x : Hs) (k : Int) (w : World) (e : Ending) (w' : World) : Prop :=
  (∃ p : Nat, p < 64 ∧ fit x k p = true ∧ (∀ q : Nat, q < p → fit x k q = false) ∧ e = rI p true ∧ w.grownBy w' none) ∨
  ((∀ q : Nat, q < 64 → fit x k q = false) ∧ pg.find 1 0 x.ks = none ∧ e = rI 0 false ∧ w.grownBy w' none) ∨
  ((∀ q : Nat, q < 64 → fit x k q = false) ∧ ∃ p z n : Nat, pg.find 1 0 x.ks = some p ∧ sz k = z ∧ cl k = n ∧ Done I (.tuple #[.int .i64 p, .bool true]) (x.carved p k z n) w e w')
theorem carve_no (H : Sr w I x) {k : Int} (hk : 1 ≤ k ∧ k ≤ 4) (hf : pg.find 1 0 x.ks = none) :
    Calls Tryz.prog 271 #[.pointer (some ⟨I.c, 0, none⟩), .int .i64 k] w fun e w' => e = rI 0 false ∧ w.grownBy w' none := by
  obtain ⟨ws, H0, e⟩ := H.hp
  exact Carve_no H0 k (by simp [fits]; omega) fun _ => hf
theorem carve_yes (H : Sr w I x) {k : Int} (hk : 1 ≤ k ∧ k ≤ 4) {p z n : Nat} (hf : pg.find 1 0 x.ks = some p) (e1 : sz k = z) (e2 : cl k = n) :
    Calls Tryz.prog 271 #[.pointer (some ⟨I.c, 0, none⟩), .int .i64 k] w (Done I (.tuple #[.int .i64 p, .bool true]) (x.carved p k z n) w) := by
  obtain ⟨ws, H0, e⟩ := H.hp
  have O := H.ok
  refine (Carve_yes H0 k hk hf O.len e1 e2).mono fun e' w' ⟨ws2, he, hp, ht, hg⟩ => ⟨he, ?_, gr4 hg⟩
  exact H.heap hp (ht.trans e) (O.carve hk hf e1 e2) hg
def Opn (I : Ids) (x : Hs) (k : Int) (w : World) (i : Value) (wr : World) : Prop := ∃ p : Nat, p ≤ 64 ∧ i = .int .i64 p ∧ Sr wr I x ∧ w.grownBy wr none ∧ ∀ q : Nat, q < p → fit x k q = false
theorem kind_at (H : Sr w I x) (p : Int) : Calls Tryz.prog 269 #[.pointer (some ⟨I.c, 0, none⟩), .int .i64 p] w fun e w' => e = int1 (pg.kind x.ks p) ∧ w = w' := by
  obtain ⟨ws, H0, e⟩ := H.hp
  exact Kind_any H0 p
theorem left_at (H : Sr w I x) (p : Int) : Calls Tryz.prog 270 #[.pointer (some ⟨I.c, 0, none⟩), .int .i64 p] w fun e w' => e = int1 (ln x.ks x.cs p) ∧ w.grownBy w' none := by
  obtain ⟨ws, H0, e⟩ := H.hp
  exact Left_any H0 H.ok.kds p
theorem open_any (H : Sr w I x) {k : Int} (hk : 1 ≤ k ∧ k ≤ 4) :
    Calls Tryz.prog 225 #[.pointer (some ⟨I.S, 0, none⟩), .int .i64 k] w (OpenAns I x k w) := by
  have HK := Lib.hid hk
  have SD := Lib.hid H
  clear hk
  go_enter Tryz.func225, Tryz.ntmps225
  go_wp2
  go_loopw [7] (fun i wr => Opn I x k w i wr) (fun i _ => 64 - (intOf i).toNat)
  case atStart => exact ⟨0, by omega, rfl, SD.out, World.grownBy.refl _ _, fun q hq => absurd hq (by omega)⟩
  case round =>
    obtain ⟨p, hp, rfl, hs, hg, hq⟩ := hrel
    have HS := Lib.hid hs
    have HG := Lib.hid hg
    have HQ := Lib.hid hq
    have f0 := hs.s0
    clear hs hg hq SD H
    by_cases h64 : p < 64
    · have KD := Lib.hid (kind_at HS.out p)
      have LF := Lib.hid (left_at HS.out p)
      have OW := Lib.hid (fun W (hg : wr.grownBy W none) => Owner_any (HS.out.new hg) p)
      obtain ⟨K, hK⟩ : ∃ K, pg.kind x.ks p = K := ⟨_, rfl⟩
      obtain ⟨l, hL⟩ : ∃ l, ln x.ks x.cs p = l := ⟨_, rfl⟩
      obtain ⟨o, hO⟩ : ∃ o, (ca.owner x.own p).1 = o := ⟨_, rfl⟩
      have F : fit x k p = ((K == k) && decide (0 < l) && (o == -1)) := by rw [fit, hK, hL, hO]
      rw [hK] at KD
      rw [hL] at LF
      rw [hO] at OW
      clear hK hL hO
      cases b1 : (K == k)
      · have FF := Lib.hid (show fit x k p = false by rw [F, b1]; rfl)
        clear F
        go_wp2_with (first
          | (go_at_call 269; (with_reducible refine KD.out.mono ?_); rintro e w' ⟨rfl, rfl⟩))
        go_roundw
        case rel => exact ⟨p + 1, by omega, by go_num, HS.out, HG.out, fun q hq => if h : q < p then HQ.out q h else (show q = p by omega) ▸ FF.out⟩
        case measure => simp [intOf]; omega
      · cases b2 : decide (0 < l)
        · have FF := Lib.hid (show fit x k p = false by rw [F, b1, b2]; rfl)
          clear F
          go_wp2_with (first
            | (go_at_call 269; (with_reducible refine KD.out.mono ?_); rintro e w' ⟨rfl, rfl⟩)
            | (go_at_call 270; (with_reducible refine LF.out.mono ?_); rintro e w2 ⟨rfl, hg⟩; have G2 := Lib.hid hg; clear hg))
          go_roundw
          case rel => exact ⟨p + 1, by omega, by go_num, HS.out.new G2.out, HG.out.trans G2.out, fun q hq => if h : q < p then HQ.out q h else (show q = p by omega) ▸ FF.out⟩
          case measure => simp [intOf]; omega
        · cases b3 : (o == -1)
          · have FF := Lib.hid (show fit x k p = false by rw [F, b1, b2, b3]; rfl)
            clear F
            go_wp2_with (first
              | (go_at_call 269; (with_reducible refine KD.out.mono ?_); rintro e w' ⟨rfl, rfl⟩)
              | (go_at_call 270; (with_reducible refine LF.out.mono ?_); rintro e w2 ⟨rfl, hg⟩; have G2 := Lib.hid hg; clear hg)
              | (go_at_call 215; (with_reducible refine (OW.out _ G2.out).mono ?_); rintro e w3 ⟨rfl, hg⟩; have G3 := Lib.hid (G2.out.trans hg); clear hg))
            go_roundw
            case rel => exact ⟨p + 1, by omega, by go_num, HS.out.new G3.out, HG.out.trans G3.out, fun q hq => if h : q < p then HQ.out q h else (show q = p by omega) ▸ FF.out⟩
            case measure => simp [intOf]; omega
          · have FF := Lib.hid (show fit x k p = true by rw [F, b1, b2, b3]; rfl)
            clear F
            go_wp2_with (first
              | (go_at_call 269; (with_reducible refine KD.out.mono ?_); rintro e w' ⟨rfl, rfl⟩)
              | (go_at_call 270; (with_reducible refine LF.out.mono ?_); rintro e w2 ⟨rfl, hg⟩; have G2 := Lib.hid hg; clear hg)
              | (go_at_call 215; (with_reducible refine (OW.out _ G2.out).mono ?_); rintro e w3 ⟨rfl, hg⟩; have G3 := Lib.hid (G2.out.trans hg); clear hg))
            go_ret2
            exact .inl ⟨p, h64, FF.out, HQ.out, rfl, HG.out.trans G3.out⟩
    · obtain rfl : p = 64 := by omega
      cases hf : pg.find 1 0 x.ks with
      | none =>
        have CV := Lib.hid (carve_no HS.out HK.out hf)
        have HF := Lib.hid hf
        clear hf
        go_wp2_with (first
          | (go_at_call 271; (with_reducible refine CV.out.mono ?_); rintro e w2 ⟨rfl, hg⟩; have G2 := Lib.hid hg; clear hg))
        go_ret2
        exact .inr (.inl ⟨HQ.out, HF.out, rfl, HG.out.trans G2.out⟩)
      | some p0 =>
        obtain ⟨z, n, e1, e2, _⟩ := ch.sz_cl HK.out.1 HK.out.2
        have CV := Lib.hid (carve_yes HS.out HK.out hf e1 e2)
        have HF := Lib.hid hf
        have E1 := Lib.hid e1
        have E2 := Lib.hid e2
        clear hf e1 e2
        go_wp2_with (first
          | (go_at_call 271; (with_reducible refine CV.out.mono ?_); rintro e w2 ⟨rfl, hs, hg⟩; have H2 := Lib.hid hs; have G2 := Lib.hid hg; clear hs hg))
        go_ret2
        exact .inr (.inr ⟨HQ.out, p0, z, n, HF.out, E1.out, E2.out, rfl, H2.out, (Gr.new HG.out).trans G2.out⟩)
end
end Go.Proofs.YtkgdcgmbapchcaaGreatDoor.st
