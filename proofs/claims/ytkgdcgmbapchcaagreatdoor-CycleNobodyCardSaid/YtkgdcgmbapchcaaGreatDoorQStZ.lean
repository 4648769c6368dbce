/- Texts that this claim stands on. -/
import Derived.Test.YtkgdcgmbapchcaaGreatDoorQStY
import Derived.Test.YtkgdcgmbapchcaaGreatDoorQMmQ
namespace Go.Proofs.YtkgdcgmbapchcaaGreatDoor.st
open Go.ChangeShapes Go.WideShapes Go.ChangeAt Go.RowKit Go.Maps gen calls cls geos ce
set_option linter.unusedVariables false
set_option maxHeartbeats 4000000
set_option maxRecDepth 100000
section
variable {w w' : World} {I : Ids} {x : Hs}
theorem cl_ofn {n : Int} (h0 : 0 ≤ n) (h1 : n ≤ 15) : (1 ≤ ofn n ∧ ofn n ≤ 4) ∧ (cl (ofn n) == 0) = false ∧ (n + 1 ≤ sz (ofn n)) := by
  have h : ofn n = 1 ∧ n < 2 ∨ ofn n = 2 ∧ n < 4 ∨ ofn n = 3 ∧ n < 8 ∨ ofn n = 4 ∧ n < 16 := by
    unfold ofn; repeat' split
    all_goals omega
  rcases h with ⟨h, _⟩ | ⟨h, _⟩ | ⟨h, _⟩ | ⟨h, _⟩ <;> rw [h] <;> simp [cl, sz] <;> omega
theorem cl_ofn5 {n : Int} (h0 : 16 ≤ n) (h1 : n ≤ 127) : ofn n = 5 ∧ (cl (ofn n) == 0) = true ∧ ∃ N : Nat, pgs n = N ∧ 1 ≤ N ∧ N ≤ 4 ∧ n + 1 ≤ 32 * N := by
  have h := (ofn_eq n).2.2 ⟨h0, h1⟩
  refine ⟨h, by rw [h]; rfl, (pgs n).toNat, ?_⟩
  unfold pgs
  rw [if_neg (by omega)]
  omega
theorem take_large_no (H : Sr w I x) (t : Int) {n : Int} (h0 : 16 ≤ n) (h1 : n ≤ 127) (hno : pg.find (pgs n) 0 x.ks = none) :
    Calls Tryz.prog 157 #[.pointer (some ⟨I.S, 0, none⟩), .int .i64 t, .int .i64 n] w fun e w' => e = rI 0 false ∧ w.grownBy w' none := by
  have LG := Lib.hid (large_no H n hno)
  have e5 := (cl_ofn5 h0 h1).1
  have E5 := Lib.hid e5
  clear H hno e5 h0 h1
  go_enter Tryz.func157, Tryz.ntmps157
  go_wp2_with (first
    | (go_at_call 154; (with_reducible refine (of_any _ _).mono ?_); rintro e w' ⟨rfl, rfl⟩; rw [E5.out])
    | (go_at_call 223; (with_reducible refine (cells_any 5 _ rfl).mono ?_); rintro e w' ⟨rfl, rfl⟩; rw [show cl 5 = 0 from rfl])
    | (go_at_call 224; (with_reducible refine LG.out.mono ?_); rintro e w2 ⟨rfl, hg⟩; have G2 := Lib.hid hg; clear hg))
  go_ret2
  exact ⟨rfl, G2.out⟩
theorem take_large_yes (H : Sr w I x) (t : Int) {n : Int} {N p a z : Nat} (h0 : 16 ≤ n) (h1 : n ≤ 127) (hm : hd.May x.cnt n) (hN : pgs n = N) (hf : pg.find N 0 x.ks = some p) (ha : a = p * 32) (hz : z = N * 32) :
    Calls Tryz.prog 157 #[.pointer (some ⟨I.S, 0, none⟩), .int .i64 t, .int .i64 n] w (Done I (.tuple #[.int .i64 a, .bool true]) ((x.spanned p N a z).begun a n) w) := by
  have hN1 : 1 ≤ N := by obtain ⟨_, _, M, e, h, _⟩ := cl_ofn5 h0 h1; omega
  have LG := Lib.hid (large_yes H hm hN hN1 hf ha hz)
  have e5 := (cl_ofn5 h0 h1).1
  have E5 := Lib.hid e5
  clear H hf e5 h0 h1 hm hN ha hz hN1
  go_enter Tryz.func157, Tryz.ntmps157
  go_wp2_with (first
    | (go_at_call 154; (with_reducible refine (of_any _ _).mono ?_); rintro e w' ⟨rfl, rfl⟩; rw [E5.out])
    | (go_at_call 223; (with_reducible refine (cells_any 5 _ rfl).mono ?_); rintro e w' ⟨rfl, rfl⟩; rw [show cl 5 = 0 from rfl])
    | (go_at_call 224; (with_reducible refine LG.out.mono ?_); rintro e w2 ⟨rfl, hs, hg⟩; have H2 := Lib.hid hs; have G2 := Lib.hid hg; clear hs hg))
  go_ret2
  exact ⟨rfl, H2.out, G2.out⟩
theorem take_fast (H : Sr w I x) (t : Int) {n : Int} {p a z : Nat} {f : Int} {rest : List Int} (h0 : 0 ≤ n) (h1 : n ≤ 15) (ht : fits t = true) (hp : ca.page x.own t (ofn n) = p) (hm : hd.May x.cnt n) (hk : 1 ≤ pg.kind x.ks p ∧ pg.kind x.ks p ≤ 4) (hfr : x.fr p = f :: rest) (ha : (a : Int) = p * 32 + f * sz (pg.kind x.ks p)) (hz : sz (pg.kind x.ks p) = z) :
    Calls Tryz.prog 157 #[.pointer (some ⟨I.S, 0, none⟩), .int .i64 t, .int .i64 n] w (Done I (.tuple #[.int .i64 a, .bool true]) ((x.took p f rest a z).begun a n) w) := by
  have FT := Lib.hid (Fast_yes H t ht hp hm hk hfr ha hz)
  obtain ⟨c1, c2, _⟩ := cl_ofn h0 h1
  have OF := Lib.hid (show fits (ofn n) = true by simp [fits]; omega)
  clear H hp hm hk hfr ha hz c1 h0 h1 ht
  generalize hk : ofn n = k at *
  generalize hcl : cl k = cc at *
  have HK := Lib.hid hk
  have HC := Lib.hid hcl
  clear hk hcl
  go_enter Tryz.func157, Tryz.ntmps157
  go_wp2_with (first
    | (go_at_call 154; (with_reducible refine (of_any _ _).mono ?_); rintro e w' ⟨rfl, rfl⟩; rw [HK.out])
    | (go_at_call 223; (with_reducible refine (cells_any _ _ OF.out).mono ?_); rintro e w' ⟨rfl, rfl⟩; rw [HC.out])
    | (go_at_call 80; (with_reducible refine FT.out.mono ?_); rintro e w2 ⟨rfl, hs, hg⟩; have H2 := Lib.hid hs; have G2 := Lib.hid hg; clear hs hg))
  go_ret2
  exact ⟨rfl, H2.out, G2.out⟩
theorem take_full (H : Sr w I x) (t : Int) {n : Int} (h0 : 0 ≤ n) (h1 : n ≤ 15) (ht : fits t = true) (hno : Noc x (ca.page x.own t (ofn n)))
    (OP : ∀ W, w.grownBy W none → Calls Tryz.prog 225 #[.pointer (some ⟨I.S, 0, none⟩), .int .i64 (ofn n)] W fun e w' => e = rI 0 false ∧ W.grownBy w' none) :
    Calls Tryz.prog 157 #[.pointer (some ⟨I.S, 0, none⟩), .int .i64 t, .int .i64 n] w fun e w' => e = rI 0 false ∧ w.grownBy w' none := by
  have FT := Lib.hid (Fast_no H t n ht hno)
  obtain ⟨c1, c2, _⟩ := cl_ofn h0 h1
  have OF := Lib.hid (show fits (ofn n) = true by simp [fits]; omega)
  have OP := Lib.hid OP
  clear H hno c1 h0 h1 ht
  generalize hk : ofn n = k at *
  generalize hcl : cl k = cc at *
  have HK := Lib.hid hk
  have HC := Lib.hid hcl
  clear hk hcl
  go_enter Tryz.func157, Tryz.ntmps157
  go_wp2_with (first
    | (go_at_call 154; (with_reducible refine (of_any _ _).mono ?_); rintro e w' ⟨rfl, rfl⟩; rw [HK.out])
    | (go_at_call 223; (with_reducible refine (cells_any _ _ OF.out).mono ?_); rintro e w' ⟨rfl, rfl⟩; rw [HC.out])
    | (go_at_call 80; (with_reducible refine FT.out.mono ?_); rintro e w2 ⟨rfl, hg⟩; have G2 := Lib.hid hg; clear hg)
    | (go_at_call 225; (with_reducible refine (OP.out _ G2.out).mono ?_); rintro e w3 ⟨rfl, hg⟩; have G3 := Lib.hid (G2.out.trans hg); clear hg))
  go_ret2
  exact ⟨rfl, G3.out⟩
theorem take_more (H : Sr w I x) {y : Hs} {t n : Int} {p a z : Nat} {f : Int} {rest : List Int} (h0 : 0 ≤ n) (h1 : n ≤ 15) (ht : fits t = true) (hno : Noc x (ca.page x.own t (ofn n)))
    (OP : ∀ W, w.grownBy W none → Calls Tryz.prog 225 #[.pointer (some ⟨I.S, 0, none⟩), .int .i64 (ofn n)] W (Done I (.tuple #[.int .i64 p, .bool true]) y W))
    (hmay : ca.may y.T y.own t (ofn n) p = true) (hm : hd.May y.cnt n) (hk : 1 ≤ pg.kind y.ks p ∧ pg.kind y.ks p ≤ 4) (hfr : y.fr p = f :: rest) (ha : (a : Int) = p * 32 + f * sz (pg.kind y.ks p)) (hz : sz (pg.kind y.ks p) = z) :
    Calls Tryz.prog 157 #[.pointer (some ⟨I.S, 0, none⟩), .int .i64 t, .int .i64 n] w (Done I (.tuple #[.int .i64 a, .bool true]) (((y.owned t (ofn n) p).took p f rest a z).begun a n) w) := by
  have FT := Lib.hid (Fast_no H t n ht hno)
  obtain ⟨c1, c2, _⟩ := cl_ofn h0 h1
  have OF := Lib.hid (show fits (ofn n) = true by simp [fits]; omega)
  have OP := Lib.hid OP
  have HT := Lib.hid ht
  have FR := Lib.hid (fun W (hs : Sr W I (y.owned t (ofn n) p)) => from_yes (x := y.owned t (ofn n) p) hs hm hk hfr ha hz)
  have HM := Lib.hid hmay
  clear H hno c1 h0 h1 ht hmay hm hk hfr ha hz
  generalize hk : ofn n = k at *
  generalize hcl : cl k = cc at *
  have HK := Lib.hid hk
  have HC := Lib.hid hcl
  clear hk hcl
  go_enter Tryz.func157, Tryz.ntmps157
  go_wp2_with (first
    | (go_at_call 154; (with_reducible refine (of_any _ _).mono ?_); rintro e w' ⟨rfl, rfl⟩; rw [HK.out])
    | (go_at_call 223; (with_reducible refine (cells_any _ _ OF.out).mono ?_); rintro e w' ⟨rfl, rfl⟩; rw [HC.out])
    | (go_at_call 80; (with_reducible refine FT.out.mono ?_); rintro e w2 ⟨rfl, hg⟩; have G2 := Lib.hid hg; clear hg)
    | (go_at_call 225; (with_reducible refine (OP.out _ G2.out).mono ?_); rintro e w3 ⟨rfl, hs, hg⟩; have H3 := Lib.hid hs; have G3 := Lib.hid ((Gr.new G2.out).trans hg); have f3 := hs.s1; clear hs hg)
    | (go_at_call 226; obtain ⟨D3, hc⟩ := H3.out.at_; (with_reducible refine (ca.Set_may hc t k p HT.out OF.out HM.out).mono ?_); rintro e w4 ⟨D4, rfl, ht, hg⟩; have H4 := Lib.hid (show Sr w4 I (y.owned t k p) from H3.out.cache ht hg); have G4 := Lib.hid (G3.out.trans (grm hg)); clear hc ht hg)
    | (go_at_call 152; (with_reducible refine (FR.out _ H4.out).mono ?_); rintro e w5 ⟨rfl, hs, hg⟩; have H5 := Lib.hid hs; have G5 := Lib.hid (G4.out.trans hg); clear hs hg))
  go_ret2
  exact ⟨rfl, H5.out, G5.out⟩
theorem open_found (H : Sr w I x) {k : Int} (hk : 1 ≤ k ∧ k ≤ 4) {p : Nat} (hp : p < 64) (hf : fit x k p = true) (hl : ∀ q : Nat, q < p → fit x k q = false) (W : World) (hg : w.grownBy W none) :
    Calls Tryz.prog 225 #[.pointer (some ⟨I.S, 0, none⟩), .int .i64 k] W (Done I (.tuple #[.int .i64 p, .bool true]) x W) := by
  refine (open_any (H.new hg) hk).mono fun e w' h => ?_
  rcases h with ⟨q, h1, h2, h3, h4, h5⟩ | ⟨h1, _⟩ | ⟨h1, _⟩
  · have : p = q := by
      rcases Nat.lt_trichotomy p q with h | h | h
      · have := h3 p h; rw [hf] at this; cases this
      · exact h
      · have := hl q h; rw [h2] at this; cases this
    subst this
    exact ⟨h4, (H.new hg).new h5, .new h5⟩
  · have := h1 p hp; rw [hf] at this; cases this
  · have := h1 p hp; rw [hf] at this; cases this
theorem open_full (H : Sr w I x) {k : Int} (hk : 1 ≤ k ∧ k ≤ 4) (hl : ∀ q : Nat, q < 64 → fit x k q = false) (hf : pg.find 1 0 x.ks = none) (W : World) (hg : w.grownBy W none) :
    Calls Tryz.prog 225 #[.pointer (some ⟨I.S, 0, none⟩), .int .i64 k] W fun e w' => e = rI 0 false ∧ W.grownBy w' none := by
  refine (open_any (H.new hg) hk).mono fun e w' h => ?_
  rcases h with ⟨q, h1, h2, _⟩ | ⟨_, _, h⟩ | ⟨_, p, z, n, h, _⟩
  · have := hl q h1; rw [h2] at this; cases this
  · exact h
  · rw [hf] at h; cases h
theorem open_carve (H : Sr w I x) {k : Int} (hk : 1 ≤ k ∧ k ≤ 4) (hl : ∀ q : Nat, q < 64 → fit x k q = false) {p z n : Nat} (hf : pg.find 1 0 x.ks = some p) (hz : sz k = z) (hn : cl k = n) (W : World) (hg : w.grownBy W none) :
    Calls Tryz.prog 225 #[.pointer (some ⟨I.S, 0, none⟩), .int .i64 k] W (Done I (.tuple #[.int .i64 p, .bool true]) (x.carved p k z n) W) := by
  refine (open_any (H.new hg) hk).mono fun e w' h => ?_
  rcases h with ⟨q, h1, h2, _⟩ | ⟨_, h, _⟩ | ⟨_, p', z', n', h, e1, e2, hd⟩
  · have := hl q h1; rw [h2] at this; cases this
  · rw [hf] at h; cases h
  · rw [hf] at h
    obtain rfl : p = p' := by injection h
    obtain rfl : z = z' := by omega
    obtain rfl : n = n' := by omega
    exact hd
end
end Go.Proofs.YtkgdcgmbapchcaaGreatDoor.st
namespace Go.Proofs.YtkgdcgmbapchcaaGreatDoor.st
open Go.ChangeShapes Go.WideShapes Go.ChangeAt Go.RowKit Go.Maps gen calls cls geos ce
set_option linter.unusedVariables false
set_option maxHeartbeats 4000000
set_option maxRecDepth 100000
abbrev rE (a c : Int) : Ending := .returned (.tuple #[.int .i64 a, .int .i64 c])
section
variable {w w' : World} {I : Ids} {x : Hs}
theorem Slow_no (H : Sr w I x) {t n : Int} (hn : (0 ≤ n ∧ n ≤ 127) ∧ 0 ≤ t ∧ t < x.T)
    (TK : Calls Tryz.prog 157 #[.pointer (some ⟨I.S, 0, none⟩), .int .i64 t, .int .i64 n] w fun e w' => e = rI 0 false ∧ w.grownBy w' none) :
    Calls Tryz.prog 82 #[.pointer (some ⟨I.S, 0, none⟩), .int .i64 t, .int .i64 n] w fun e w' => e = rE 0 10 ∧ w.grownBy w' none := by
  have f0 := H.s0
  have f2 := H.s2
  have TK := Lib.hid TK
  generalize hT : x.T = T at *
  clear H hT
  have t1 : decide (n < 0) = false := by simp; omega
  have t2 : decide (127 < n) = false := by simp; omega
  have t3 : decide (t < 0) = false := by simp; omega
  have t4 : decide ((T : Int) ≤ t) = false := by simp; omega
  clear hn
  go_enter Tryz.func82, Tryz.ntmps82
  go_wp2_with (first
    | (go_at_call 127; (with_reducible refine (known_yes _ _).mono ?_); rintro e w' ⟨rfl, rfl⟩)
    | (go_at_call 157; (with_reducible refine TK.out.mono ?_); rintro e w2 ⟨rfl, hg⟩; have G2 := Lib.hid hg; clear hg))
  go_ret2
  exact ⟨rfl, G2.out⟩
theorem Slow_yes (H : Sr w I x) {y : Hs} {a : Nat} {t n : Int} (hn : (0 ≤ n ∧ n ≤ 127) ∧ 0 ≤ t ∧ t < x.T)
    (TK : Calls Tryz.prog 157 #[.pointer (some ⟨I.S, 0, none⟩), .int .i64 t, .int .i64 n] w (Done I (.tuple #[.int .i64 a, .bool true]) y w)) :
    Calls Tryz.prog 82 #[.pointer (some ⟨I.S, 0, none⟩), .int .i64 t, .int .i64 n] w (Done I (.tuple #[.int .i64 a, .int .i64 0]) y w) := by
  have f0 := H.s0
  have f2 := H.s2
  have TK := Lib.hid TK
  generalize hT : x.T = T at *
  clear H hT
  have t1 : decide (n < 0) = false := by simp; omega
  have t2 : decide (127 < n) = false := by simp; omega
  have t3 : decide (t < 0) = false := by simp; omega
  have t4 : decide ((T : Int) ≤ t) = false := by simp; omega
  clear hn
  go_enter Tryz.func82, Tryz.ntmps82
  go_wp2_with (first
    | (go_at_call 127; (with_reducible refine (known_yes _ _).mono ?_); rintro e w' ⟨rfl, rfl⟩)
    | (go_at_call 157; (with_reducible refine TK.out.mono ?_); rintro e w2 ⟨rfl, hs, hg⟩; have H2 := Lib.hid hs; have G2 := Lib.hid hg; clear hs hg))
  go_ret2
  exact ⟨rfl, H2.out, G2.out⟩
structure Ob (x : Hs) (a s n : Nat) : Prop where
  tk : (a : Int) ∈ x.tk
  wd : x.xs.getD a 0 = (s : Int) * 128 + n
  n8 : n < 128
  s8 : s < 1099511627776
theorem first_no (H : Sr w I x) {a : Int} (ha : a ∉ x.tk) :
    Calls Tryz.prog 169 #[.pointer (some ⟨I.S, 0, none⟩), .int .i64 a] w fun e w' => e = .returned (.tuple #[.int .i64 0, .int .i64 0, .bool false]) ∧ w.grownBy w' none := by
  obtain ⟨ws, H0, e⟩ := H.hp
  have IS := Lib.hid (Is_any H0 a)
  rw [e, show decide (a ∈ x.tk) = false by simpa using ha] at IS
  have f0 := H.s0
  clear H H0 e ha
  go_enter Tryz.func169, Tryz.ntmps169
  go_wp2_with (first
    | (go_at_call 127; (with_reducible refine (known_yes _ _).mono ?_); rintro e w' ⟨rfl, rfl⟩)
    | (go_at_call 236; (with_reducible refine IS.out.mono ?_); rintro e w2 ⟨rfl, hd⟩; have G2 := Lib.hid (drew_grown hd); clear hd))
  go_ret3
  exact ⟨rfl, G2.out⟩
theorem first_yes (H : Sr w I x) {a s n : Nat} (hb : Ob x a s n) :
    Calls Tryz.prog 169 #[.pointer (some ⟨I.S, 0, none⟩), .int .i64 a] w fun e w' => e = .returned (.tuple #[.int .i64 s, .int .i64 n, .bool true]) ∧ w.grownBy w' none := by
  obtain ⟨ws, H0, e⟩ := H.hp
  have IS := Lib.hid (Is_any H0 a)
  rw [e, show decide ((a : Int) ∈ x.tk) = true by simpa using hb.tk] at IS
  have hin := bz_in H.ok hb.tk
  have hpo := bz_pos H.ok hb.tk
  have LD := Lib.hid (fun W (hg : w.grownBy W none) => Load_yes (H0.new hg) a (by omega))
  rw [hb.wd] at LD
  have n8 := hb.n8
  have s8 := hb.s8
  have SP := Lib.hid (fun W => hd.Split_yes ((s : Int) * 128 + n) W (by constructor <;> omega))
  rw [show ((s : Int) * 128 + n) / 128 = s by omega, show ((s : Int) * 128 + n) % 128 = n by omega] at SP
  have HH := Lib.hid H
  have f0 := H.s0
  generalize (s : Int) * 128 + n = v at *
  clear H H0 e hb hin hpo n8 s8
  go_enter Tryz.func169, Tryz.ntmps169
  go_wp2_with (first
    | (go_at_call 127; (with_reducible refine (known_yes _ _).mono ?_); rintro e w' ⟨rfl, rfl⟩)
    | (go_at_call 236; (with_reducible refine IS.out.mono ?_); rintro e w2 ⟨rfl, hd⟩; have G2 := Lib.hid (drew_grown hd); have f2 := (HH.out.new G2.out).s0; clear hd)
    | (go_at_call 159; (with_reducible refine (LD.out _ G2.out).mono ?_); rintro e w' ⟨rfl, rfl⟩)
    | (go_at_call 237; (with_reducible refine (SP.out _).mono ?_); rintro e w' ⟨rfl, rfl⟩))
  go_ret3
  exact ⟨rfl, G2.out⟩
theorem Fields_no (H : Sr w I x) {a : Int} (ha : a ∉ x.tk) :
    Calls Tryz.prog 97 #[.pointer (some ⟨I.S, 0, none⟩), .int .i64 a] w fun e w' => e = int1 (-1) ∧ w.grownBy w' none := by
  have F := Lib.hid (first_no H ha)
  clear H ha
  go_enter Tryz.func97, Tryz.ntmps97
  go_wp2_with (go_at_call 169; (with_reducible refine F.out.mono ?_); rintro e w2 ⟨rfl, hg⟩; have G2 := Lib.hid hg; clear hg)
  go_ret
  exact ⟨rfl, G2.out⟩
theorem Fields_yes (H : Sr w I x) {a s n : Nat} (hb : Ob x a s n) :
    Calls Tryz.prog 97 #[.pointer (some ⟨I.S, 0, none⟩), .int .i64 a] w fun e w' => e = int1 n ∧ w.grownBy w' none := by
  have F := Lib.hid (first_yes H hb)
  clear H hb
  go_enter Tryz.func97, Tryz.ntmps97
  go_wp2_with (go_at_call 169; (with_reducible refine F.out.mono ?_); rintro e w2 ⟨rfl, hg⟩; have G2 := Lib.hid hg; clear hg)
  go_ret
  exact ⟨rfl, G2.out⟩
def Nof (x : Hs) (a i : Int) : Prop := i < 0 ∨ a ∉ x.tk ∨ ∃ A s n : Nat, a = A ∧ Ob x A s n ∧ (n : Int) ≤ i
theorem field_no (H : Sr w I x) {a i : Int} (h : Nof x a i) :
    Calls Tryz.prog 158 #[.pointer (some ⟨I.S, 0, none⟩), .int .i64 a, .int .i64 i] w fun e w' => e = rI 0 false ∧ w.grownBy w' none := by
  by_cases h1 : i < 0
  · have t1 : decide (i < 0) = true := by simpa using h1
    clear h h1 H
    go_enter Tryz.func158, Tryz.ntmps158
    go_wp2
    go_ret2
    exact ⟨rfl, World.grownBy.refl _ _⟩
  · have t1 : decide (i < 0) = false := by simp; omega
    have FD : ∃ m : Int, m ≤ i ∧ Calls Tryz.prog 97 #[.pointer (some ⟨I.S, 0, none⟩), .int .i64 a] w fun e w' => e = int1 m ∧ w.grownBy w' none := by
      rcases h with h | h | ⟨A, s, n, rfl, hb, hn⟩
      · exact absurd h h1
      · exact ⟨-1, by omega, Fields_no H h⟩
      · exact ⟨n, hn, Fields_yes H hb⟩
    obtain ⟨m, hm, FD⟩ := FD
    have t2 : decide (m ≤ i) = true := by simpa using hm
    have FD := Lib.hid FD
    clear h h1 H hm
    go_enter Tryz.func158, Tryz.ntmps158
    go_wp2_with (go_at_call 97; (with_reducible refine FD.out.mono ?_); rintro e w2 ⟨rfl, hg⟩; have G2 := Lib.hid hg; clear hg)
    go_ret2
    exact ⟨rfl, G2.out⟩
theorem field_yes (H : Sr w I x) {a s n i : Nat} (hb : Ob x a s n) (hi : i < n) :
    Calls Tryz.prog 158 #[.pointer (some ⟨I.S, 0, none⟩), .int .i64 a, .int .i64 i] w fun e w' => e = rI ((a + 1 + i : Nat) : Int) true ∧ w.grownBy w' none := by
  have FD := Lib.hid (Fields_yes H hb)
  have hin := bz_in H.ok hb.tk
  have hpo := bz_pos H.ok hb.tk
  have hl := H.ok.len
  have hf := H.ok.few
  have n8 := hb.n8
  rw [show ((a + 1 + i : Nat) : Int) = (a : Int) + 1 + i by omega]
  have t2 : decide ((n : Int) ≤ i) = false := decide_eq_false (by omega)
  have t1 : decide ((i : Int) < 0) = false := decide_eq_false (by omega)
  have a1 : 0 ≤ (a : Int) ∧ (a : Int) < 2048 := by omega
  have i1 : 0 ≤ (i : Int) ∧ (i : Int) < 128 := by omega
  clear H hb hi hin hpo hl hf n8
  generalize (a : Int) = A at *
  generalize (i : Int) = i' at *
  generalize (n : Int) = n' at *
  obtain ⟨a1, a2⟩ := a1
  obtain ⟨i1, i2⟩ := i1
  go_enter Tryz.func158, Tryz.ntmps158
  go_wp2_with (go_at_call 97; (with_reducible refine FD.out.mono ?_); rintro e w2 ⟨rfl, hg⟩; have G2 := Lib.hid hg; clear hg)
  go_ret2
  exact ⟨rfl, G2.out⟩
end
end Go.Proofs.YtkgdcgmbapchcaaGreatDoor.st
