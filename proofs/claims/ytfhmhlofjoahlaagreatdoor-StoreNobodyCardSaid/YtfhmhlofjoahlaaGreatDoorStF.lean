/- The store: Slow, its ways; Free; what is told of an object. -/
import Derived.Test.YtfhmhlofjoahlaaGreatDoorStE
import Derived.Test.YtfhmhlofjoahlaaGreatDoorWdQ
namespace Go.Proofs.YtfhmhlofjoahlaaGreatDoor.st
open Go.ChangeShapes Go.WideShapes Go.ChangeAt Go.RowKit Go.Maps gen calls cls geos ce
set_option linter.unusedVariables false
set_option maxHeartbeats 4000000
set_option maxRecDepth 100000
abbrev rE (a c : Int) : Ending := .returned (.tuple #[.int .i64 a, .int .i64 c])
section
variable {w w' : World} {I : Ids} {x : Hs}
theorem Slow_range (H : Sr w I x) {t n : Int} (hn : ¬ ((0 ≤ n ∧ n ≤ 127) ∧ 0 ≤ t ∧ t < x.T)) :
    Calls Tryz.prog 6 #[.pointer (some ⟨I.S, 0, none⟩), .int .i64 t, .int .i64 n] w fun e w' => e = rE 0 4 ∧ w.grownBy w' none := by
  have f0 := H.s0
  have f2 := H.s2
  generalize hT : x.T = T at *
  clear H hT
  by_cases h1 : n < 0
  · have t1 : decide (n < 0) = true := by simpa using h1
    clear hn h1
    go_enter Tryz.func6, Tryz.ntmps6
    go_wp2_with (first
      | (go_at_call 21; (with_reducible refine (known_yes _ _).mono ?_); rintro e w' ⟨rfl, rfl⟩))
    go_ret2
    exact ⟨rfl, World.grownBy.refl _ _⟩
  have t1 : decide (n < 0) = false := by simp; omega
  by_cases h2 : 127 < n
  · have t2 : decide (127 < n) = true := by simpa using h2
    clear hn h1 h2
    go_enter Tryz.func6, Tryz.ntmps6
    go_wp2_with (first
      | (go_at_call 21; (with_reducible refine (known_yes _ _).mono ?_); rintro e w' ⟨rfl, rfl⟩))
    go_ret2
    exact ⟨rfl, World.grownBy.refl _ _⟩
  have t2 : decide (127 < n) = false := by simp; omega
  by_cases h3 : t < 0
  · have t3 : decide (t < 0) = true := by simpa using h3
    clear hn h1 h2 h3
    go_enter Tryz.func6, Tryz.ntmps6
    go_wp2_with (first
      | (go_at_call 21; (with_reducible refine (known_yes _ _).mono ?_); rintro e w' ⟨rfl, rfl⟩))
    go_ret2
    exact ⟨rfl, World.grownBy.refl _ _⟩
  have t3 : decide (t < 0) = false := by simp; omega
  have t4 : decide ((T : Int) ≤ t) = true := by simp; omega
  clear hn h1 h2 h3
  go_enter Tryz.func6, Tryz.ntmps6
  go_wp2_with (first
    | (go_at_call 21; (with_reducible refine (known_yes _ _).mono ?_); rintro e w' ⟨rfl, rfl⟩))
  go_ret2
  exact ⟨rfl, World.grownBy.refl _ _⟩
theorem Slow_no (H : Sr w I x) {t n : Int} (hn : (0 ≤ n ∧ n ≤ 127) ∧ 0 ≤ t ∧ t < x.T)
    (TK : Calls Tryz.prog 25 #[.pointer (some ⟨I.S, 0, none⟩), .int .i64 t, .int .i64 n] w fun e w' => e = rI 0 false ∧ w.grownBy w' none) :
    Calls Tryz.prog 6 #[.pointer (some ⟨I.S, 0, none⟩), .int .i64 t, .int .i64 n] w fun e w' => e = rE 0 10 ∧ w.grownBy w' none := by
  have f0 := H.s0
  have f2 := H.s2
  have TK := Lib.hid TK
  generalize hT : x.T = T at *
  clear H hT
  have t1 : decide (n < 0) = false := by simp; omega
  have t2 : decide (127 < n) = false := by simp; omega
  have t3 : decide (t < 0) = false := by simp; omega
  have t4 : decide ((T : Int) ≤ t) = false := by simp; omega
  clear hn
  go_enter Tryz.func6, Tryz.ntmps6
  go_wp2_with (first
    | (go_at_call 21; (with_reducible refine (known_yes _ _).mono ?_); rintro e w' ⟨rfl, rfl⟩)
    | (go_at_call 25; (with_reducible refine TK.out.mono ?_); rintro e w2 ⟨rfl, hg⟩; have G2 := Lib.hid hg; clear hg))
  go_ret2
  exact ⟨rfl, G2.out⟩
theorem Slow_yes (H : Sr w I x) {y : Hs} {a : Nat} {t n : Int} (hn : (0 ≤ n ∧ n ≤ 127) ∧ 0 ≤ t ∧ t < x.T)
    (TK : Calls Tryz.prog 25 #[.pointer (some ⟨I.S, 0, none⟩), .int .i64 t, .int .i64 n] w (Done I (.tuple #[.int .i64 a, .bool true]) y w)) :
    Calls Tryz.prog 6 #[.pointer (some ⟨I.S, 0, none⟩), .int .i64 t, .int .i64 n] w (Done I (.tuple #[.int .i64 a, .int .i64 0]) y w) := by
  have f0 := H.s0
  have f2 := H.s2
  have TK := Lib.hid TK
  generalize hT : x.T = T at *
  clear H hT
  have t1 : decide (n < 0) = false := by simp; omega
  have t2 : decide (127 < n) = false := by simp; omega
  have t3 : decide (t < 0) = false := by simp; omega
  have t4 : decide ((T : Int) ≤ t) = false := by simp; omega
  clear hn
  go_enter Tryz.func6, Tryz.ntmps6
  go_wp2_with (first
    | (go_at_call 21; (with_reducible refine (known_yes _ _).mono ?_); rintro e w' ⟨rfl, rfl⟩)
    | (go_at_call 25; (with_reducible refine TK.out.mono ?_); rintro e w2 ⟨rfl, hs, hg⟩; have H2 := Lib.hid hs; have G2 := Lib.hid hg; clear hs hg))
  go_ret2
  exact ⟨rfl, H2.out, G2.out⟩
/-- An object that begins at a. -/
structure Ob (x : Hs) (a s n : Nat) : Prop where
  tk : (a : Int) ∈ x.tk
  wd : x.xs.getD a 0 = (s : Int) * 128 + n
  n8 : n < 128
  s8 : s < 1099511627776
theorem first_no (H : Sr w I x) {a : Int} (ha : a ∉ x.tk) :
    Calls Tryz.prog 33 #[.pointer (some ⟨I.S, 0, none⟩), .int .i64 a] w fun e w' => e = .returned (.tuple #[.int .i64 0, .int .i64 0, .bool false]) ∧ w.grownBy w' none := by
  obtain ⟨ws, H0, e⟩ := H.hp
  have IS := Lib.hid (Is_any H0 a)
  rw [e, show decide (a ∈ x.tk) = false by simpa using ha] at IS
  have f0 := H.s0
  clear H H0 e ha
  go_enter Tryz.func33, Tryz.ntmps33
  go_wp2_with (first
    | (go_at_call 21; (with_reducible refine (known_yes _ _).mono ?_); rintro e w' ⟨rfl, rfl⟩)
    | (go_at_call 64; (with_reducible refine IS.out.mono ?_); rintro e w2 ⟨rfl, hd⟩; have G2 := Lib.hid (drew_grown hd); clear hd))
  go_ret3
  exact ⟨rfl, G2.out⟩
theorem first_yes (H : Sr w I x) {a s n : Nat} (hb : Ob x a s n) :
    Calls Tryz.prog 33 #[.pointer (some ⟨I.S, 0, none⟩), .int .i64 a] w fun e w' => e = .returned (.tuple #[.int .i64 s, .int .i64 n, .bool true]) ∧ w.grownBy w' none := by
  obtain ⟨ws, H0, e⟩ := H.hp
  have IS := Lib.hid (Is_any H0 a)
  rw [e, show decide ((a : Int) ∈ x.tk) = true by simpa using hb.tk] at IS
  have hin := bz_in H.ok hb.tk
  have hpo := bz_pos H.ok hb.tk
  have LD := Lib.hid (fun W (hg : w.grownBy W none) => Load_yes (H0.new hg) a (by omega))
  rw [hb.wd] at LD
  have n8 := hb.n8
  have s8 := hb.s8
  have SP := Lib.hid (fun W => hd.Split_yes ((s : Int) * 128 + n) W (by constructor <;> omega))
  rw [show ((s : Int) * 128 + n) / 128 = s by omega, show ((s : Int) * 128 + n) % 128 = n by omega] at SP
  have HH := Lib.hid H
  have f0 := H.s0
  generalize (s : Int) * 128 + n = v at *
  clear H H0 e hb hin hpo n8 s8
  go_enter Tryz.func33, Tryz.ntmps33
  go_wp2_with (first
    | (go_at_call 21; (with_reducible refine (known_yes _ _).mono ?_); rintro e w' ⟨rfl, rfl⟩)
    | (go_at_call 64; (with_reducible refine IS.out.mono ?_); rintro e w2 ⟨rfl, hd⟩; have G2 := Lib.hid (drew_grown hd); have f2 := (HH.out.new G2.out).s0; clear hd)
    | (go_at_call 27; (with_reducible refine (LD.out _ G2.out).mono ?_); rintro e w' ⟨rfl, rfl⟩)
    | (go_at_call 65; (with_reducible refine (SP.out _).mono ?_); rintro e w' ⟨rfl, rfl⟩))
  go_ret3
  exact ⟨rfl, G2.out⟩
theorem Fields_no (H : Sr w I x) {a : Int} (ha : a ∉ x.tk) :
    Calls Tryz.prog 11 #[.pointer (some ⟨I.S, 0, none⟩), .int .i64 a] w fun e w' => e = int1 (-1) ∧ w.grownBy w' none := by
  have F := Lib.hid (first_no H ha)
  clear H ha
  go_enter Tryz.func11, Tryz.ntmps11
  go_wp2_with (go_at_call 33; (with_reducible refine F.out.mono ?_); rintro e w2 ⟨rfl, hg⟩; have G2 := Lib.hid hg; clear hg)
  go_ret
  exact ⟨rfl, G2.out⟩
theorem Fields_yes (H : Sr w I x) {a s n : Nat} (hb : Ob x a s n) :
    Calls Tryz.prog 11 #[.pointer (some ⟨I.S, 0, none⟩), .int .i64 a] w fun e w' => e = int1 n ∧ w.grownBy w' none := by
  have F := Lib.hid (first_yes H hb)
  clear H hb
  go_enter Tryz.func11, Tryz.ntmps11
  go_wp2_with (go_at_call 33; (with_reducible refine F.out.mono ?_); rintro e w2 ⟨rfl, hg⟩; have G2 := Lib.hid hg; clear hg)
  go_ret
  exact ⟨rfl, G2.out⟩
theorem Serial_no (H : Sr w I x) {a : Int} (ha : a ∉ x.tk) :
    Calls Tryz.prog 12 #[.pointer (some ⟨I.S, 0, none⟩), .int .i64 a] w fun e w' => e = int1 (-1) ∧ w.grownBy w' none := by
  have F := Lib.hid (first_no H ha)
  clear H ha
  go_enter Tryz.func12, Tryz.ntmps12
  go_wp2_with (go_at_call 33; (with_reducible refine F.out.mono ?_); rintro e w2 ⟨rfl, hg⟩; have G2 := Lib.hid hg; clear hg)
  go_ret
  exact ⟨rfl, G2.out⟩
theorem Serial_yes (H : Sr w I x) {a s n : Nat} (hb : Ob x a s n) :
    Calls Tryz.prog 12 #[.pointer (some ⟨I.S, 0, none⟩), .int .i64 a] w fun e w' => e = int1 s ∧ w.grownBy w' none := by
  have F := Lib.hid (first_yes H hb)
  clear H hb
  go_enter Tryz.func12, Tryz.ntmps12
  go_wp2_with (go_at_call 33; (with_reducible refine F.out.mono ?_); rintro e w2 ⟨rfl, hg⟩; have G2 := Lib.hid hg; clear hg)
  go_ret
  exact ⟨rfl, G2.out⟩
/-- Where an object has no field i, or no object is. -/
def Nof (x : Hs) (a i : Int) : Prop := i < 0 ∨ a ∉ x.tk ∨ ∃ A s n : Nat, a = A ∧ Ob x A s n ∧ (n : Int) ≤ i
theorem field_no (H : Sr w I x) {a i : Int} (h : Nof x a i) :
    Calls Tryz.prog 26 #[.pointer (some ⟨I.S, 0, none⟩), .int .i64 a, .int .i64 i] w fun e w' => e = rI 0 false ∧ w.grownBy w' none := by
  by_cases h1 : i < 0
  · have t1 : decide (i < 0) = true := by simpa using h1
    clear h h1 H
    go_enter Tryz.func26, Tryz.ntmps26
    go_wp2
    go_ret2
    exact ⟨rfl, World.grownBy.refl _ _⟩
  · have t1 : decide (i < 0) = false := by simp; omega
    have FD : ∃ m : Int, m ≤ i ∧ Calls Tryz.prog 11 #[.pointer (some ⟨I.S, 0, none⟩), .int .i64 a] w fun e w' => e = int1 m ∧ w.grownBy w' none := by
      rcases h with h | h | ⟨A, s, n, rfl, hb, hn⟩
      · exact absurd h h1
      · exact ⟨-1, by omega, Fields_no H h⟩
      · exact ⟨n, hn, Fields_yes H hb⟩
    obtain ⟨m, hm, FD⟩ := FD
    have t2 : decide (m ≤ i) = true := by simpa using hm
    have FD := Lib.hid FD
    clear h h1 H hm
    go_enter Tryz.func26, Tryz.ntmps26
    go_wp2_with (go_at_call 11; (with_reducible refine FD.out.mono ?_); rintro e w2 ⟨rfl, hg⟩; have G2 := Lib.hid hg; clear hg)
    go_ret2
    exact ⟨rfl, G2.out⟩
theorem field_yes (H : Sr w I x) {a s n i : Nat} (hb : Ob x a s n) (hi : i < n) :
    Calls Tryz.prog 26 #[.pointer (some ⟨I.S, 0, none⟩), .int .i64 a, .int .i64 i] w fun e w' => e = rI ((a + 1 + i : Nat) : Int) true ∧ w.grownBy w' none := by
  have FD := Lib.hid (Fields_yes H hb)
  have hin := bz_in H.ok hb.tk
  have hpo := bz_pos H.ok hb.tk
  have hl := H.ok.len
  have hf := H.ok.few
  have n8 := hb.n8
  rw [show ((a + 1 + i : Nat) : Int) = (a : Int) + 1 + i by omega]
  have t2 : decide ((n : Int) ≤ i) = false := decide_eq_false (by omega)
  have t1 : decide ((i : Int) < 0) = false := decide_eq_false (by omega)
  have a1 : 0 ≤ (a : Int) ∧ (a : Int) < 2048 := by omega
  have i1 : 0 ≤ (i : Int) ∧ (i : Int) < 128 := by omega
  clear H hb hi hin hpo hl hf n8
  generalize (a : Int) = A at *
  generalize (i : Int) = i' at *
  generalize (n : Int) = n' at *
  obtain ⟨a1, a2⟩ := a1
  obtain ⟨i1, i2⟩ := i1
  go_enter Tryz.func26, Tryz.ntmps26
  go_wp2_with (go_at_call 11; (with_reducible refine FD.out.mono ?_); rintro e w2 ⟨rfl, hg⟩; have G2 := Lib.hid hg; clear hg)
  go_ret2
  exact ⟨rfl, G2.out⟩
end
end Go.Proofs.YtfhmhlofjoahlaaGreatDoor.st
