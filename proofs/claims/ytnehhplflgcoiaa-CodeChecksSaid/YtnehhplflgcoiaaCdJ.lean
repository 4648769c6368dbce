/- Layer 24: the program reads an answer. -/
import Derived.Test.YtnehhplflgcoiaaCdI
namespace Go.Proofs.Ytnehhplflgcoiaa.cd
open Go.ChangeShapes Go.WideShapes Go.ChangeAt Go.RowKit gen yb
set_option linter.unusedVariables false
set_option maxHeartbeats 1000000
set_option maxRecDepth 100000

/-- The number that q octets from o on are. -/
def nv (m : List UInt8) (o q : Nat) : Int := IntKind.i64.wrap (val ((m.drop o).take q) : Int)
theorem Told_len {w : World} {A : Option Addr} {n c : Nat} (hn : ¬ n = 14) : Calls Try.prog 14 #[.slice A n c] w
    fun e w' => e = .returned (.tuple #[.agg #[.int .i64 0, .int .i64 0, .int .i64 0, .int .i64 0, .int .i64 0], .int .i64 16]) ∧ w.grownBy w' none := by
  have h1 : ((n : Int) == 14) = false := by simp; omega
  have h2 : ((n : Int) != 14) = true := by simp; omega
  go_enter Try.func14, Try.ntmps14
  go_wp2
  exact bodyPost_ret (v := .tuple #[.agg #[.int .i64 0, .int .i64 0, .int .i64 0, .int .i64 0, .int .i64 0], .int .i64 16]) (by simp [results, Try.results14, go_sem]) rfl ⟨rfl, grown_alloc _ _⟩
theorem set5 (w : World) (g : Nat) (v0 v1 v2 v3 v4 : Value) : w.grownBy (((((w.setCell ⟨g, 0, none⟩ v0).setCell ⟨g, 1, none⟩ v1).setCell ⟨g, 2, none⟩ v2).setCell ⟨g, 3, none⟩ v3).setCell ⟨g, 4, none⟩ v4) (some g) :=
  ((((gr.grown_set _ _ _ _).trans (gr.grown_set _ _ _ _)).trans (gr.grown_set _ _ _ _)).trans (gr.grown_set _ _ _ _)).trans (gr.grown_set _ _ _ _)
theorem Told_yes {w : World} {b off c : Nat} {m : List UInt8} (h : Ry w (some ⟨b, off, none⟩) 14 c m) : Calls Try.prog 14 #[.slice (some ⟨b, off, none⟩) 14 c] w
    fun e w' => e = .returned (.tuple #[.agg #[.int .i64 (nv m 0 1), .int .i64 (nv m 1 1), .int .i64 (nv m 2 8), .int .i64 (nv m 10 2), .int .i64 (nv m 12 2)], .int .i64 0]) ∧ w.grownBy w' none := by
  obtain ⟨w1, hw1⟩ : ∃ w1, w1 = w.alloc (.cells #[.int .i64 0, .int .i64 0, .int .i64 0, .int .i64 0, .int .i64 0] 38) := ⟨_, rfl⟩
  have G1 := Lib.hid (show w.grownBy w1 none by rw [hw1]; exact grown_alloc _ _)
  have R1 := Lib.hid (h.made G1.out)
  have A1 := Lib.hid (show Av w1 w.heap.size 0 0 0 0 0 by rw [hw1]; exact Av.new _ _ _ _ _ _ _)
  have F1 := Lib.hid (show ∀ j, w1.frozen? ⟨w.heap.size, j, none⟩ = false by rw [hw1]; intro j; simp [go_sem])
  have HC : 14 ≤ c := h.2.1
  have HM := h.2.2.1
  have NB := Lib.hid (fun W (hg : w1.grownBy W none) (o q c' : Nat) (ho : o + q ≤ 14) (hq : q ≤ 8) (h1 : q ≤ c') (h2 : c' ≤ c) => number_any ((R1.out.made hg).part (k := o) (j := q) (c' := c') ho h1 (by omega)) hq)
  have N0 := Lib.hid (fun W hg => (show Calls Try.prog 20 #[.slice (some ⟨b, off, none⟩) 1 c] W fun e w' => e = .returned (.int .i64 (nv m 0 1)) ∧ W = w' from NB.out W hg 0 1 c (by omega) (by omega) (by omega) (by omega)))
  have N1 := Lib.hid (fun W hg => (show Calls Try.prog 20 #[.slice (some ⟨b, off + 1, none⟩) 1 (c - 1)] W fun e w' => e = .returned (.int .i64 (nv m 1 1)) ∧ W = w' from NB.out W hg 1 1 (c - 1) (by omega) (by omega) (by omega) (by omega)))
  have N2 := Lib.hid (fun W hg => (show Calls Try.prog 20 #[.slice (some ⟨b, off + 2, none⟩) 8 (c - 2)] W fun e w' => e = .returned (.int .i64 (nv m 2 8)) ∧ W = w' from NB.out W hg 2 8 (c - 2) (by omega) (by omega) (by omega) (by omega)))
  have N3 := Lib.hid (fun W hg => (show Calls Try.prog 20 #[.slice (some ⟨b, off + 10, none⟩) 2 (c - 10)] W fun e w' => e = .returned (.int .i64 (nv m 10 2)) ∧ W = w' from NB.out W hg 10 2 (c - 10) (by omega) (by omega) (by omega) (by omega)))
  have N4 := Lib.hid (fun W hg => (show Calls Try.prog 20 #[.slice (some ⟨b, off + 12, none⟩) 2 (c - 12)] W fun e w' => e = .returned (.int .i64 (nv m 12 2)) ∧ W = w' from NB.out W hg 12 2 (c - 12) (by omega) (by omega) (by omega) (by omega)))
  have HW := Lib.hid hw1
  have c14 : (14 : Int) ≤ c := by omega
  have i1 : (1 : Int) ≤ c := by omega
  have i2 : (2 : Int) ≤ c := by omega
  have i10 : (10 : Int) ≤ c := by omega
  have i12 : (12 : Int) ≤ c := by omega
  have k1 : ¬ (c = 1) := by omega
  have k2 : ¬ (c = 2) := by omega
  have k10 : ¬ (c = 10) := by omega
  have k12 : ¬ (c = 12) := by omega
  have k0 : ¬ (c = 0) := by omega
  obtain ⟨z0, z1, z2, z3, z4⟩ := A1.out
  have f0 := F1.out 0
  have f1 := F1.out 1
  have f2 := F1.out 2
  have f3 := F1.out 3
  have f4 := F1.out 4
  clear h hw1 NB
  go_enter Try.func14, Try.ntmps14
  go_wp2
  rw [← HW.out]
  go_region_held3 (fun _ => True) (first | trivial) (first
    | (go_at_call 20; (with_reducible refine (N0.out _ (by first | exact World.grownBy.refl _ _ | exact gr.grown_drew _ _)).mono ?_); rintro e w2 ⟨rfl, hw⟩; subst hw)
    | (go_at_call 20; (with_reducible refine (N1.out _ (by first | exact World.grownBy.refl _ _ | exact gr.grown_drew _ _)).mono ?_); rintro e w2 ⟨rfl, hw⟩; subst hw)
    | (go_at_call 20; (with_reducible refine (N2.out _ (by first | exact World.grownBy.refl _ _ | exact gr.grown_drew _ _)).mono ?_); rintro e w2 ⟨rfl, hw⟩; subst hw)
    | (go_at_call 20; (with_reducible refine (N3.out _ (by first | exact World.grownBy.refl _ _ | exact gr.grown_drew _ _)).mono ?_); rintro e w2 ⟨rfl, hw⟩; subst hw)
    | (go_at_call 20; (with_reducible refine (N4.out _ (by first | exact World.grownBy.refl _ _ | exact gr.grown_drew _ _)).mono ?_); rintro e w2 ⟨rfl, hw⟩; subst hw))
  go_wp2
  exact bodyPost_ret (v := .tuple #[.agg #[.int .i64 (nv m 0 1), .int .i64 (nv m 1 1), .int .i64 (nv m 2 8), .int .i64 (nv m 10 2), .int .i64 (nv m 12 2)], .int .i64 0]) (by simp [results, Try.results14, go_sem, z0, z1, z2, z3, z4]) rfl ⟨rfl, li.grown_new G1.out ((set5 _ _ _ _ _ _ _).trans (gr.grown_drew _ _)) (Nat.le_refl _)⟩
/-! There and back. -/
theorem be_nv {m : List UInt8} {o q : Nat} (h : o + q ≤ m.length) (hq : q ≤ 2 ∨ q = 8) : be (nv m o q) q = (m.drop o).take q := by
  have hl : ((m.drop o).take q).length = q := by rw [List.length_take, List.length_drop]; omega
  unfold nv
  rcases hq with hq | rfl
  · rw [wrap_val_lt _ (by omega)]
    have := be_val ((m.drop o).take q)
    rw [hl] at this
    exact this
  · rw [be_wrap]
    have := be_val ((m.drop o).take 8)
    rw [hl] at this
    exact this
theorem anss_nv {m : List UInt8} (h : m.length = 14) : anss (nv m 0 1) (nv m 1 1) (nv m 2 8) (nv m 10 2) (nv m 12 2) = m := by
  unfold anss
  rw [be_nv (by omega) (.inl (by omega)), be_nv (by omega) (.inl (by omega)), be_nv (by omega) (.inr rfl), be_nv (by omega) (.inl (by omega)), be_nv (by omega) (.inl (by omega))]
  match m, h with
  | [x0, x1, x2, x3, x4, x5, x6, x7, x8, x9, x10, x11, x12, x13], _ => rfl
theorem nv_bd {m : List UInt8} {o q : Nat} (hq : q ≤ 2) : 0 ≤ nv m o q ∧ nv m o q < 256 ^ q := by
  have h1 : ((m.drop o).take q).length ≤ q := by rw [List.length_take]; omega
  unfold nv
  rw [wrap_val_lt _ (by omega)]
  have h2 := val_lt ((m.drop o).take q)
  have h3 : 256 ^ ((m.drop o).take q).length ≤ 256 ^ q := Nat.pow_le_pow_right (by omega) h1
  have h4 : ((256 ^ q : Nat) : Int) = 256 ^ q := by simp
  omega
theorem inr_of {n m : Int} (h0 : 0 ≤ n) (h1 : n ≤ m) : inr n m = true := by unfold inr; simp; omega
theorem nv_in1 (m : List UInt8) (o : Nat) : inr (nv m o 1) 255 = true := by
  have := nv_bd (m := m) (o := o) (q := 1) (by omega)
  exact inr_of this.1 (by omega)
theorem nv_in2 (m : List UInt8) (o : Nat) : inr (nv m o 2) 65535 = true := by
  have := nv_bd (m := m) (o := o) (q := 2) (by omega)
  exact inr_of this.1 (by omega)
theorem wrap_bd (n : Int) : -9223372036854775808 ≤ IntKind.i64.wrap n ∧ IntKind.i64.wrap n ≤ 9223372036854775807 := by rw [IntKind.wrap_i64]; omega
theorem nv_anss {c k n d r : Int} (h1 : inr c 255 = true) (h2 : inr k 255 = true) (h3 : inr d 65535 = true) (h4 : inr r 65535 = true) (hn : -9223372036854775808 ≤ n ∧ n ≤ 9223372036854775807) :
    nv (anss c k n d r) 0 1 = c ∧ nv (anss c k n d r) 1 1 = k ∧ nv (anss c k n d r) 2 8 = n ∧ nv (anss c k n d r) 10 2 = d ∧ nv (anss c k n d r) 12 2 = r := by
  have p1 := inr_true h1
  have p2 := inr_true h2
  have p3 := inr_true h3
  have p4 := inr_true h4
  have e0 : ((anss c k n d r).drop 0).take 1 = be c 1 := rfl
  have e1 : ((anss c k n d r).drop 1).take 1 = be k 1 := rfl
  have e2 : ((anss c k n d r).drop 2).take 8 = be n 8 := rfl
  have e3 : ((anss c k n d r).drop 10).take 2 = be d 2 := rfl
  have e4 : ((anss c k n d r).drop 12).take 2 = be r 2 := rfl
  refine ⟨?_, ?_, ?_, ?_, ?_⟩
  · unfold nv
    rw [e0, wrap_val_lt _ (by rw [be_length]; omega), val_be_small c 1 p1.1 (by omega)]
  · unfold nv
    rw [e1, wrap_val_lt _ (by rw [be_length]; omega), val_be_small k 1 p2.1 (by omega)]
  · unfold nv
    rw [e2, wrap_val_be n hn.1 hn.2]
  · unfold nv
    rw [e3, wrap_val_lt _ (by rw [be_length]; omega), val_be_small d 2 p3.1 (by omega)]
  · unfold nv
    rw [e4, wrap_val_lt _ (by rw [be_length]; omega), val_be_small r 2 p4.1 (by omega)]
theorem octs_oc {m : List UInt8} (h : m.length = 14) : octs [oc m 0, oc m 1, oc m 2, oc m 3, oc m 4, oc m 5] (IntKind.i64.wrap (val (m.drop 6) : Int)) = m := by
  unfold octs
  rw [be_wrap]
  have e := be_val (m.drop 6)
  rw [List.length_drop, h] at e
  rw [e]
  match m, h with
  | [x0, x1, x2, x3, x4, x5, x6, x7, x8, x9, x10, x11, x12, x13], _ =>
    show [b8 (x0.toNat : Int), b8 (x1.toNat : Int), b8 (x2.toNat : Int), b8 (x3.toNat : Int), b8 (x4.toNat : Int), b8 (x5.toNat : Int)] ++ [x6, x7, x8, x9, x10, x11, x12, x13] = _
    simp [b8_back]
end Go.Proofs.Ytnehhplflgcoiaa.cd
