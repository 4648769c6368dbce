/- The statement's own step, whole; its run; whether the program is alive. -/
import Derived.Test.YtljahpjdkkennaaBfG
import Derived.Test.YtljahpjdkkennaaGenC
namespace Go.Proofs.Ytljahpjdkkennaa.bf
open Go.ChangeShapes Go.WideShapes Go.ChangeAt Go.RowKit gen li
set_option linter.unusedVariables false
set_option maxHeartbeats 8000000
set_option maxRecDepth 100000
section
variable {w : World} {K J : List Nat} {g : Nat} {A : Option Addr} {N c : Nat} {ls : List (List Int)}
theorem step_any (hb : Bf w K g ls) (hd : Gd w J (.slice A N c) ls) (ho : ∀ q, q ∈ K → q ∉ J) (hN : N = ls.length) (o t a : Int) :
    Calls Try.prog 19 #[.pointer (some ⟨g, 0, none⟩), .slice A N c, .agg #[.int .i64 o, .int .i64 t, .int .i64 a]] w (StA K J g w) := by
  by_cases h3 : o = 3
  · subst h3
    exact step_clear hb hd ho hN t a
  by_cases ht : t < 0 ∨ (N : Int) ≤ t
  · by_cases h1 : o = 1
    · subst h1
      exact step_put_out hb hd ho hN t a ht
    by_cases h2 : o = 2
    · subst h2
      exact step_take_out hb hd ho hN t a ht
    exact step_len_out hb hd ho hN o t a ht (by simpa using h1) (by simpa using h2) (by simpa using h3)
  · obtain ⟨k, rfl⟩ : ∃ k : Nat, t = k := ⟨t.toNat, by omega⟩
    have hk : k < N := by omega
    by_cases h1 : o = 1
    · subst h1
      by_cases ha : a < 0 ∨ 2048 ≤ a ∨ a ∈ ls.getD k []
      · exact step_put_no hb hd ho hN k hk a ha
      · exact step_put_yes hb hd ho hN k hk a (by omega) (by omega) (fun h => ha (.inr (.inr h)))
    by_cases h2 : o = 2
    · subst h2
      exact step_take_in hb hd ho hN k hk a
    exact step_len_in hb hd ho hN o k hk a (by simpa using h1) (by simpa using h2) (by simpa using h3)
theorem Rws.gr {w w' : World} {B n nf : Nat} {A : Option Addr} {f : Nat → Nat → Int} {L : List Nat} (h : Rws w B A n nf f) (hg : Gr L w w') (hL : ∀ q, q ∈ L → B ≤ q) : Rws w' B A n nf f := fun i hi => by
  obtain ⟨b, off, e, hb, hc, hw⟩ := h i hi
  refine ⟨b, off, e, hb, fun j hj => hg.cell (hc j hj) (fun e => ?_), hw⟩
  have := hL b e
  omega
/-! ### run -/
theorem run_any {D : Option Addr} {n c2 B : Nat} {f : Nat → Nat → Int} (hb : Bf w K g ls) (hd : Gd w J (.slice A N c) ls) (ho : ∀ q, q ∈ K → q ∉ J) (hN : N = ls.length) (hr : Rws w B D n 3 f) (hB : ∀ q, q ∈ K → B ≤ q) (hn : n ≤ 60) :
    Calls Try.prog 7 #[.pointer (some ⟨g, 0, none⟩), .slice A N c, .slice D n c2] w (StA K J g w) := by
  have R0 := Lib.hid (show Rn w K J K J g (.slice A N c) ls w from ⟨Gr.refl _ _, hb, hd, fun q h => .inl h, fun q h => .inl h, ho⟩)
  have HN := Lib.hid hN
  have HR := Lib.hid hr
  have HB := Lib.hid hB
  clear hb hd ho hN hr hB
  go_enter Try.func7, Try.ntmps7
  go_wp2
  go_loopw [1, 8, 9] (fun m o i wr => ∃ (k : Nat) (A' : Option Addr) (N' c' : Nat) (ls' : List (List Int)) (K' J' : List Nat), k ≤ n ∧ m = .slice A' N' c' ∧ o = .bool true ∧ i = .int .i64 k ∧ N' = ls'.length ∧ Rn w K J K' J' g (.slice A' N' c') ls' wr) (fun _ _ i _ => n - (intOf i).toNat)
  case atStart => exact ⟨0, A, N, c, ls, K, J, Nat.zero_le _, rfl, rfl, rfl, HN.out, R0.out⟩
  case round =>
    obtain ⟨k, A1, N1, c1, ls1, K1, J1, hk, rfl, rfl, rfl, hN1, hR1⟩ := hrel
    have R1 := Lib.hid hR1
    have HN1 := Lib.hid hN1
    clear hN1
    by_cases hlt : k < n
    · obtain ⟨b, off, rfl, _, hc, _⟩ := (Rws.gr HR.out hR1.gr HB.out) k hlt
      have p0 := hc 0 (by omega)
      rw [Nat.add_zero] at p0
      have p1 := hc 1 (by omega)
      have p2 := hc 2 (by omega)
      generalize f k 0 = x0 at p0
      generalize f k 1 = x1 at p1
      generalize f k 2 = x2 at p2
      have ST := Lib.hid (step_any R1.out.bf R1.out.gd R1.out.off HN1.out x0 x1 x2)
      have l1 : (0 : Int) ≤ (k : Int) := by omega
      have l2 : (k : Int) < n := by omega
      clear hc hR1
      go_wp2_with (first
        | (go_at_call 19; (with_reducible refine ST.out.mono ?_); rintro r w2 ⟨A2, N2, c2', ls2, K2, J2, rfl, hN2, hR2⟩; have R2 := Lib.hid (R1.out.trans hR2); have HN2 := Lib.hid hN2; have EM := Lib.hid (Empty_any hR2.bf); have SU := Lib.hid (sum_any hR2.gd hN2); clear hN2 hR2; generalize tot ls2 = s at EM SU)
        | (go_at_call 16; (with_reducible refine EM.out.mono ?_); rintro r w3 ⟨rfl, hw⟩; subst hw)
        | (go_at_call 20; (with_reducible refine SU.out.mono ?_); rintro r w3 ⟨rfl, hw⟩; subst hw))
      go_roundw
      case rel => exact ⟨k + 1, A2, N2, c2', ls2, K2, J2, by omega, rfl, (by rcases (show s = 0 ∨ s ≠ 0 by omega) with h | h <;> simp [h]), by go_num, HN2.out, R2.out⟩
      case measure => simp [intOf]; omega
    · obtain rfl : k = n := by omega
      go_wp2
      go_ret2
      exact ⟨A1, N1, c1, ls1, K1, J1, rfl, HN1.out, R1.out⟩
/-! ### alive -/
/-- Buffers that the call made. -/
def Al (w : World) (K : List Nat) (g : Nat) (ls : List (List Int)) (W : World) : Prop := Bf W K g ls ∧ (∀ q, q ∈ K → w.heap.size ≤ q) ∧ w.grownBy W none
theorem Al.new {W W2 : World} (h : Al w K g ls W) (hg : W.grownBy W2 none) : Al w K g ls W2 := ⟨h.1.new hg, h.2.1, h.2.2.trans hg⟩
theorem Al.bf {W : World} (h : Al w K g ls W) : Bf W K g ls := h.1
theorem Al.grown {W : World} (h : Al w K g ls W) : w.grownBy W none := h.2.2
theorem Al.le {W : World} (h : Al w K g ls W) : ∀ q, q ∈ K → w.heap.size ≤ q := h.2.1
theorem Al.write {W W2 : World} {K2 : List Nat} {ls2 : List (List Int)} (h : Al w K g ls W) (hb : Bf W2 K2 g ls2) (hk : ∀ q, q ∈ K2 → q ∈ K ∨ W.heap.size ≤ q) (hg : Gr K W W2) : Al w K2 g ls2 W2 :=
  ⟨hb, fun q hq => (hk q hq).elim (h.2.1 q) (fun e => Nat.le_trans h.2.2.size e), Gr.grown h.2.2 hg h.2.1⟩
theorem alive_any (w : World) : Calls Try.prog 6 #[] w fun r w' => r = .returned (.bool true) ∧ w.grownBy w' none := by
  have N0 := Lib.hid (New_any 2 2 (by decide) (by omega) w)
  have P1 := Lib.hid (fun W K g (h : Bf W K g [[], []]) => show Calls Try.prog 11 #[.pointer (some ⟨g, 0, none⟩), .int .i64 1, .int .i64 7] W (PutA K g [[], [7]] W) from Put_yes h 1 (by decide) 7 (by omega) (by omega) (by simp))
  have P2 := Lib.hid (fun W K g (h : Bf W K g [[], [7]]) => show Calls Try.prog 11 #[.pointer (some ⟨g, 0, none⟩), .int .i64 1, .int .i64 7] W (fun r w' => r = .returned (.bool false) ∧ W = w') from Put_no h 1 (by decide) 7 (.inr (.inr (by simp))))
  have LN := Lib.hid (fun W K g (h : Bf W K g [[], [7]]) => show Calls Try.prog 18 #[.pointer (some ⟨g, 0, none⟩), .int .i64 1] W (fun r w' => r = .returned (.int .i64 1) ∧ W = w') from Len_in h 1 (by decide))
  have E1 := Lib.hid (fun W K g (h : Bf W K g [[], [7]]) => show Calls Try.prog 16 #[.pointer (some ⟨g, 0, none⟩)] W (fun r w' => r = .returned (.bool false) ∧ W = w') from Empty_any h)
  have E2 := Lib.hid (fun W K g (h : Bf W K g [[], []]) => show Calls Try.prog 16 #[.pointer (some ⟨g, 0, none⟩)] W (fun r w' => r = .returned (.bool true) ∧ W = w') from Empty_any h)
  have TA := Lib.hid (fun W K g (h : Bf W K g [[], [7]]) => show Calls Try.prog 12 #[.pointer (some ⟨g, 0, none⟩), .int .i64 1] W (TakeA K g [7] [[], []] W) from Take_in h 1 (by decide))
  go_enter Try.func6, Try.ntmps6
  go_wp2_with (first
    | (have mark := S4; go_at_call 16; (with_reducible refine (E2.out _ _ _ S4.out.bf).mono ?_); rintro r w' ⟨rfl, hw⟩; subst hw)
    | (have mark := S3; go_at_call 13; (with_reducible refine (TI.out _ (World.grownBy_alloc _ _ _) _ _ (Rd.one _ _ _)).mono ?_); rintro r w4 ⟨rfl, q4, rfl⟩; have S4 := Lib.hid (S3.out.new ((World.grownBy_alloc w3 (.cells #[.int .i64 7] 3) none).trans (li.grown_drewN _ q4 none))))
    | (have mark := S1; go_at_call 12; (with_reducible refine (TA.out _ _ _ S1.out.bf).mono ?_); rintro r w3 ⟨A3, N3, c3, K3, rfl, hn3, hl3, hk3, _, hb3, hg3⟩; obtain rfl : N3 = 1 := hn3; have TI := Lib.hid (fun W (hg : w3.grownBy W none) B c (hr : Rd W W.heap.size B 1 c [7]) => Ints_true [7] A3 B 1 1 c3 c _ _ W (by omega) rfl ((hl3.new hg).rd rfl) hr); have S3 := Lib.hid (S1.out.write hb3 (fun q h => .inl (hk3 q h)) (hg3.mono hk3)); clear hl3 hk3 hb3 hg3)
    | (have mark := S1; go_at_call 16; (with_reducible refine (E1.out _ _ _ S1.out.bf).mono ?_); rintro r w' ⟨rfl, hw⟩; subst hw)
    | (have mark := S1; go_at_call 18; (with_reducible refine (LN.out _ _ _ S1.out.bf).mono ?_); rintro r w' ⟨rfl, hw⟩; subst hw)
    | (have mark := S1; go_at_call 11; (with_reducible refine (P2.out _ _ _ S1.out.bf).mono ?_); rintro r w' ⟨rfl, hw⟩; subst hw)
    | (have mark := S0; go_at_call 11; (with_reducible refine (P1.out _ _ _ S0.out.bf).mono ?_); rintro r w1 ⟨rfl, K1, hk1, hb1, hg1⟩; have S1 := Lib.hid (S0.out.write hb1 hk1 hg1); clear hk1 hb1 hg1)
    | (go_at_call 8; (with_reducible refine N0.out.mono ?_); rintro r w0 ⟨g, K, rfl, hb, hk, hg⟩; have S0 := Lib.hid (show Al w K g [[], []] w0 from ⟨hb, hk, hg⟩); clear hb hk hg))
  go_ret
  exact ⟨rfl, S4.out.grown⟩
end
end Go.Proofs.Ytljahpjdkkennaa.bf
