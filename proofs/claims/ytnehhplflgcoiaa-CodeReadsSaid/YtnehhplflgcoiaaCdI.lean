/- Layer 24: an answer's octets, told and read. -/
import Derived.Test.YtnehhplflgcoiaaCdH
namespace Go.Proofs.Ytnehhplflgcoiaa.cd
open Go.ChangeShapes Go.WideShapes Go.ChangeAt Go.RowKit gen yb
set_option linter.unusedVariables false
set_option maxHeartbeats 1000000
set_option maxRecDepth 100000

/-- An answer in a box. -/
def Av (w : World) (B : Nat) (c k n d r : Int) : Prop :=
  w.cell? ⟨B, 0, none⟩ = some (.int .i64 c) ∧ w.cell? ⟨B, 1, none⟩ = some (.int .i64 k) ∧ w.cell? ⟨B, 2, none⟩ = some (.int .i64 n) ∧ w.cell? ⟨B, 3, none⟩ = some (.int .i64 d) ∧ w.cell? ⟨B, 4, none⟩ = some (.int .i64 r)
theorem Av.kept {w w' : World} {B : Nat} {c k n d r : Int} {row : Option Nat} (h : Av w B c k n d r) (hg : w.grownBy w' row) (hr : some B ≠ row) : Av w' B c k n d r := by
  obtain ⟨h0, h1, h2, h3, h4⟩ := h
  exact ⟨hg.cell h0 hr, hg.cell h1 hr, hg.cell h2 hr, hg.cell h3 hr, hg.cell h4 hr⟩
theorem Av.made {w w' : World} {B : Nat} {c k n d r : Int} (h : Av w B c k n d r) (hg : w.grownBy w' none) : Av w' B c k n d r := h.kept hg (by simp)
theorem Av.new (w : World) (ty : TypeId) (c k n d r : Int) : Av (w.alloc (.cells #[.int .i64 c, .int .i64 k, .int .i64 n, .int .i64 d, .int .i64 r] ty)) w.heap.size c k n d r := by
  refine ⟨?_, ?_, ?_, ?_, ?_⟩ <;> simp [go_sem]
def inr (n m : Int) : Bool := decide (0 ≤ n) && decide (n ≤ m)
theorem inr_true {n m : Int} (h : inr n m = true) : 0 ≤ n ∧ n ≤ m := by
  unfold inr at h
  simpa using h
theorem within_as {n m : Int} {b : Bool} (w : World) (h : inr n m = b) : Calls Try.prog 18 #[.int .i64 n, .int .i64 m] w fun e w' => e = .returned (.bool b) ∧ w = w' := by
  cases b with
  | true => exact within_yes n m w (inr_true h).1 (inr_true h).2
  | false =>
    refine within_no n m w ?_
    unfold inr at h
    simp at h
    omega
theorem laid_mid (xs ys zs : List UInt8) (o r : Nat) (x : Int) (ho : xs.length = o) (hr : ys.length = r) : laid (xs ++ (ys ++ zs)) o r r x = xs ++ (be x r ++ zs) := by
  subst ho hr
  unfold laid
  rw [Nat.sub_self, Nat.add_zero, List.take_left' rfl, ← List.append_assoc xs ys zs, List.drop_left' (by simp), List.append_assoc]
/-- An answer's octets. -/
def anss (c k n d r : Int) : List UInt8 := be c 1 ++ (be k 1 ++ (be n 8 ++ (be d 2 ++ be r 2)))
theorem anss_length (c k n d r : Int) : (anss c k n d r).length = 14 := by simp [anss, be_length]
theorem anss_made (c k n d r : Int) : laid (laid (laid (laid (laid (List.replicate 14 0) 0 1 1 c) 1 1 1 k) 2 8 8 n) 10 2 2 d) 12 2 2 r = anss c k n d r := by
  rw [show List.replicate 14 (0 : UInt8) = [] ++ ([0] ++ ([0] ++ (List.replicate 8 0 ++ (List.replicate 2 0 ++ List.replicate 2 0)))) from rfl]
  rw [laid_mid [] [0] _ 0 1 c rfl rfl, List.nil_append, laid_mid (be c 1) [0] _ 1 1 k (be_length _ _) rfl, ← List.append_assoc (be c 1), laid_mid (be c 1 ++ be k 1) (List.replicate 8 0) _ 2 8 n (by simp [be_length]) (by simp), ← List.append_assoc _ (be n 8)]
  rw [laid_mid _ (List.replicate 2 0) _ 10 2 d (by simp [be_length]) (by simp), ← List.append_assoc _ (be d 2)]
  rw [← List.append_nil (List.replicate 2 (0 : UInt8)), laid_mid _ (List.replicate 2 0) _ 12 2 r (by simp [be_length]) (by simp), List.append_nil]
  simp [anss]
theorem Tell_no {c k n d r : Int} {b1 b2 b3 b4 : Bool} (w : World) (h1 : inr c 255 = b1) (h2 : inr k 255 = b2) (h3 : inr d 65535 = b3) (h4 : inr r 65535 = b4) (hb : (b1 && b2 && b3 && b4) = false) : Calls Try.prog 13 #[.agg #[.int .i64 c, .int .i64 k, .int .i64 n, .int .i64 d, .int .i64 r]] w
    fun e w' => e = .returned (.tuple #[.slice none 0 0, .int .i64 4]) ∧ w.grownBy w' none := by
  have W1 := Lib.hid (fun w => within_as w h1)
  have W2 := Lib.hid (fun w => within_as w h2)
  have W3 := Lib.hid (fun w => within_as w h3)
  have W4 := Lib.hid (fun w => within_as w h4)
  clear h1 h2 h3 h4
  cases b1
  case' true => cases b2
  case' true.true => cases b3
  case' true.true.true => cases b4
  case true.true.true.true => simp at hb
  all_goals
    clear hb
    go_enter Try.func13, Try.ntmps13
    go_wp2_with (first
      | (go_at_call 18; (with_reducible refine (W1.out _).mono ?_); rintro e w2 ⟨rfl, hw⟩; subst hw)
      | (go_at_call 18; (with_reducible refine (W2.out _).mono ?_); rintro e w2 ⟨rfl, hw⟩; subst hw)
      | (go_at_call 18; (with_reducible refine (W3.out _).mono ?_); rintro e w2 ⟨rfl, hw⟩; subst hw)
      | (go_at_call 18; (with_reducible refine (W4.out _).mono ?_); rintro e w2 ⟨rfl, hw⟩; subst hw))
    go_ret2
    exact ⟨rfl, grown_alloc _ _⟩
def TellAns (c k n d r : Int) (w : World) (e : Ending) (w' : World) : Prop := ∃ g, e = .returned (.tuple #[.slice (some ⟨g, 0, none⟩) 14 14, .int .i64 0]) ∧ w.heap.size ≤ g ∧ Hw w' g (anss c k n d r) ∧ w.grownBy w' none
theorem Tell_yes {c k n d r : Int} (w : World) (h1 : inr c 255 = true) (h2 : inr k 255 = true) (h3 : inr d 65535 = true) (h4 : inr r 65535 = true) (hn : -9223372036854775808 ≤ n ∧ n ≤ 9223372036854775807) : Calls Try.prog 13 #[.agg #[.int .i64 c, .int .i64 k, .int .i64 n, .int .i64 d, .int .i64 r]] w
    (TellAns c k n d r w) := by
  have W1 := Lib.hid (fun w => within_as w h1)
  have W2 := Lib.hid (fun w => within_as w h2)
  have W3 := Lib.hid (fun w => within_as w h3)
  have W4 := Lib.hid (fun w => within_as w h4)
  have bc : -9223372036854775808 ≤ c ∧ c ≤ 9223372036854775807 := by have := inr_true h1; omega
  have bk : -9223372036854775808 ≤ k ∧ k ≤ 9223372036854775807 := by have := inr_true h2; omega
  have bd : -9223372036854775808 ≤ d ∧ d ≤ 9223372036854775807 := by have := inr_true h3; omega
  have br : -9223372036854775808 ≤ r ∧ r ≤ 9223372036854775807 := by have := inr_true h4; omega
  obtain ⟨w1, hw1⟩ : ∃ w1, w1 = w.alloc (.cells #[.int .i64 c, .int .i64 k, .int .i64 n, .int .i64 d, .int .i64 r] 38) := ⟨_, rfl⟩
  have G1 := Lib.hid (show w.grownBy w1 none by rw [hw1]; exact grown_alloc _ _)
  have A1 := Lib.hid (show Av w1 w.heap.size c k n d r by rw [hw1]; exact Av.new _ _ _ _ _ _ _)
  have z1 : w1.heap.size = w.heap.size + 1 := by rw [hw1]; simp
  have mk := make14
  have HM := Lib.hid (Hw.made w1 (List.replicate 14 0))
  have GM := Lib.hid (grown_alloc w1 (.cells (u8s (List.replicate 14 0)).toArray 5))
  generalize (u8s (List.replicate 14 0)).toArray = cs at mk HM GM
  rw [z1] at HM
  have AM := Lib.hid (A1.out.made GM.out)
  -- what holds behind each lay
  have ST := Lib.hid (fun (W : World) (m : List UInt8) (o q ca : Nat) (x : Int) (hH : Hw W (w.heap.size + 1) m) (hl : m.length = 14) (hq : q ≤ 8) (ho : o + q ≤ 14) (hx : -9223372036854775808 ≤ x ∧ x ≤ 9223372036854775807) =>
    (lay_any (c := ca) x (show Hw W.drew (w.heap.size + 1) m from hH) hq (by rw [hl]; exact ho) (by rw [hl]; omega) hx))
  have AN := Lib.hid (anss_made c k n d r)
  have HW := Lib.hid hw1
  have BD := Lib.hid (And.intro bc (And.intro bk (And.intro hn (And.intro bd br))))
  clear hw1 h1 h2 h3 h4 bc bk bd br hn
  go_enter Try.func13, Try.ntmps13
  go_wp2_with (first
    | (go_at_call 18; (with_reducible refine (W1.out _).mono ?_); rintro e w2 ⟨rfl, hw⟩; subst hw)
    | (go_at_call 18; (with_reducible refine (W2.out _).mono ?_); rintro e w2 ⟨rfl, hw⟩; subst hw)
    | (go_at_call 18; (with_reducible refine (W3.out _).mono ?_); rintro e w2 ⟨rfl, hw⟩; subst hw)
    | (go_at_call 18; (with_reducible refine (W4.out _).mono ?_); rintro e w2 ⟨rfl, hw⟩; subst hw))
  rw [← HW.out]
  have H0 := HM
  have A0 := AM
  have GG0 := Lib.hid (G1.out.trans GM.out)
  have L0 := Lib.hid (show (List.replicate 14 (0 : UInt8)).length = 14 from rfl)
  generalize w1.alloc (.cells cs 5) = wa0 at H0 A0 GG0 ⊢
  obtain ⟨c0, c1, c2, c3, c4⟩ := A0.out
  have L1 := Lib.hid ((laid_length c (show 0 + 1 ≤ _ by rw [L0.out]; omega) (Nat.le_refl 1)).trans L0.out)
  have Y1 := Lib.hid (ST.out wa0 _ 0 1 14 c H0.out L0.out (by omega) (by omega) BD.out.1)
  have X1 := Lib.hid (fun W (hg : wa0.drew.grownBy W (some (w.heap.size + 1))) => (show Av W w.heap.size c k n d r ∧ w.grownBy W none from ⟨A0.out.kept ((gr.grown_drew wa0 (some (w.heap.size + 1))).trans hg) (by simp), li.grown_new GG0.out ((gr.grown_drew wa0 (some (w.heap.size + 1))).trans hg) (by omega)⟩))
  go_still_tail 4, (by kernel_rfl)
  change wpList _ _ _ _ _ wa0.drew
  go_wp2_with (go_at_call 17; (with_reducible refine (Y1.out).mono ?_); rintro e wa1 ⟨rfl, hh, hg⟩; have H1 := Lib.hid hh; have A1 := Lib.hid (X1.out _ hg).1; have GG1 := Lib.hid (X1.out _ hg).2; clear hh hg c0 c1 c2 c3 c4; obtain ⟨c0, c1, c2, c3, c4⟩ := A1.out)
  have L2 := Lib.hid ((laid_length k (show 1 + 1 ≤ _ by rw [L1.out]; omega) (Nat.le_refl 1)).trans L1.out)
  have Y2 := Lib.hid (ST.out wa1 _ 1 1 13 k H1.out L1.out (by omega) (by omega) BD.out.2.1)
  have X2 := Lib.hid (fun W (hg : wa1.drew.grownBy W (some (w.heap.size + 1))) => (show Av W w.heap.size c k n d r ∧ w.grownBy W none from ⟨A1.out.kept ((gr.grown_drew wa1 (some (w.heap.size + 1))).trans hg) (by simp), li.grown_new GG1.out ((gr.grown_drew wa1 (some (w.heap.size + 1))).trans hg) (by omega)⟩))
  go_still_tail 4, (by kernel_rfl)
  change wpList _ _ _ _ _ wa1.drew
  go_wp2_with (go_at_call 17; (with_reducible refine (Y2.out).mono ?_); rintro e wa2 ⟨rfl, hh, hg⟩; have H2 := Lib.hid hh; have A2 := Lib.hid (X2.out _ hg).1; have GG2 := Lib.hid (X2.out _ hg).2; clear hh hg c0 c1 c2 c3 c4; obtain ⟨c0, c1, c2, c3, c4⟩ := A2.out)
  have L3 := Lib.hid ((laid_length n (show 2 + 8 ≤ _ by rw [L2.out]; omega) (Nat.le_refl 8)).trans L2.out)
  have Y3 := Lib.hid (ST.out wa2 _ 2 8 12 n H2.out L2.out (by omega) (by omega) BD.out.2.2.1)
  have X3 := Lib.hid (fun W (hg : wa2.drew.grownBy W (some (w.heap.size + 1))) => (show Av W w.heap.size c k n d r ∧ w.grownBy W none from ⟨A2.out.kept ((gr.grown_drew wa2 (some (w.heap.size + 1))).trans hg) (by simp), li.grown_new GG2.out ((gr.grown_drew wa2 (some (w.heap.size + 1))).trans hg) (by omega)⟩))
  go_still_tail 4, (by kernel_rfl)
  change wpList _ _ _ _ _ wa2.drew
  go_wp2_with (go_at_call 17; (with_reducible refine (Y3.out).mono ?_); rintro e wa3 ⟨rfl, hh, hg⟩; have H3 := Lib.hid hh; have A3 := Lib.hid (X3.out _ hg).1; have GG3 := Lib.hid (X3.out _ hg).2; clear hh hg c0 c1 c2 c3 c4; obtain ⟨c0, c1, c2, c3, c4⟩ := A3.out)
  have L4 := Lib.hid ((laid_length d (show 10 + 2 ≤ _ by rw [L3.out]; omega) (Nat.le_refl 2)).trans L3.out)
  have Y4 := Lib.hid (ST.out wa3 _ 10 2 4 d H3.out L3.out (by omega) (by omega) BD.out.2.2.2.1)
  have X4 := Lib.hid (fun W (hg : wa3.drew.grownBy W (some (w.heap.size + 1))) => (show Av W w.heap.size c k n d r ∧ w.grownBy W none from ⟨A3.out.kept ((gr.grown_drew wa3 (some (w.heap.size + 1))).trans hg) (by simp), li.grown_new GG3.out ((gr.grown_drew wa3 (some (w.heap.size + 1))).trans hg) (by omega)⟩))
  go_still_tail 4, (by kernel_rfl)
  change wpList _ _ _ _ _ wa3.drew
  go_wp2_with (go_at_call 17; (with_reducible refine (Y4.out).mono ?_); rintro e wa4 ⟨rfl, hh, hg⟩; have H4 := Lib.hid hh; have A4 := Lib.hid (X4.out _ hg).1; have GG4 := Lib.hid (X4.out _ hg).2; clear hh hg c0 c1 c2 c3 c4; obtain ⟨c0, c1, c2, c3, c4⟩ := A4.out)
  have L5 := Lib.hid ((laid_length r (show 12 + 2 ≤ _ by rw [L4.out]; omega) (Nat.le_refl 2)).trans L4.out)
  have Y5 := Lib.hid (ST.out wa4 _ 12 2 2 r H4.out L4.out (by omega) (by omega) BD.out.2.2.2.2)
  have X5 := Lib.hid (fun W (hg : wa4.drew.grownBy W (some (w.heap.size + 1))) => (show Av W w.heap.size c k n d r ∧ w.grownBy W none from ⟨A4.out.kept ((gr.grown_drew wa4 (some (w.heap.size + 1))).trans hg) (by simp), li.grown_new GG4.out ((gr.grown_drew wa4 (some (w.heap.size + 1))).trans hg) (by omega)⟩))
  go_still_tail 4, (by kernel_rfl)
  change wpList _ _ _ _ _ wa4.drew
  go_wp2_with (go_at_call 17; (with_reducible refine (Y5.out).mono ?_); rintro e wa5 ⟨rfl, hh, hg⟩; have H5 := Lib.hid hh; have A5 := Lib.hid (X5.out _ hg).1; have GG5 := Lib.hid (X5.out _ hg).2; clear hh hg c0 c1 c2 c3 c4; obtain ⟨c0, c1, c2, c3, c4⟩ := A5.out)
  go_ret2
  exact ⟨w.heap.size + 1, rfl, by omega, by rw [← AN.out]; exact H5.out, GG5.out⟩
end Go.Proofs.Ytnehhplflgcoiaa.cd
