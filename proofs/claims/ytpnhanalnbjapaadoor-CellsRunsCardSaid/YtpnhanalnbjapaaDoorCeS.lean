/- The walk of the statement on what is apart. -/
import Derived.Test.YtpnhanalnbjapaaDoorCeR
namespace Go.Proofs.YtpnhanalnbjapaaDoor.ce
open Go.ChangeShapes Go.WideShapes Go.ChangeAt Go.RowKit gen calls cls geos
set_option linter.unusedVariables false
set_option maxHeartbeats 8000000
set_option maxRecDepth 100000
theorem few_any (A : Option Addr) (n c : Nat) (w : World) (hn : n ≤ c) (hc : c ≤ maxLen) (hA : 0 < n → ∃ ad, A = some ad) :
    Calls Tryd.prog 8 #[.slice A n c] w fun e w' => (∃ m c', m ≤ 40 ∧ m ≤ n ∧ e = .returned (.slice A m c')) ∧ w = w' := by
  unfold maxLen at hc
  by_cases h : 40 < n
  · obtain ⟨ad, rfl⟩ := hA (by omega)
    clear hA
    have l1 : (40 : Int) ≤ c := by omega
    go_enter Tryd.func8, Tryd.ntmps8
    go_wp2
    all_goals
      go_ret
      exact ⟨⟨40, _, by omega, by omega, rfl⟩, rfl⟩
  · clear hA
    go_enter Tryd.func8, Tryd.ntmps8
    go_wp2
    go_ret
    exact ⟨⟨n, _, by omega, by omega, rfl⟩, rfl⟩
/-- What is taken at a place of the list. -/
theorem apart_round {ks xs cs tk : List Int} {fr : Nat → List Int} (O : Ok ks xs cs tk fr) {k : Nat} (hk : k < tk.length) :
    ∃ A P n : Nat, tk.getD k 0 = A ∧ (A : Int) / 32 = P ∧ A < 2048 ∧ P < 64 ∧ bs ks tk A = A ∧ bs ks tk ((A : Int) + n - 1) = A ∧ (k + 1 < tk.length → ¬ tk.getD (k + 1) 0 < (A : Int) + n) ∧ n ≤ 2048 ∧
      ((pg.kind ks P = 5 ∧ (A : Int) % 32 = 0 ∧ A = 32 * P ∧ ∃ j : Nat, n = 32 * j ∧ 1 ≤ j ∧ P + j ≤ 64 ∧ (∀ i : Nat, 1 ≤ i → i < j → pg.kind ks ((P : Int) + i) = 6) ∧ pg.kind ks ((P : Int) + j) ≠ 6) ∨
       ((1 ≤ pg.kind ks P ∧ pg.kind ks P ≤ 4) ∧ sz (pg.kind ks P) = n ∧ 0 < n ∧ (A : Int) % n = 0)) := by
  have hf := O.few
  have hl := O.len
  have ha : tk.getD k 0 ∈ tk := by rw [List.getD_eq_getElem?_getD, List.getElem?_eq_getElem hk]; exact List.getElem_mem hk
  generalize hga : tk.getD k 0 = a at ha
  have hin := bz_in O ha
  have hp := bz_pos O ha
  have nx : k + 1 < tk.length → ¬ tk.getD (k + 1) 0 < a + bz ks a := fun h hlt => by
    have hb : tk.getD (k + 1) 0 ∈ tk := by rw [List.getD_eq_getElem?_getD, List.getElem?_eq_getElem h]; exact List.getElem_mem h
    have : a < tk.getD (k + 1) 0 := by
      rw [← hga, List.getD_eq_getElem?_getD, List.getD_eq_getElem?_getD, List.getElem?_eq_getElem h, List.getElem?_eq_getElem hk]
      exact List.pairwise_iff_getElem.1 O.up k (k + 1) hk h (by omega)
    have := apart_tk O ha hb this
    omega
  have b1 := base_in O ha (x := a) (by omega) (by omega)
  have b2 := base_in O ha (x := a + bz ks a - 1) (by omega) (by omega)
  obtain ⟨A, rfl⟩ : ∃ A : Nat, a = A := ⟨a.toNat, by omega⟩
  obtain ⟨P, hP⟩ : ∃ P : Nat, (A : Int) / 32 = P := ⟨A / 32, by omega⟩
  obtain ⟨n, hn⟩ : ∃ n : Nat, bz ks A = n := ⟨(bz ks A).toNat, by omega⟩
  rw [hn] at b2 nx hin hp
  refine ⟨A, P, n, rfl, hP, by omega, by omega, b1, b2, nx, by omega, ?_⟩
  unfold bz at hn
  rw [hP] at hn
  rcases (O.tkn A).1 ha with ⟨k5, m0⟩ | ⟨kk, m0, _⟩
  · rw [hP] at k5
    rw [if_pos k5] at hn
    have lp := large_pages k5
    have s5 := pg.siz_large k5
    refine .inl ⟨k5, m0, by omega, (pg.siz ks P).toNat, by omega, by omega, by omega, fun i h1 h2 => ?_, ?_⟩
    · have := (lp i (by omega)).1 (by omega)
      rwa [show ((P + i : Nat) : Int) = (P : Int) + i by omega] at this
    · have := (pg.lead_is (k := 6) (by decide) (xs := ks) (p := P + 1)).2
      rwa [show ((P + 1 + pg.lead 6 (ks.drop (P + 1)) : Nat) : Int) = (P : Int) + ((pg.siz ks P).toNat : Nat) by omega] at this
  · rw [hP] at kk m0
    rw [if_neg (by omega)] at hn
    exact .inr ⟨kk, hn, by omega, by rw [← hn]; exact m0⟩
/-- What stands through the check. -/
def Chk (w4 : World) (n : Nat) (c h g r m q s : Nat) (ks xs cs : List Int) (ws : List Nat) (i : Value) (wr : World) : Prop := ∃ k : Nat, k ≤ n ∧ i = .int .i64 k ∧ Hp wr c h g r m q s ks xs cs ws ∧ w4.grownBy wr none
/-- What stands through the script. -/
def Scr (w : World) (n : Nat) (c h g r m q s : Nat) (i : Value) (wr : World) : Prop := ∃ k : Nat, k ≤ n ∧ i = .int .i64 k ∧ Cs c h g r m q s wr ∧ w.grownBy wr none
end Go.Proofs.YtpnhanalnbjapaaDoor.ce
