/- The statement's own list of whose pages are, in memory: owner, page, few, without. -/
import Derived.Test.YtagahkofjgbfhaaCaG
import Derived.Test.YtagahkofjgbfhaaGenC
namespace Go.Proofs.Ytagahkofjgbfhaa.ca
open Go.ChangeShapes Go.WideShapes Go.ChangeAt Go.RowKit Go.Maps gen calls cls
set_option linter.unusedVariables false
set_option maxHeartbeats 4000000
set_option maxRecDepth 100000
/-- A list's cells. -/
def cs (m : List Ow) : List Value := m.flatMap fun x => [.int .i64 x.1, .int .i64 x.2.1, .int .i64 x.2.2]
theorem cs_add (m : List Ow) (x : Ow) : cs (m ++ [x]) = cs m ++ [.int .i64 x.1, .int .i64 x.2.1, .int .i64 x.2.2] := by simp [cs]
theorem cs_length : ∀ m : List Ow, (cs m).length = 3 * m.length
  | [] => rfl
  | x :: m => by
    have h := cs_length m
    have e : cs (x :: m) = .int .i64 x.1 :: .int .i64 x.2.1 :: .int .i64 x.2.2 :: cs m := rfl
    rw [e, List.length_cons, List.length_cons, List.length_cons, h, List.length_cons]
    omega
theorem cs_at : ∀ (m : List Ow) (i : Nat), i < m.length → (cs m)[3 * i]? = some (.int .i64 (m.getD i (0, 0, 0)).1) ∧ (cs m)[3 * i + 1]? = some (.int .i64 (m.getD i (0, 0, 0)).2.1) ∧ (cs m)[3 * i + 2]? = some (.int .i64 (m.getD i (0, 0, 0)).2.2)
  | [], i, h => by simp at h
  | x :: m, 0, _ => ⟨rfl, rfl, rfl⟩
  | x :: m, i + 1, h => by
    have h1 := cs_at m i (by simpa using h)
    have e : cs (x :: m) = .int .i64 x.1 :: .int .i64 x.2.1 :: .int .i64 x.2.2 :: cs m := rfl
    rw [e, show 3 * (i + 1) = 3 * i + 1 + 1 + 1 by omega, show 3 * i + 1 + 1 + 1 + 1 = 3 * i + 1 + 1 + 1 + 1 from rfl]
    refine ⟨?_, ?_, ?_⟩
    · rw [List.getElem?_cons_succ, List.getElem?_cons_succ, List.getElem?_cons_succ]; simpa using h1.1
    · rw [show 3 * i + 1 + 1 + 1 + 1 = (3 * i + 1) + 1 + 1 + 1 from rfl, List.getElem?_cons_succ, List.getElem?_cons_succ, List.getElem?_cons_succ]; simpa using h1.2.1
    · rw [show 3 * i + 1 + 1 + 1 + 2 = (3 * i + 2) + 1 + 1 + 1 from rfl, List.getElem?_cons_succ, List.getElem?_cons_succ, List.getElem?_cons_succ]; simpa using h1.2.2
/-- A list in memory. -/
def Lo (w : World) (base : Nat) (v : Value) (m : List Ow) : Prop := w.ownsRow base 51 3 v m.length (cs m)
section
variable {w w' : World} {base : Nat} {v : Value} {m : List Ow}
theorem Lo.nil (w : World) (base : Nat) : Lo w base (.slice none 0 0) [] := World.ownsRow_nil _ _ _ _
theorem Lo.mono {base' : Nat} (h : Lo w base v m) (hb : base' ≤ base) : Lo w base' v m := by
  refine ⟨h.1, ?_⟩
  rcases h.2 with hn | ⟨g, cap, cur, hv, hbg, rest⟩
  · exact .inl hn
  · exact .inr ⟨g, cap, cur, hv, Nat.le_trans hb hbg, rest⟩
theorem Lo.kept {row : Option Nat} (h : Lo w base v m) (hg : w.grownBy w' row) (hr : v.ownBlock = none ∨ v.ownBlock ≠ row) : Lo w' base v m := World.ownsRow.kept h hg hr
theorem Lo.new (h : Lo w base v m) (hg : w.grownBy w' none) : Lo w' base v m := h.kept hg (by cases v.ownBlock <;> simp)
theorem Lo.off {k : Nat} {o : Obj} (h : Lo w base v m) (hk : w.heap[k]? = some o) (hn : ∀ cs z, o ≠ .cells cs 51 z) : v.ownBlock ≠ some k := fun e => by
  rcases h.2 with ⟨rfl, _⟩ | ⟨g, cap, cur, rfl, _, hg, _⟩
  · cases e
  · injection e with e
    subst e
    rw [hg] at hk
    injection hk with hk
    exact hn _ _ hk.symm
theorem Lo.shape (h : Lo w base v m) : ∃ A N k, v = .slice A N k ∧ N = m.length ∧ N ≤ k ∧ k ≤ maxLen := by
  rcases h.2 with ⟨rfl, hz⟩ | ⟨g, cap, cur, rfl, _, _, h1, h2, _⟩
  · exact ⟨none, 0, 0, rfl, hz.symm, Nat.le_refl _, by unfold maxLen; omega⟩
  · exact ⟨_, _, _, rfl, rfl, h1, h2⟩
/-- The cells of an element. -/
theorem Lo.at_ {A : Option Addr} {N k i : Nat} (h : Lo w base (.slice A N k) m) (hN : N = m.length) (hi : i < N) :
    ∃ b off, A = some ⟨b, off, none⟩ ∧ w.cell? ⟨b, off + i * 3, none⟩ = some (.int .i64 (m.getD i (0, 0, 0)).1) ∧ w.cell? ⟨b, off + i * 3 + 1, none⟩ = some (.int .i64 (m.getD i (0, 0, 0)).2.1) ∧ w.cell? ⟨b, off + i * 3 + 2, none⟩ = some (.int .i64 (m.getD i (0, 0, 0)).2.2) := by
  subst hN
  rcases h.2 with ⟨e, hz⟩ | ⟨g, cap, cur, e, _, hg, h1, h2, h3, h4⟩
  · omega
  · obtain ⟨rfl, rfl⟩ : A = some ⟨g, 0, none⟩ ∧ k = cap := by simpa using e
    have hc : ∀ j u, (cs m)[j]? = some u → w.cell? ⟨g, 0 + j, none⟩ = some u := fun j u hj => by
      rw [← h4, List.getElem?_take] at hj
      split at hj
      · simp [World.cell?, hg]
        simpa using hj
      · cases hj
    have h5 := cs_at m i hi
    refine ⟨g, 0, rfl, ?_, ?_, ?_⟩
    · have := hc _ _ h5.1; rwa [show 0 + 3 * i = 0 + i * 3 by omega] at this
    · have := hc _ _ h5.2.1; rwa [show 0 + (3 * i + 1) = 0 + i * 3 + 1 by omega] at this
    · have := hc _ _ h5.2.2; rwa [show 0 + (3 * i + 2) = 0 + i * 3 + 2 by omega] at this
theorem getD_mem {m : List Ow} {i : Nat} (hi : i < m.length) : m.getD i (0, 0, 0) ∈ m := by
  rw [List.getD_eq_getElem?_getD, List.getElem?_eq_getElem hi]
  exact List.getElem_mem hi
theorem take_more {m : List Ow} {i : Nat} (hi : i < m.length) : m.take (i + 1) = m.take i ++ [m.getD i (0, 0, 0)] := by
  rw [List.take_add_one, List.getD_eq_getElem?_getD, List.getElem?_eq_getElem hi]
  rfl
theorem few_any (A : Option Addr) (n c : Nat) (w : World) (hn : n ≤ c) (hc : c ≤ maxLen) (hA : 0 < n → ∃ ad, A = some ad) :
    Calls Try.prog 10 #[.slice A n c] w fun e w' => (∃ m c', m ≤ 50 ∧ m ≤ n ∧ e = .returned (.slice A m c')) ∧ w = w' := by
  unfold maxLen at hc
  by_cases h : 50 < n
  · obtain ⟨ad, rfl⟩ := hA (by omega)
    clear hA
    have l1 : (50 : Int) ≤ c := by omega
    go_enter Try.func10, Try.ntmps10
    go_wp2
    all_goals
      go_ret
      exact ⟨⟨50, _, by omega, by omega, rfl⟩, rfl⟩
  · clear hA
    go_enter Try.func10, Try.ntmps10
    go_wp2
    go_ret
    exact ⟨⟨n, _, by omega, by omega, rfl⟩, rfl⟩
theorem owner_any (h : Lo w base v m) (hm : m.length ≤ 4096) (G : ∃ n, Good n m) (p : Int) :
    Calls Try.prog 28 #[v, .int .i64 p] w fun e w' => e = .returned (.tuple #[.int .i64 (owner m p).1, .int .i64 (owner m p).2]) ∧ w.grownBy w' none := by
  obtain ⟨A, N, k, rfl, hN, hk, hk2⟩ := h.shape
  have H := Lib.hid h
  have HN := Lib.hid hN
  have NO := Lib.hid (fun (h : ∀ x ∈ m, x.2.2 ≠ p) => owner_no h)
  obtain ⟨n, G⟩ := G
  have GG := Lib.hid G
  have l1 : N ≤ 4096 := by omega
  clear h hN hk hk2 G
  go_enter Try.func28, Try.ntmps28
  go_wp2
  go_loopw [6] (fun i wr => ∃ k : Nat, k ≤ N ∧ i = .int .i64 k ∧ (∀ x ∈ m.take k, x.2.2 ≠ p) ∧ wr = w) (fun i _ => N - (intOf i).toNat)
  case atStart => exact ⟨0, Nat.zero_le _, rfl, by simp, rfl⟩
  case round =>
    obtain ⟨i, hi, rfl, hp, rfl⟩ := hrel
    have HP := Lib.hid hp
    clear hp
    by_cases hlt : i < N
    · obtain ⟨b, off, rfl, c0, c1, c2⟩ := H.out.at_ HN.out hlt
      have MM := Lib.hid (getD_mem (m := m) (i := i) (by have := HN.out; omega))
      have TM := Lib.hid (take_more (m := m) (i := i) (by have := HN.out; omega))
      generalize m.getD i (0, 0, 0) = x at c0 c1 c2 MM TM
      obtain ⟨x1, x2, x3⟩ := x
      dsimp only at c0 c1 c2
      have l2 : (0 : Int) ≤ (i : Int) := by omega
      have l3 : (i : Int) < N := by omega
      by_cases hz : x3 = p
      · subst hz
        have OW := Lib.hid (owner_in GG.out MM.out)
        go_wp2
        go_quiet (fail)
        go_wp2
        go_ret2
        exact ⟨by rw [OW.out]; rfl, grown_drewN _ _ _⟩
      · have t1 : (x3 == p) = false := by simpa using hz
        have HZ := Lib.hid hz
        clear hz
        go_wp2
        go_roundw
        case rel => exact ⟨i + 1, by omega, by go_num, by rw [TM.out]; intro x hx; rcases List.mem_append.1 hx with h | h; exact HP.out x h; simp at h; subst h; exact HZ.out, by first | rfl | trivial⟩
        case measure => simp [intOf]; omega
    · obtain rfl : i = N := by omega
      have e1 := NO.out (by have := HP.out; rwa [List.take_of_length_le (by have := HN.out; omega)] at this)
      go_wp2
      go_ret2
      exact ⟨by rw [e1]; rfl, World.grownBy.refl _ _⟩
end
end Go.Proofs.Ytagahkofjgbfhaa.ca
