/- Texts that this claim stands on. -/
import Derived.Laws.AppendOwn
import Derived.Laws.CopyOwn
import Derived.Laws.MakeOwn
import Derived.Test.YtkgdcgmbapchcaaGreatDoorQGnQ
namespace Go.Proofs.YtkgdcgmbapchcaaGreatDoor.en
open Go.ChangeShapes Go.WideShapes Go.ChangeAt Go.RowKit gen li
set_option linter.unusedVariables false
set_option maxHeartbeats 4000000
set_option maxRecDepth 100000
abbrev Va := Int × Int
def vc (m : List Va) : List Value := m.flatMap fun x => [.int .i64 x.1, .int .i64 x.2]
theorem vc_cons (x : Va) (m : List Va) : vc (x :: m) = .int .i64 x.1 :: .int .i64 x.2 :: vc m := rfl
theorem vc_append (m l : List Va) : vc (m ++ l) = vc m ++ vc l := by simp [vc]
theorem vc_add (m : List Va) (x : Va) : vc (m ++ [x]) = vc m ++ [.int .i64 x.1, .int .i64 x.2] := by simp [vc]
theorem vc_length : ∀ m : List Va, (vc m).length = 2 * m.length
  | [] => rfl
  | x :: m => by rw [vc_cons, List.length_cons, List.length_cons, vc_length m, List.length_cons]; omega
theorem vc_at : ∀ (m : List Va) (i : Nat), i < m.length → (vc m)[2 * i]? = some (.int .i64 (m.getD i (0, 0)).1) ∧ (vc m)[2 * i + 1]? = some (.int .i64 (m.getD i (0, 0)).2)
  | [], i, h => by simp at h
  | x :: m, 0, _ => ⟨rfl, rfl⟩
  | x :: m, i + 1, h => by
    have h1 := vc_at m i (by simpa using h)
    rw [vc_cons, show 2 * (i + 1) = 2 * i + 1 + 1 by omega]
    refine ⟨?_, ?_⟩
    · rw [List.getElem?_cons_succ, List.getElem?_cons_succ]; simpa using h1.1
    · rw [List.getElem?_cons_succ, List.getElem?_cons_succ]; simpa using h1.2
def Rv (w : World) (B : Nat) (A : Option Addr) (n c : Nat) (m : List Va) : Prop :=
  m.length = n ∧ n ≤ c ∧ c ≤ maxLen ∧ ∀ i, i < n → ∃ b off, A = some ⟨b, off, none⟩ ∧ b < B ∧ w.cell? ⟨b, off + i * 2, none⟩ = some (.int .i64 (m.getD i (0, 0)).1) ∧ w.cell? ⟨b, off + i * 2 + 1, none⟩ = some (.int .i64 (m.getD i (0, 0)).2)
theorem Rv.at_ {w : World} {B n c i : Nat} {A : Option Addr} {m : List Va} (h : Rv w B A n c m) (hi : i < n) :
    ∃ b off, A = some ⟨b, off, none⟩ ∧ w.cell? ⟨b, off + i * 2, none⟩ = some (.int .i64 (m.getD i (0, 0)).1) ∧ w.cell? ⟨b, off + i * 2 + 1, none⟩ = some (.int .i64 (m.getD i (0, 0)).2) := by
  obtain ⟨b, off, e, _, h1, h2⟩ := h.2.2.2 i hi
  exact ⟨b, off, e, h1, h2⟩
def Lv (w : World) (base : Nat) (v : Value) (m : List Va) : Prop := w.ownsRow base 157 2 v m.length (vc m)
section
variable {w w' : World} {base : Nat} {v : Value} {m : List Va}
theorem Lv.nil (w : World) (base : Nat) : Lv w base (.slice none 0 0) [] := World.ownsRow_nil _ _ _ _
theorem Lv.kept {row : Option Nat} (h : Lv w base v m) (hg : w.grownBy w' row) (hr : v.ownBlock = none ∨ v.ownBlock ≠ row) : Lv w' base v m := World.ownsRow.kept h hg hr
theorem Lv.new (h : Lv w base v m) (hg : w.grownBy w' none) : Lv w' base v m := h.kept hg (by cases v.ownBlock <;> simp)
theorem Lv.off {k : Nat} {o : Obj} (h : Lv w base v m) (hk : w.heap[k]? = some o) (hn : ∀ cs z, o ≠ .cells cs 157 z) : v.ownBlock ≠ some k := fun e => by
  rcases h.2 with ⟨rfl, _⟩ | ⟨g, cap, cur, rfl, _, hg, _⟩
  · cases e
  · injection e with e
    subst e
    rw [hg] at hk
    injection hk with hk
    exact hn _ _ hk.symm
theorem Lv.lt (h : Lv w base v m) : ∀ k, v.ownBlock = some k → k < w.heap.size := fun k e => by
  rcases h.2 with ⟨rfl, _⟩ | ⟨g, cap, cur, rfl, hb, hg, _⟩
  · cases e
  · injection e with e
    subst e
    exact (Array.getElem?_eq_some_iff.1 hg).1
theorem Lv.shape (h : Lv w base v m) : ∃ A N k, v = .slice A N k ∧ N = m.length ∧ N ≤ k ∧ k ≤ maxLen := by
  rcases h.2 with ⟨rfl, hz⟩ | ⟨g, cap, cur, rfl, _, _, h1, h2, _⟩
  · exact ⟨none, 0, 0, rfl, hz.symm, Nat.le_refl _, by unfold maxLen; omega⟩
  · exact ⟨_, _, _, rfl, rfl, h1, h2⟩
theorem Lv.rv {A : Option Addr} {N k : Nat} (h : Lv w base (.slice A N k) m) (hN : N = m.length) : Rv w w.heap.size A N k m := by
  subst hN
  rcases h.2 with ⟨e, hz⟩ | ⟨g, cap, cur, e, _, hg, h1, h2, h3, h4⟩
  · obtain ⟨rfl, hN, rfl⟩ : A = none ∧ m.length = 0 ∧ k = 0 := by simpa using e
    exact ⟨rfl, by omega, by unfold maxLen; omega, fun i hi => by omega⟩
  · obtain ⟨rfl, rfl⟩ : A = some ⟨g, 0, none⟩ ∧ k = cap := by simpa using e
    refine ⟨rfl, h1, h2, fun i hi => ⟨g, 0, rfl, (Array.getElem?_eq_some_iff.1 hg).1, ?_⟩⟩
    have hc : ∀ j u, (vc m)[j]? = some u → w.cell? ⟨g, 0 + j, none⟩ = some u := fun j u hj => by
      rw [← h4, List.getElem?_take] at hj
      split at hj
      · simp [World.cell?, hg]
        simpa using hj
      · cases hj
    have h5 := vc_at m i hi
    refine ⟨?_, ?_⟩
    · have := hc _ _ h5.1; rwa [show 0 + 2 * i = 0 + i * 2 by omega] at this
    · have := hc _ _ h5.2; rwa [show 0 + (2 * i + 1) = 0 + i * 2 + 1 by omega] at this
end
theorem info_va : (Tryz.prog.info? 157).map (fun i => (i.zero, i.size, i.bytes)) = some (some (.agg #[.int .i64 0, .int .i64 0]), 2, 16) := by kernel_rfl
end Go.Proofs.YtkgdcgmbapchcaaGreatDoor.en
