/- A cache's places as a map's keys: a thread and a class. -/
import Derived.Test.YtfhmhlofjoahlaaGreatDoorCsQ
import Derived.Maps.RangeWalk
import Derived.DeepKeys4
namespace Go.Proofs.YtfhmhlofjoahlaaGreatDoor.ca
open Go.ChangeShapes Go.WideShapes Go.ChangeAt Go.RowKit Go.Maps calls cls
set_option linter.unusedVariables false
set_option maxRecDepth 100000
set_option maxHeartbeats 2000000
theorem laid : laidOutB Tryz.prog = true := by kernel_rfl
theorem klaw : Keyed Tryz.prog 69 := Keyed.of_law (deep_law_laid laid (m := 3) (by decide) (of_decide_eq_true (by kernel_rfl)) (by kernel_rfl) (by kernel_rfl))
/-- What a place reads as. -/
def kl (t k : Int) : Lit := .string (keyBytes [.int .i64 t, .int .i64 k])
theorem types_more : ∃ n, Tryz.prog.types.size = n + 1 := ⟨Tryz.prog.types.size - 1, by
  have : 0 < Tryz.prog.types.size := of_decide_eq_true (by kernel_rfl)
  omega⟩
theorem key_mk {t k : Int} (ht : fits t = true) (hk : fits k = true) : keyOf Tryz.prog 69 (.agg #[.int .i64 t, .int .i64 k]) = some (kl t k) := by
  obtain ⟨n, hn⟩ := types_more
  have ft : Tryz.prog.keyType 69 = true := by kernel_rfl
  unfold keyOf
  rw [Tryz.underlying69, ft, hn]
  have c2 : Tryz.prog.cellsOf 69 = 2 := by kernel_rfl
  have c1 : Tryz.prog.cellsOf 3 = 1 := by kernel_rfl
  have hwt : (Lit.int .i64 t).wf = true := WalkArith.wf_i64 (fits_iff.mp ht)
  have hwk : (Lit.int .i64 k).wf = true := WalkArith.wf_i64 (fits_iff.mp hk)
  simp [Value.formed, Value.cells, Tryz.underlying69, Program.keyLits, c1, c2, hwt, hwk, kl]
theorem key_inv {v : Value} {l : Lit} (h : keyOf Tryz.prog 69 v = some l) : ∃ t k : Int, v = .agg #[.int .i64 t, .int .i64 k] ∧ l = kl t k ∧ fits t = true ∧ fits k = true := by
  obtain ⟨n, hn⟩ := types_more
  have ft : Tryz.prog.keyType 69 = true := by kernel_rfl
  have c2 : Tryz.prog.cellsOf 69 = 2 := by kernel_rfl
  have c1 : Tryz.prog.cellsOf 3 = 1 := by kernel_rfl
  unfold keyOf at h
  rw [Tryz.underlying69, ft, hn] at h
  cases v <;> simp [Value.formed, Value.cells, Tryz.underlying69, Program.keyLits, c1, c2] at h
  rename_i cs
  obtain ⟨h2, ls, h3, rfl⟩ := h
  obtain ⟨a, b, rfl⟩ : ∃ a b, cs = #[a, b] := by
    obtain ⟨l⟩ := cs
    match l, h2 with
    | [a, b], _ => exact ⟨a, b, rfl⟩
  have ha : ∃ x, a = .int .i64 x ∧ (Lit.int .i64 x).wf = true := by
    cases a <;> simp at h3
    rename_i q x
    by_cases hx : q = .i64 ∧ (Lit.int .i64 x).wf = true
    · exact ⟨x, by rw [hx.1], hx.2⟩
    · rw [if_neg hx] at h3
      simp at h3
  obtain ⟨x, rfl, hx⟩ := ha
  have hb : ∃ y, b = .int .i64 y ∧ (Lit.int .i64 y).wf = true := by
    cases b <;> simp [hx] at h3
    rename_i q y
    by_cases hy : q = .i64 ∧ (Lit.int .i64 y).wf = true
    · exact ⟨y, by rw [hy.1], hy.2⟩
    · rw [if_neg hy] at h3
      simp at h3
  obtain ⟨y, rfl, hy⟩ := hb
  simp [hx, hy] at h3
  subst h3
  exact ⟨x, y, rfl, rfl, fits_wf hx, fits_wf hy⟩
theorem kl_inj {t k t' k' : Int} (ht : fits t = true) (hk : fits k = true) (ht' : fits t' = true) (hk' : fits k' = true) (h : kl t k = kl t' k') : t = t' ∧ k = k' := by
  have h1 := key_mk ht hk
  have h2 := key_mk ht' hk'
  rw [← h] at h2
  have := klaw.inj h1 h2
  simpa using this
theorem kl_key (t k : Int) : WideAt.IsKeyLit (kl t k) := trivial
end Go.Proofs.YtfhmhlofjoahlaaGreatDoor.ca
