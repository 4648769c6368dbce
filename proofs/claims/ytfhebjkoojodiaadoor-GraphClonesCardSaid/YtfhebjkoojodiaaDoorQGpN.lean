/- Texts that this claim stands on. -/
import Derived.Test.YtfhebjkoojodiaaDoorQGpF
import Derived.Test.YtfhebjkoojodiaaDoorQGpC
namespace Go.Proofs.YtfhebjkoojodiaaDoor.gp
open Go.ChangeShapes Go.WideShapes Go.ChangeAt Go.RowKit gen va cd
set_option linter.unusedVariables false
set_option maxHeartbeats 1000000
set_option maxRecDepth 100000
def yo (σ : Gs) (t i : Nat) : Nat := ((σ.hd t).getD i (0, 0)).2.toNat
def ef (σ : Gs) (k : Int) (t i f j : Nat) (n : Int) : Gs :=
  if k = 1 then { σ with lv := upd σ.lv t true, hd := upd σ.hd t [] } else if k = 2 then { σ with lv := upd σ.lv t false, hd := upd σ.hd t [] }
  else if k = 3 then { σ with M := σ.M + 1, nd := upd σ.nd σ.M (List.replicate n.toNat (0, 0)), hd := upd σ.hd t (σ.hd t ++ [(2, (σ.M : Int))]) }
  else if k = 8 then { σ with hd := upd σ.hd t ((σ.hd t).take ((σ.hd t).length - 1)) }
  else if k = 10 then { σ with nd := upd σ.nd (yo σ t i) ((σ.nd (yo σ t i)).set f ((σ.hd t).getD j (0, 0))) }
  else if k = 4 ∨ k = 5 ∨ k = 6 ∨ k = 7 ∨ k = 9 then { σ with hd := upd σ.hd t (σ.hd t ++ [pu σ k t i f n]) } else σ
def an (σ : Gs) (k : Int) (t i f j : Nat) (n : Int) : Va :=
  if k = 3 then (2, (σ.M : Int)) else if k = 8 then (σ.hd t).getD ((σ.hd t).length - 1) (0, 0)
  else if k = 11 then (1, if (σ.hd t).getD i (0, 0) = (σ.hd t).getD j (0, 0) then 1 else 0)
  else if k = 12 then (1, ((σ.nd (yo σ t i)).length : Int))
  else if k = 4 ∨ k = 5 ∨ k = 6 ∨ k = 7 ∨ k = 9 then pu σ k t i f n else (0, 0)
section
variable {w : World} {K : List Nat} {g : Nat} {cf : Nat → Int} {σ : Gs} {k c n : Int} {t i f j : Nat}
theorem wh_0 (h : wh σ k t = 0) (hk : k < 16) : t < σ.N ∧ (k = 1 → σ.lv t = false) ∧ (k ≠ 1 → σ.lv t = true) := by
  refine ⟨wh_lt h hk, fun e => ?_, fun e => ?_⟩
  · have ht := wh_lt h hk
    unfold wh at h
    rw [if_neg (by omega), if_neg (by omega), if_pos e] at h
    cases hl : σ.lv t with
    | false => rfl
    | true => rw [hl] at h; simp at h
  · have ht := wh_lt h hk
    unfold wh at h
    rw [if_neg (by omega), if_neg (by omega), if_neg e] at h
    cases hl : σ.lv t with
    | true => rfl
    | false => rw [hl] at h; simp at h
end
end Go.Proofs.YtfhebjkoojodiaaDoor.gp
namespace Go.Proofs.YtfhebjkoojodiaaDoor.gp
open Go.ChangeShapes Go.WideShapes Go.ChangeAt Go.RowKit gen va cd
set_option linter.unusedVariables false
set_option maxHeartbeats 1000000
set_option maxRecDepth 100000
def Ac (z v1 v2 : Int) : Ending := .returned (.agg #[.int .i64 z, .int .i64 v1, .int .i64 v2, .int .i64 0, .int .i64 0])
section
variable {w : World} {K : List Nat} {g : Nat} {cf : Nat → Int} {σ : Gs}
def ask (k : Int) : Bool := k == 3 || (k == 15 || k == 17)
def stz (σ : Gs) (k t i f j c n no : Int) : Int := if codz σ k t i f j c n ≠ 0 then codz σ k t i f j c n else if ask k = true then no else 0
def sta (σ : Gs) (k t i f j c n no : Int) : Va := if stz σ k t i f j c n no ≠ 0 then (0, 0) else an σ k t.toNat i.toNat f.toNat j.toNat n
def stg (σ : Gs) (k t i f j c n no : Int) : Gs := if stz σ k t i f j c n no ≠ 0 then σ else ef σ k t.toNat i.toNat f.toNat j.toNat n
end
end Go.Proofs.YtfhebjkoojodiaaDoor.gp
namespace Go.Proofs.YtfhebjkoojodiaaDoor.gp
open Go.ChangeShapes Go.WideShapes Go.ChangeAt Go.RowKit gen va cd
set_option linter.unusedVariables false
set_option maxHeartbeats 1000000
set_option maxRecDepth 100000
inductive Rch (σ : Gs) : Nat → Prop
  | zero : Rch σ 0
  | held (t : Nat) (ht : t < σ.N) (v : Va) (hv : v ∈ σ.hd t) (h2 : v.1 = 2) : Rch σ v.2.toNat
  | field (n : Nat) (hn : Rch σ n) (v : Va) (hv : v ∈ σ.nd n) (h2 : v.1 = 2) : Rch σ v.2.toNat
def refs (m : List Va) : List Int := (m.filter fun v => v.1 == 2).map (·.2)
theorem mem_refs {m : List Va} {x : Int} : x ∈ refs m ↔ ∃ v, v ∈ m ∧ v.1 = 2 ∧ v.2 = x := by
  simp [refs]
def rest (nd : Nat → List Va) (m : Nat → Bool) : Nat → Nat
  | 0 => 0
  | n + 1 => rest nd m n + if m n = true then 0 else (nd n).length
end Go.Proofs.YtfhebjkoojodiaaDoor.gp
