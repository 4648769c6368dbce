/- Texts that this claim stands on. -/
import Derived.Deep.RegionHeld3
import Derived.Deep.RegionWith
import Derived.Laws.AppendOwn
import Derived.Laws.CopyOwn
import Derived.Laws.MakeOwn
import Derived.RegionTactic
import Derived.Deep.DeepCutAuto
import Derived.Test.YtkgdcgmbapchcaaGreatDoorQCeY
import Derived.Test.YtkgdcgmbapchcaaGreatDoorQGnQ
import Derived.Test.YtkgdcgmbapchcaaGreatDoorQStV
import Derived.Test.YtkgdcgmbapchcaaGreatDoorQTcX
import Derived.Test.YtkgdcgmbapchcaaGreatDoorQCsQ
namespace Go.Proofs.YtkgdcgmbapchcaaGreatDoor.bo
end Go.Proofs.YtkgdcgmbapchcaaGreatDoor.bo
namespace Go.Proofs.YtkgdcgmbapchcaaGreatDoor.bo
end Go.Proofs.YtkgdcgmbapchcaaGreatDoor.bo
namespace Go.Proofs.YtkgdcgmbapchcaaGreatDoor.bo
end Go.Proofs.YtkgdcgmbapchcaaGreatDoor.bo
namespace Go.Proofs.YtkgdcgmbapchcaaGreatDoor.bo
end Go.Proofs.YtkgdcgmbapchcaaGreatDoor.bo
namespace Go.Proofs.YtkgdcgmbapchcaaGreatDoor.bo
end Go.Proofs.YtkgdcgmbapchcaaGreatDoor.bo
namespace Go.Proofs.YtkgdcgmbapchcaaGreatDoor.va
open Go.ChangeShapes Go.WideShapes Go.ChangeAt Go.RowKit gen li
set_option linter.unusedVariables false
set_option maxHeartbeats 4000000
set_option maxRecDepth 100000
abbrev Va := Int × Int
def vc (m : List Va) : List Value := m.flatMap fun x => [.int .i64 x.1, .int .i64 x.2]
theorem vc_cons (x : Va) (m : List Va) : vc (x :: m) = .int .i64 x.1 :: .int .i64 x.2 :: vc m := rfl
theorem vc_add (m : List Va) (x : Va) : vc (m ++ [x]) = vc m ++ [.int .i64 x.1, .int .i64 x.2] := by simp [vc]
theorem vc_length : ∀ m : List Va, (vc m).length = 2 * m.length
  | [] => rfl
  | x :: m => by rw [vc_cons, List.length_cons, List.length_cons, vc_length m, List.length_cons]; omega
theorem vc_at : ∀ (m : List Va) (i : Nat), i < m.length → (vc m)[2 * i]? = some (.int .i64 (m.getD i (0, 0)).1) ∧ (vc m)[2 * i + 1]? = some (.int .i64 (m.getD i (0, 0)).2)
  | [], i, h => by simp at h
  | x :: m, 0, _ => ⟨rfl, rfl⟩
  | x :: m, i + 1, h => by
    have h1 := vc_at m i (by simpa using h)
    rw [vc_cons, show 2 * (i + 1) = 2 * i + 1 + 1 by omega]
    refine ⟨?_, ?_⟩
    · rw [List.getElem?_cons_succ, List.getElem?_cons_succ]; simpa using h1.1
    · rw [List.getElem?_cons_succ, List.getElem?_cons_succ]; simpa using h1.2
theorem vc_one (m : List Va) : ∀ v ∈ vc m, v.oneCell' = true := by
  intro v hv
  obtain ⟨x, _, hx⟩ := List.mem_flatMap.1 hv
  simp at hx
  rcases hx with rfl | rfl <;> rfl
theorem take_more {m : List Va} {i : Nat} (hi : i < m.length) : m.take (i + 1) = m.take i ++ [m.getD i (0, 0)] := by
  rw [List.take_add_one, List.getD_eq_getElem?_getD, List.getElem?_eq_getElem hi]
  rfl
def Lv (w : World) (base : Nat) (v : Value) (m : List Va) : Prop := w.ownsRow base 36 2 v m.length (vc m)
section
variable {w w' : World} {base : Nat} {v : Value} {m : List Va}
end
theorem info_va : (Tryz.prog.info? 36).map (fun i => (i.zero, i.size, i.bytes)) = some (some (.agg #[.int .i64 0, .int .i64 0]), 2, 16) := by kernel_rfl
theorem madeCells_two (n : Nat) : madeCells #[.int .i64 0, .int .i64 0] (n * 2) = (vc (List.replicate n (0, 0))).toArray := by
  apply Array.ext'
  apply List.ext_getElem?
  intro i
  have h0 : ∀ k, k < n * 2 → (madeCells #[.int .i64 0, .int .i64 0] (n * 2)).toList[k]? = some (.int .i64 0) := fun k hk => by
    unfold madeCells
    have : k % 2 = 0 ∨ k % 2 = 1 := by omega
    rcases this with h | h <;> simp [hk, h]
  by_cases hi : i < n * 2
  · rw [h0 i hi]
    obtain ⟨a1, a2⟩ := vc_at (List.replicate n (0, 0)) (i / 2) (by simp; omega)
    have e : (List.replicate n ((0, 0) : Va)).getD (i / 2) (0, 0) = (0, 0) := by rw [List.getD_eq_getElem?_getD, List.getElem?_replicate]; split <;> rfl
    rw [e] at a1 a2
    rcases Nat.mod_two_eq_zero_or_one i with h | h
    · rw [show 2 * (i / 2) = i by omega] at a1
      simpa using a1.symm
    · rw [show 2 * (i / 2) + 1 = i by omega] at a2
      simpa using a2.symm
  · rw [List.getElem?_eq_none (by simp [size_madeCells]; omega), List.getElem?_eq_none (by simp [vc_length]; omega)]
theorem make_vas (n : Nat) (hn : n ≤ 65536) (w : World) :
    (Instr.makeSlice 75 (.int .i64 (n : Int)) (.int .i64 (n : Int))).run Tryz.prog w = .ok (.slice (some ⟨w.heap.size, 0, none⟩) n n) (w.alloc (.cells (vc (List.replicate n (0, 0))).toArray 36)) := by
  obtain ⟨i0, hi, hz0, hz1, hz2⟩ := info_parts info_va
  have h := run_make (P := Tryz.prog) w 75 36 i0 _ Tryz.underlying75 hi hz0 .i64 .i64 n n (by omega) (Int.le_refl _) (by rw [hz2]; omega) (by omega)
  rw [h]
  simp only [Int.toNat_natCast, hz1]
  rw [← madeCells_two]
  rfl
theorem wpList_copy_none {w : World} {ops : Array Oper} {rest : List Oper} {o : Oper} {a : Act} {Q : Exit → Act → World → Prop} (hgd : o.guard = none) (d s : Operand)
    (ho : o.op = .call { callee := .builtin .copy, args := #[d, s], argTypes := #[75, 75] })
    (ad : Addr) (n c : Nat) (hd : a.eval d = .slice (some ad) n c) (hs : a.eval s = .slice none 0 0)
    (h : wpList Tryz.prog ops Q rest (a.put o.dst (goInt 0)) w) : wpList Tryz.prog ops Q (o :: rest) a w := by
  have hrun : ∀ ty, _ := fun ty => run_copy_nil (P := Tryz.prog) w 75 75 ty 36 ad n c Tryz.underlying75 (by kernel_rfl)
  refine wpList_plain hgd fun _ hK => ?_
  unfold Oper.wp
  simp [execOp, ho, resolve, invoke, builtin, hd, hs, hrun, Result.andThen]
  exact hK _ _ h
theorem Lv.whole {w : World} {g base : Nat} {m : List Va} (h : w.heap[g]? = some (.cells (vc m).toArray 36 (0, 0))) (hb : base ≤ g) (hm : m.length ≤ maxLen) : Lv w base (.slice (some ⟨g, 0, none⟩) m.length m.length) m :=
  ⟨by rw [vc_length]; omega, .inr ⟨g, _, _, rfl, hb, h, Nat.le_refl _, hm, by simp [vc_length]; omega, by simpa using List.take_of_length_le (by rw [vc_length]; omega)⟩⟩
def VasAns (m : List Va) (w : World) (e : Ending) (w' : World) : Prop := ∃ A c, e = .returned (.slice A m.length c) ∧ Lv w' w.heap.size (.slice A m.length c) m ∧ w.grownBy w' none
end Go.Proofs.YtkgdcgmbapchcaaGreatDoor.va
namespace Go.Proofs.YtkgdcgmbapchcaaGreatDoor.ph
open Go.ChangeShapes Go.WideShapes Go.ChangeAt Go.RowKit gen calls cls geos ce bo st
set_option linter.unusedVariables false
set_option maxHeartbeats 4000000
set_option maxRecDepth 100000
abbrev Va := Int × Int
structure Pb where
  a : Int
  q : Int
  v : Value
  l : List Va
section
variable {w w' : World} {base : Nat} {v : Value} {m os : List Pb} {L K : List Nat}
theorem row_gr {n s : Nat} {t : TypeId} {xs : List Value} (h : w.ownsRow base t s v n xs) (hg : Gr L w w') (hL : ∀ q, v.ownBlock = some q → q ∉ L) : w'.ownsRow base t s v n xs := by
  refine ⟨h.1, ?_⟩
  rcases h.2 with hn | ⟨g, cap, cur, rfl, hb, hgg, rest⟩
  · exact .inl hn
  · exact .inr ⟨g, cap, cur, rfl, hb, hg.heap hgg (hL g rfl), rest⟩
end
end Go.Proofs.YtkgdcgmbapchcaaGreatDoor.ph
namespace Go.Proofs.YtkgdcgmbapchcaaGreatDoor.ph
open Go.ChangeShapes Go.WideShapes Go.ChangeAt Go.RowKit gen calls cls geos ce bo st
set_option linter.unusedVariables false
set_option maxHeartbeats 4000000
set_option maxRecDepth 100000
abbrev Ob3 := Int × Int × List Va
structure Hq where
  ks : List Int
  fr : Nat → List Int
  own : List ca.Ow
  T : Nat
  cnt : Nat
  ob : List Ob3
section
variable {w w' : World} {K V M : List Nat} {H : Nat} {vk vo : Value} {vs : List Value} {os : List Pb} {y : Hq} {tl : List Value} {ks : List Int} {fr : Nat → List Int}
end
end Go.Proofs.YtkgdcgmbapchcaaGreatDoor.ph
namespace Go.Proofs.YtkgdcgmbapchcaaGreatDoor.ph
open Go.ChangeShapes Go.WideShapes Go.ChangeAt Go.RowKit gen calls cls geos ce bo st
set_option linter.unusedVariables false
set_option maxHeartbeats 4000000
set_option maxRecDepth 100000
section
variable {w w' : World} {K V : List Nat} {H : Nat} {vk vo : Value} {vs : List Value} {os : List Pb} {y : Hq}
end
end Go.Proofs.YtkgdcgmbapchcaaGreatDoor.ph
namespace Go.Proofs.YtkgdcgmbapchcaaGreatDoor.ph
open Go.ChangeShapes Go.WideShapes Go.ChangeAt Go.RowKit gen calls cls geos ce bo st
set_option linter.unusedVariables false
set_option maxHeartbeats 4000000
set_option maxRecDepth 100000
section
variable {w w' : World} {K V M X : List Nat} {H : Nat} {vk vo vo' : Value} {vs : List Value} {os os' : List Pb} {y : Hq} {tl : List Value} {ks : List Int} {fr : Nat → List Int}
end
end Go.Proofs.YtkgdcgmbapchcaaGreatDoor.ph
namespace Go.Proofs.YtkgdcgmbapchcaaGreatDoor.ph
end Go.Proofs.YtkgdcgmbapchcaaGreatDoor.ph
namespace Go.Proofs.YtkgdcgmbapchcaaGreatDoor.ph
end Go.Proofs.YtkgdcgmbapchcaaGreatDoor.ph
namespace Go.Proofs.YtkgdcgmbapchcaaGreatDoor.ph
end Go.Proofs.YtkgdcgmbapchcaaGreatDoor.ph
namespace Go.Proofs.YtkgdcgmbapchcaaGreatDoor.ph
end Go.Proofs.YtkgdcgmbapchcaaGreatDoor.ph
namespace Go.Proofs.YtkgdcgmbapchcaaGreatDoor.ph
end Go.Proofs.YtkgdcgmbapchcaaGreatDoor.ph
namespace Go.Proofs.YtkgdcgmbapchcaaGreatDoor.ph
end Go.Proofs.YtkgdcgmbapchcaaGreatDoor.ph
namespace Go.Proofs.YtkgdcgmbapchcaaGreatDoor.ph
open Go.ChangeShapes Go.WideShapes Go.ChangeAt Go.RowKit gen calls cls geos ce bo st
set_option linter.unusedVariables false
set_option maxHeartbeats 4000000
set_option maxRecDepth 100000
section
variable {w w' w1 : World} {K K' V M X : List Nat} {H : Nat} {x z : Hs} {t n a : Nat}
theorem tk_range (V : Iv x) {b : Int} (hb : b ∈ x.tk) : 0 ≤ b ∧ b ≤ 2047 := by
  have h1 := bz_in V.ok hb
  have h2 := bz_pos V.ok hb
  have h3 := V.ok.len
  have h4 := V.ok.few
  omega
theorem fls_keep (V : Iv x) {P : Int → Prop} (hK : Kp P x z) {b : Int} (hb : b ∈ x.tk) (hP : P b) : z.xs.getD b.toNat 0 = x.xs.getD b.toNat 0 ∧ tc.fls z b = tc.fls x b := by
  obtain ⟨_, h2, h3⟩ := hK b hb hP
  have hp := bz_pos V.ok hb
  have hr := tk_range V hb
  have e0 := h3 b.toNat (by omega) (by omega)
  refine ⟨e0, ?_⟩
  obtain ⟨s, m, l1, l2, l3, l4⟩ := V.live b hb
  unfold tc.fls
  rw [e0]
  refine List.map_congr_left fun j hj => ?_
  rw [List.mem_range, l4] at hj
  rw [h3 (b.toNat + 1 + j) (by omega) (by omega)]
end
end Go.Proofs.YtkgdcgmbapchcaaGreatDoor.ph
namespace Go.Proofs.YtkgdcgmbapchcaaGreatDoor.ph
open Go.ChangeShapes Go.WideShapes Go.ChangeAt Go.RowKit gen calls cls geos ce bo st
set_option linter.unusedVariables false
set_option maxHeartbeats 4000000
set_option maxRecDepth 100000
section
variable {w w' w1 : World} {K K' V M X : List Nat} {H : Nat} {x z : Hs} {t n a : Nat}
end
end Go.Proofs.YtkgdcgmbapchcaaGreatDoor.ph
namespace Go.Proofs.YtkgdcgmbapchcaaGreatDoor.ph
open Go.ChangeShapes Go.WideShapes Go.ChangeAt Go.RowKit gen calls cls geos ce bo st
set_option linter.unusedVariables false
set_option maxHeartbeats 4000000
set_option maxRecDepth 100000
section
variable {w w' w1 : World} {K K' V M X : List Nat} {H : Nat} {x z : Hs} {t n a s j i : Nat}
end
end Go.Proofs.YtkgdcgmbapchcaaGreatDoor.ph
