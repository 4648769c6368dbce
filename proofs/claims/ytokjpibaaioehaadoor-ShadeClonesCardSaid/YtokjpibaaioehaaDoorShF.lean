/- The plain grey's calls: New, Push, Pop, Black, Shade. -/
import Derived.Test.YtokjpibaaioehaaDoorShB
import Derived.Test.YtokjpibaaioehaaDoorShE
namespace Go.Proofs.YtokjpibaaioehaaDoor.sh
open Go.ChangeShapes Go.WideShapes Go.ChangeAt Go.RowKit gen li en gr
set_option linter.unusedVariables false
set_option maxHeartbeats 4000000
set_option maxRecDepth 100000
/-- An entry appended to a list of one's own, at a step of a region that draws its order. -/
theorem step_append_rn {w : World} {ops : Array Oper} {o : Oper} {a : Act} {K : Act → World → Prop} {Q : Exit → Act → World → Prop} {E : Prop} (hgd : o.guard = none) (s x : Operand) (ho : o.op = .call { callee := .builtin .append, args := #[s, x], argTypes := #[55, 55] })
    (base : Nat) (v : Value) (m : List Va) (hs : a.eval s = v) (hown : rn.Lv w base v m) (b : Nat) (z1 z2 : Int) (hx : a.eval x = .slice (some ⟨b, 0, none⟩) 1 1)
    (hz1' : w.cell? ⟨b, 0, none⟩ = some (.int .i64 z1)) (hz2' : w.cell? ⟨b, 1, none⟩ = some (.int .i64 z2)) (hm : m.length ≤ 1048576) (hbase : base ≤ w.heap.size)
    (h : ∀ g N' c' w', N' = (m ++ [(z1, z2)]).length → rn.Lv w' base (.slice (some ⟨g, 0, none⟩) N' c') (m ++ [(z1, z2)]) → w.grownBy w' v.ownBlock → (v.ownBlock = some g ∨ w.heap.size ≤ g) → K (a.put o.dst (.slice (some ⟨g, 0, none⟩) N' c')) w') :
    if Region.wanted o (yielded ops a.tmps) = true then Oper.wp Tryd.prog o a w K Q else E := by
  obtain ⟨i0, hi, hz0, hz1, hz2⟩ := info_parts rn.info_va
  refine step_append_lies w hgd s x 55 ho base 58 i0 (.agg #[.int .i64 0, .int .i64 0]) 2 16 Tryd.underlying55 hi hz0 hz1 hz2 rfl (by omega) v m.length (rn.vc m) hs hown ⟨b, 0, none⟩ 1 1 [.int .i64 z1, .int .i64 z2] hx rfl
    (fun j u hj => ?_) (fun u hu => by simp at hu; rcases hu with rfl | rfl <;> rfl) (by omega) (by unfold maxLen; omega) (by omega) hbase _ rfl (fun g c' w' h1 h2 h3 h4 => ?_)
  · match j, hj with
    | 0, hj => simp at hj; subst hj; simpa [Addr.add] using hz1'
    | 1, hj => simp at hj; subst hj; simpa [Addr.add] using hz2'
  · refine h g (m.length + 1) c' w' (by simp) ?_ h2 (h3.elim .inl (fun e => .inr (Nat.le_of_eq e.symm)))
    unfold rn.Lv
    rw [rn.vc_add, List.length_append]
    exact h1
/-- What a call of the plain one leaves. -/
def Ba (J : List Nat) (M r : Nat) (v : Value) (s : Ps) (w : World) (e : Ending) (w' : World) : Prop := e = .returned v ∧ ∃ J', (∀ q, q ∈ J' → q ∈ J ∨ w.heap.size ≤ q) ∧ Bk w' J' M r s ∧ Gr J w w'
/-- A plain one that was made. -/
def NewB (r : Nat) (s : Ps) (w : World) (e : Ending) (w' : World) : Prop := ∃ M J, e = .returned (.pointer (some ⟨M, 0, none⟩)) ∧ Bk w' J M r s ∧ (∀ q, q ∈ J → w.heap.size ≤ q) ∧ w.grownBy w' none
theorem rNew_any (n : Int) (r : Nat) (hk : sk.near n 1 256 = r) (h8 : r ≤ 256) (w : World) : Calls Tryd.prog 7 #[.int .i64 n] w (NewB r none0 w) := by
  have Z := Lib.hid (show NewB r none0 w (.returned (.pointer (some ⟨w.heap.size, 0, none⟩))) (w.alloc (.cells (rcs bm.zeros (.slice none 0 0) r false) 57)) from
    ⟨_, _, rfl, ⟨.slice none 0 0, ⟨heap_alloc_new _ _, rn.Lv.nil _ _, h8, by simp, bm.Fine.zeros (by omega)⟩, rfl⟩, fun q hq => (by
      rcases js_of.1 hq with rfl | e
      · exact Nat.le_refl _
      · cases e), World.grownBy_alloc _ _ _⟩)
  by_cases h1 : n < 1
  · obtain rfl : r = 1 := by unfold sk.near at hk; rw [if_pos h1] at hk; omega
    go_enter Tryd.func7, Tryd.ntmps7
    go_wp2
    go_ret
    exact Z.out
  · by_cases h2 : 256 < n
    · obtain rfl : r = 256 := by unfold sk.near at hk; rw [if_neg h1, if_pos h2] at hk; omega
      go_enter Tryd.func7, Tryd.ntmps7
      go_wp2
      go_ret
      exact Z.out
    · obtain rfl : n = r := by unfold sk.near at hk; rw [if_neg h1, if_neg h2] at hk; exact hk
      go_enter Tryd.func7, Tryd.ntmps7
      go_wp2
      go_ret
      exact Z.out
end Go.Proofs.YtokjpibaaioehaaDoor.sh
