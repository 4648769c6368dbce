/- Texts that this claim stands on. -/
import Derived.WalkKit
import Derived.Below
import Derived.Laws.AppendOwnNone
import Derived.Laws.OwnMore
import Derived.Deep.AppendLies
import Derived.Test.YtfhebjkoojodiaaDoorRows
import Derived.ProofKit
import Derived.OpenShut
import Derived.Lib.Hide
import Derived.IntWalk
import Derived.Maps.Range
import Derived.Deep.Draws
import Derived.Deep.QuietTactic
import Derived.BigQuiet
namespace Go.Proofs.YtfhebjkoojodiaaDoor.gen
open Go.RowKit
theorem block_of_add (a : Addr) (n : Nat) : (a.add n).block = a.block := by unfold Addr.add; split <;> rfl
def Rd (w : World) (B : Nat) (A : Option Addr) (n c : Nat) (xs : List Int) : Prop :=
  xs.length = n ∧ (A = none → n = 0 ∧ c = 0) ∧ ∀ ad, A = some ad → ∀ i, i < n → ad.block < B ∧ w.cell? (ad.add i) = some (.int .i64 (xs.getD i 0))
theorem Rd.at_ {w : World} {B n c k : Nat} {A : Option Addr} {xs : List Int} (h : Rd w B A n c xs) (hk : k < n) :
    ∃ b off, A = some ⟨b, off, none⟩ ∧ w.cell? ⟨b, off + k, none⟩ = some (.int .i64 (xs.getD k 0)) := by
  cases A with
  | none => have := (h.2.1 rfl).1; omega
  | some ad =>
    obtain ⟨b, off, spot⟩ := ad
    have hc := (h.2.2 _ rfl k hk).2
    have hs := World.cell?_spot (h.2.2 _ rfl 0 (by omega)).2
    have : spot = none := by simpa [Addr.add] using hs
    subst this
    exact ⟨b, off, rfl, by simpa [Addr.add_lit] using hc⟩
theorem Rd.cells {w : World} {B n c : Nat} {A : Option Addr} {xs : List Int} (h : Rd w B A n c xs) :
    ∀ ad, A = some ad → ∀ j u, (xs.map (Value.int .i64))[j]? = some u → w.cell? (ad.add j) = some u := by
  intro ad e j u hu
  simp only [List.getElem?_map, Option.map_eq_some_iff] at hu
  obtain ⟨y, hy, rfl⟩ := hu
  have hj : j < n := by have := (List.getElem?_eq_some_iff.mp hy).1; rw [h.1] at this; exact this
  have := (h.2.2 ad e j hj).2
  rw [List.getD_eq_getElem?_getD, hy] at this
  simpa using this
theorem Rd.of_own {w : World} {base n : Nat} {e : TypeId} {v : Value} {xs : List Int} (h : w.ownsRow base e 1 v n (xs.map (Value.int .i64))) :
    ∃ A c, v = .slice A n c ∧ Rd w w.heap.size A n c xs := by
  have hl : xs.length = n := by have := h.1; simpa using this
  rcases h.2 with ⟨rfl, rfl⟩ | ⟨g, cap, cur, rfl, _, hg, _, _, _, _⟩
  · exact ⟨none, 0, rfl, hl, fun _ => ⟨rfl, rfl⟩, fun ad e => by cases e⟩
  · have hlt : g < w.heap.size := by
      rcases Nat.lt_or_ge g w.heap.size with hlt | hge
      · exact hlt
      · rw [Array.getElem?_eq_none hge] at hg; cases hg
    refine ⟨_, cap, rfl, hl, fun e => (by cases e), fun ad e i hi => ?_⟩
    injection e with e
    subst e
    refine ⟨hlt, ?_⟩
    rw [Addr.add_lit, Nat.zero_add, h.cellAt i (by omega), List.getElem?_map, List.getElem?_eq_getElem (by omega)]
    simp [List.getD_eq_getElem?_getD, show i < xs.length by omega]
theorem wpList_append_rd {P : Program} {w : World} {ops : Array Oper} {rest : List Oper} {o : Oper} {a : Act} {Q : Exit → Act → World → Prop} (hgd : o.guard = none) (s x : Operand) (t : TypeId)
    (ho : o.op = .call { callee := .builtin .append, args := #[s, x], argTypes := #[t, t] })
    (base : Nat) (e : TypeId) (i : TypeInfo) (z : Value) (bytes : Nat) (ht : P.underlying t = some (.slice e)) (hi : P.info? e = some i) (hz : i.zero = some z)
    (hsize : i.size = 1) (hby : i.bytes = bytes) (hzs : z.cells.size = 1)
    (v : Value) (n : Nat) (xs : List Int) (hs : a.eval s = v) (hown : w.ownsRow base e 1 v n (xs.map (Value.int .i64)))
    (A : Option Addr) (m c B : Nat) (ys : List Int) (hx : a.eval x = .slice A m c) (hr : Rd w B A m c ys)
    (h63 : n + m ≤ maxLen) (hbytes : (n + m) * bytes ≤ 140737488355328) (hbase : base ≤ w.heap.size)
    (h : ∀ A' c' w', w'.ownsRow base e 1 (.slice A' (n + m) c') (n + m) ((xs ++ ys).map (Value.int .i64)) → Rd w' w'.heap.size A' (n + m) c' (xs ++ ys) → w.grownBy w' v.ownBlock → wpList P ops Q rest (a.put o.dst (.slice A' (n + m) c')) w') : wpList P ops Q (o :: rest) a w := by
  have h' : ∀ v' w', w'.ownsRow base e 1 v' (n + m) ((xs ++ ys).map (Value.int .i64)) → w.grownBy w' v.ownBlock → wpList P ops Q rest (a.put o.dst v') w' := by
    intro v' w' k1 k2
    obtain ⟨A', c', rfl, hr'⟩ := Rd.of_own k1
    exact h A' c' w' k1 hr' k2
  cases A with
  | none =>
    obtain ⟨rfl, rfl⟩ := hr.2.1 rfl
    have : ys = [] := List.eq_nil_of_length_eq_zero hr.1
    subst this
    refine wpList_append_own_none hgd s x t ho base e i 1 ht hi v n _ hs hown hx ?_
    exact h' v w (by simpa using hown) (World.grownBy.refl _ _)
  | some ad =>
    refine wpList_append_own w hgd s x t ho base e i z 1 bytes ht hi hz hsize hby hzs (by decide) v n _ hs hown ad m c (ys.map (Value.int .i64)) hx (by simp [hr.1]) (hr.cells ad rfl) (fun u hu => by obtain ⟨_, _, rfl⟩ := List.mem_map.1 hu; rfl) h63 hbytes hbase ?_
    intro v' w' k1 k2 _
    exact h' v' w' (by simpa using k1) k2
end Go.Proofs.YtfhebjkoojodiaaDoor.gen
namespace Go.Proofs.YtfhebjkoojodiaaDoor.li
open Go.ChangeShapes Go.WideShapes Go.ChangeAt Go.RowKit gen
set_option linter.unusedVariables false
def Drew (w w' : World) : Prop := ∃ n, w' = w.drewN n
theorem grown_drewN (w : World) (n : Nat) (row : Option Nat) : w.grownBy (w.drewN n) row := ⟨rfl, rfl, rfl, Nat.le_refl _, fun _ _ _ => rfl⟩
theorem grown_below {a w : World} (h : a.grownBy w none) : Below a.heap.size a w := ⟨h.os, h.tape, h.output, h.size, fun k hk => h.block k hk (by simp)⟩
theorem grown_new {a b c : World} {r : Nat} (h : a.grownBy b none) (k : b.grownBy c (some r)) (hr : a.heap.size ≤ r) : a.grownBy c none :=
  h.andThen k (fun j hj => .inl (by cases hj; exact hr))
theorem info_int : (Tryd.prog.info? 3).map (fun i => (i.zero, i.size, i.bytes)) = some (some (.int .i64 0), 1, 8) := by kernel_rfl
theorem Rd.one (w : World) (x : Int) (t : TypeId) : Rd (w.alloc (.cells #[.int .i64 x] t)) (w.alloc (.cells #[.int .i64 x] t)).heap.size (some ⟨w.heap.size, 0, none⟩) 1 1 [x] := by
  refine ⟨rfl, fun e => (by cases e), fun ad e i hi => ?_⟩
  injection e with e
  subst e
  obtain rfl : i = 0 := by omega
  exact ⟨by simp, by simp [go_sem]⟩
theorem getD_mem {xs : List Int} {k : Nat} (h : k < xs.length) (d : Int) : xs.getD k d ∈ xs := by
  rw [List.getD_eq_getElem?_getD, List.getElem?_eq_getElem h]
  exact List.getElem_mem h
theorem Ints_true (xs : List Int) (A B : Option Addr) (n m c d b b2 : Nat) (w : World) (hs : n ≤ 4194304) (hnm : n = m) (r1 : Rd w b A n c xs) (r2 : Rd w b2 B m d xs) :
    Calls Tryd.prog 21 #[.slice A n c, .slice B m d] w fun e w' => e = .returned (.bool true) ∧ Drew w w' := by
  subst hnm
  have R1 := Lib.hid r1
  have R2 := Lib.hid r2
  clear r1 r2
  go_enter Tryd.func21, Tryd.ntmps21
  go_wp2
  go_loopw [5] (fun i wr => ∃ k j : Nat, k ≤ n ∧ i = .int .i64 k ∧ wr = w.drewN j) (fun i _ => n - (intOf i).toNat)
  case atStart => exact ⟨0, 0, Nat.zero_le _, rfl, rfl⟩
  case round =>
    obtain ⟨k, j, hk, rfl, rfl⟩ := hrel
    by_cases hlt : k < n
    · obtain ⟨b1, o1, rfl, g1⟩ := R1.out.at_ hlt
      obtain ⟨b2, o2, rfl, g2⟩ := R2.out.at_ hlt
      generalize xs.getD k 0 = x at g1 g2
      have l1 : (0 : Int) ≤ (k : Int) := by omega
      have l2 : (k : Int) < n := by omega
      go_wp2
      go_quiet (fail)
      go_wp2
      go_roundw
      case rel => exact ⟨k + 1, _, by omega, by go_num, rfl⟩
      case measure => simp [intOf]; omega
    · go_wp2
      go_ret
      exact ⟨rfl, _, rfl⟩
theorem own_or {w : World} {base n c : Nat} {A : Option Addr} {t : TypeId} {xs : List Value} (h : w.ownsRow base t 1 (.slice A n c) n xs) : (A = none ∧ n = 0 ∧ c = 0) ∨ ∃ g, A = some ⟨g, 0, none⟩ ∧ n ≤ c ∧ c ≤ maxLen := by
  rcases h.2 with ⟨e, _⟩ | ⟨g, cap, cur, e, _, _, h1, h2, _⟩
  · injection e with e1 e2 e3
    exact .inl ⟨e1, e2, e3⟩
  · injection e with e1 e2 e3
    exact .inr ⟨g, e1, by omega, by omega⟩
end Go.Proofs.YtfhebjkoojodiaaDoor.li
