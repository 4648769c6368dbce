/- Lists of bools in memory: those of the call's own, those that are read; an append onto them; slices.Clone. -/
import Derived.Test.YtgfgchmpdocihaaGrA
import Derived.Deep.AppendLies
import Derived.Lib.SliceRun
namespace Go.Proofs.Ytgfgchmpdocihaa.lb
open Go.ChangeShapes Go.WideShapes Go.ChangeAt Go.RowKit gen
set_option linter.unusedVariables false
set_option maxHeartbeats 4000000
set_option maxRecDepth 100000

/-- A list's cells. -/
def bools (m : List Bool) : List Value := m.map Value.bool
theorem bools_length (m : List Bool) : (bools m).length = m.length := by simp [bools]
theorem bools_append (m l : List Bool) : bools (m ++ l) = bools m ++ bools l := by simp [bools]
theorem bools_one (m : List Bool) : ∀ v ∈ bools m, v.oneCell' = true := by
  intro v hv
  obtain ⟨_, _, rfl⟩ := List.mem_map.1 hv
  rfl
/-- The slice '.slice A n c' holds the bools m. -/
def Rb (w : World) (A : Option Addr) (n c : Nat) (m : List Bool) : Prop :=
  m.length = n ∧ n ≤ c ∧ c ≤ maxLen ∧ (A = none → n = 0 ∧ c = 0) ∧ ∀ i, i < n → ∃ b off, A = some ⟨b, off, none⟩ ∧ w.cell? ⟨b, off + i, none⟩ = some (.bool (m.getD i false))
theorem Rb.at_ {w : World} {n c i : Nat} {A : Option Addr} {m : List Bool} (h : Rb w A n c m) (hi : i < n) : ∃ b off, A = some ⟨b, off, none⟩ ∧ w.cell? ⟨b, off + i, none⟩ = some (.bool (m.getD i false)) := h.2.2.2.2 i hi
theorem Rb.kept {w w' : World} {n c : Nat} {A : Option Addr} {m : List Bool} {row : Option Nat} (h : Rb w A n c m) (hg : w.grownBy w' row) (hr : ∀ ad, A = some ad → 0 < n → some ad.block ≠ row) : Rb w' A n c m := by
  refine ⟨h.1, h.2.1, h.2.2.1, h.2.2.2.1, fun i hi => ?_⟩
  obtain ⟨b, off, e, h1⟩ := h.2.2.2.2 i hi
  exact ⟨b, off, e, hg.cell h1 (fun e2 => hr _ e (by omega) e2)⟩
theorem Rb.made {w w' : World} {n c : Nat} {A : Option Addr} {m : List Bool} (h : Rb w A n c m) (hg : w.grownBy w' none) : Rb w' A n c m := h.kept hg (by simp)
theorem Rb.less {w : World} {n c k c' : Nat} {A : Option Addr} {m : List Bool} (h : Rb w A n c m) (hk : k ≤ n) (h1 : k ≤ c') (h2 : c' ≤ maxLen) (hA : A = none → c' = 0) : Rb w A k c' (m.take k) := by
  refine ⟨by rw [List.length_take, h.1]; omega, h1, h2, fun e => ⟨by have := hA e; omega, hA e⟩, fun i hi => ?_⟩
  obtain ⟨b, off, e, c1⟩ := h.2.2.2.2 i (by omega)
  have e2 : (m.take k).getD i false = m.getD i false := by simp [List.getD_eq_getElem?_getD, hi]
  exact ⟨b, off, e, by rw [e2]; exact c1⟩
/-- Behind the first k of a row that begins a block. -/
theorem Rb.drop {w : World} {n c k j c' g : Nat} {A : Option Addr} {m : List Bool} (h : Rb w (some ⟨g, 0, none⟩) n c m) (hk : k + j = n) (h1 : j ≤ c') (h2 : c' ≤ maxLen) (hA : A = none → c' = 0) (hB : 0 < j → A = some ⟨g, k, none⟩) : Rb w A j c' (m.drop k) := by
  refine ⟨by rw [List.length_drop, h.1]; omega, h1, h2, fun e => ⟨by have := hA e; omega, hA e⟩, fun i hi => ?_⟩
  obtain ⟨b, off, e, c1⟩ := h.2.2.2.2 (k + i) (by omega)
  injection e with e
  injection e with e1 e2 e3
  subst e1 e2
  refine ⟨g, k, hB (by omega), ?_⟩
  rw [Nat.zero_add] at c1
  rw [c1]
  simp [List.getD_eq_getElem?_getD]
theorem Rb.cells {w : World} {n c : Nat} {A : Option Addr} {m : List Bool} (h : Rb w A n c m) : ∀ ad, A = some ad → ∀ j u, (bools m)[j]? = some u → w.cell? (ad.add j) = some u := by
  intro ad e j u hu
  simp only [bools, List.getElem?_map, Option.map_eq_some_iff] at hu
  obtain ⟨y, hy, rfl⟩ := hu
  have hj : j < n := by have := (List.getElem?_eq_some_iff.mp hy).1; rw [h.1] at this; exact this
  obtain ⟨b, off, e2, c1⟩ := h.2.2.2.2 j hj
  rw [e] at e2
  injection e2 with e2
  subst e2
  rw [Addr.add_lit, c1, List.getD_eq_getElem?_getD, hy]
  rfl
/-- A list of the call's own. -/
def Lb (w : World) (base : Nat) (v : Value) (m : List Bool) : Prop := w.ownsRow base 4 1 v m.length (bools m)
section
variable {w w' : World} {base : Nat} {v : Value} {m : List Bool} {L : List Nat}
theorem Lb.nil (w : World) (base : Nat) : Lb w base (.slice none 0 0) [] := World.ownsRow_nil _ _ _ _
theorem Lb.mono {base' : Nat} (h : Lb w base v m) (hb : base' ≤ base) : Lb w base' v m := li.own_mono h hb
theorem Lb.kept {row : Option Nat} (h : Lb w base v m) (hg : w.grownBy w' row) (hr : v.ownBlock = none ∨ v.ownBlock ≠ row) : Lb w' base v m := World.ownsRow.kept h hg hr
theorem Lb.new (h : Lb w base v m) (hg : w.grownBy w' none) : Lb w' base v m := h.kept hg (by cases v.ownBlock <;> simp)
theorem Lb.gr (h : Lb w base v m) (hg : gr.Gr L w w') (hL : ∀ q, v.ownBlock = some q → q ∉ L) : Lb w' base v m := gr.own_gr h hg hL
theorem Lb.off {k : Nat} {o : Obj} (h : Lb w base v m) (hk : w.heap[k]? = some o) (hn : ∀ cs z, o ≠ .cells cs 4 z) : v.ownBlock ≠ some k := fun e => by
  rcases h.2 with ⟨rfl, _⟩ | ⟨g, cap, cur, rfl, _, hg, _⟩
  · cases e
  · injection e with e
    subst e
    rw [hg] at hk
    injection hk with hk
    exact hn _ _ hk.symm
theorem Lb.from_ (h : Lb w base v m) : ∀ k, v.ownBlock = some k → base ≤ k := fun k e => (gr.own_lt h k e).1
theorem Lb.lt (h : Lb w base v m) : ∀ k, v.ownBlock = some k → k < w.heap.size := fun k e => (gr.own_lt h k e).2
theorem Lb.shape (h : Lb w base v m) : ∃ A N k, v = .slice A N k ∧ N = m.length ∧ N ≤ k ∧ k ≤ maxLen := by
  rcases h.2 with ⟨rfl, hz⟩ | ⟨g, cap, cur, rfl, _, _, h1, h2, _⟩
  · exact ⟨none, 0, 0, rfl, hz.symm, Nat.le_refl _, by unfold maxLen; omega⟩
  · exact ⟨_, _, _, rfl, rfl, h1, h2⟩
theorem Lb.head {A : Option Addr} {N k : Nat} (h : Lb w base (.slice A N k) m) : (A = none ∧ N = 0 ∧ k = 0) ∨ ∃ g, A = some ⟨g, 0, none⟩ := by
  rcases h.2 with ⟨e, hz⟩ | ⟨g, cap, cur, e, _⟩
  · injection e with e1 e2 e3
    exact .inl ⟨e1, e2, e3⟩
  · injection e with e1 e2 e3
    exact .inr ⟨g, e1⟩
theorem Lb.rb {A : Option Addr} {N k : Nat} (h : Lb w base (.slice A N k) m) (hN : N = m.length) : Rb w A N k m := by
  subst hN
  rcases h.2 with ⟨e, hz⟩ | ⟨g, cap, cur, e, _, hg, h1, h2, h3, h4⟩
  · obtain ⟨rfl, hN, rfl⟩ : A = none ∧ m.length = 0 ∧ k = 0 := by simpa using e
    exact ⟨rfl, by omega, by unfold maxLen; omega, fun _ => ⟨hN, rfl⟩, fun i hi => by omega⟩
  · obtain ⟨rfl, rfl⟩ : A = some ⟨g, 0, none⟩ ∧ k = cap := by simpa using e
    refine ⟨rfl, h1, h2, fun e => (by cases e), fun i hi => ⟨g, 0, rfl, ?_⟩⟩
    rw [Nat.zero_add, h.cellAt i (by omega)]
    simp [bools, List.getD_eq_getElem?_getD, hi]
/-- A row that is whole, as a list of one's own. -/
theorem Lb.whole {g : Nat} (h : w.heap[g]? = some (.cells (bools m).toArray 4 (0, 0))) (hb : base ≤ g) (hm : m.length ≤ maxLen) : Lb w base (.slice (some ⟨g, 0, none⟩) m.length m.length) m :=
  ⟨by rw [bools_length]; omega, .inr ⟨g, _, _, rfl, hb, h, Nat.le_refl _, hm, by simp [bools_length], by simpa using List.take_of_length_le (by rw [bools_length]; omega)⟩⟩
end
theorem info_bool : (Try.prog.info? 4).map (fun i => (i.zero, i.size, i.bytes)) = some (some (.bool false), 1, 1) := by kernel_rfl
/-- Bools appended to a list of one's own. -/
theorem append_bools {w : World} {ops : Array Oper} {rest : List Oper} {o : Oper} {a : Act} {Q : Exit → Act → World → Prop} (hgd : o.guard = none) (s x : Operand) (ho : o.op = .call { callee := .builtin .append, args := #[s, x], argTypes := #[32, 32] })
    (base : Nat) (v : Value) (m : List Bool) (hs : a.eval s = v) (hown : Lb w base v m) (A : Option Addr) (n c : Nat) (l : List Bool) (hx : a.eval x = .slice A n c)
    (hr : Rb w A n c l) (hm : m.length + n ≤ 1048576) (hbase : base ≤ w.heap.size)
    (h : ∀ A' N' c' w', N' = (m ++ l).length → Lb w' base (.slice A' N' c') (m ++ l) → w.grownBy w' v.ownBlock → wpList Try.prog ops Q rest (a.put o.dst (.slice A' N' c')) w') : wpList Try.prog ops Q (o :: rest) a w := by
  obtain ⟨i0, hi, hz0, hz1, hz2⟩ := info_parts info_bool
  have hn := hr.1
  cases A with
  | none =>
    obtain ⟨rfl, rfl⟩ := hr.2.2.2.1 rfl
    have : l = [] := List.eq_nil_of_length_eq_zero hr.1
    subst this
    rw [List.append_nil] at h
    refine wpList_append_own_none hgd s x 32 ho base 4 i0 1 Try.underlying32 hi v m.length (bools m) hs hown hx ?_
    obtain ⟨A', N', c', rfl, hN, _, _⟩ := hown.shape
    exact h A' N' c' w hN hown (World.grownBy.refl _ _)
  | some ad =>
    refine wpList_append_own w hgd s x 32 ho base 4 i0 (.bool false) 1 1 Try.underlying32 hi hz0 hz1 hz2 rfl (by omega) v m.length (bools m) hs hown ad n c (bools l) hx (by rw [bools_length, hn]; omega)
      (hr.cells ad rfl) (bools_one l) (by unfold maxLen; omega) (by omega) hbase (fun v' w' h3 h4 h5 => ?_)
    rw [← bools_append] at h3
    have h3' : Lb w' base v' (m ++ l) := by
      unfold Lb
      rw [List.length_append, hn]
      exact h3
    obtain ⟨A', N', c', rfl, hN, _, _⟩ := h3'.shape
    exact h A' N' c' w' hN h3' h4
theorem Rb.one {w : World} {b : Nat} {y : Bool} (h0 : w.cell? ⟨b, 0, none⟩ = some (.bool y)) : Rb w (some ⟨b, 0, none⟩) 1 1 [y] := by
  refine ⟨rfl, Nat.le_refl _, by unfold maxLen; omega, fun e => (by cases e), fun i hi => ⟨b, 0, rfl, ?_⟩⟩
  obtain rfl : i = 0 := by omega
  exact h0
/-- A list that was made. -/
def LbAns (m : List Bool) (w : World) (e : Ending) (w' : World) : Prop := ∃ A N c, e = .returned (.slice A N c) ∧ N = m.length ∧ Lb w' w.heap.size (.slice A N c) m ∧ w.grownBy w' none
theorem eql_nil : ∀ (w : World) (a : Option Addr) (n c : Nat), (binOp .eql 32 (.slice a n c) (.slice none 0 0)).run Try.prog w = .ok (.bool a.isNone) w := fun w a n c => Lib.run_eql_slice_nil w _ _ a n c 0 0 Try.underlying32
theorem sclone_any {w : World} {A : Option Addr} {n c : Nat} {l : List Bool} (h : Rb w A n c l) (hm : n ≤ 1048576) : Calls Try.prog 19 #[.slice A n c] w (LbAns l w) := by
  have Q := eql_nil
  have H := Lib.hid h
  clear h
  rcases A with _ | A
  · obtain ⟨rfl, rfl⟩ := H.out.2.2.2.1 rfl
    have hl : l = [] := List.eq_nil_of_length_eq_zero H.out.1
    subst hl
    go_enter Try.func19, Try.ntmps19
    go_wp2
    go_ret
    exact ⟨none, 0, 0, rfl, rfl, World.ownsRow_nil _ _ _ _, World.grownBy.refl _ _⟩
  · have O := Lib.hid (World.ownsRow_lit (base := w.heap.size) (e := 4) (size := 1) w #[] 0 (Nat.le_refl _) (by simp [maxLen]) rfl)
    have G := Lib.hid (World.grownBy_alloc w (.cells #[] 4) none)
    go_enter Try.func19, Try.ntmps19
    go_wp2_with (refine append_bools rfl (.tmp 5) (.tmp 6) rfl w.heap.size _ [] rfl O.out (some A) n c l rfl (H.out.made G.out) (by simp; omega) (by simp) ?_; intro A3 N3 c3 w2 hn3 own1 gr1; have HN3 := Lib.hid hn3; have OWN1 := Lib.hid own1; have GR1 := Lib.hid (li.grown_new G.out gr1 (Nat.le_refl _)); clear hn3 own1 gr1)
    go_ret
    exact ⟨A3, N3, c3, rfl, HN3.out, OWN1.out, GR1.out⟩
end Go.Proofs.Ytgfgchmpdocihaa.lb
