/- Texts that this claim stands on. -/
import Derived.Test.YtfhebjkoojodiaaDoorPGqD
import Derived.Test.YtfhebjkoojodiaaDoorPGpS
namespace Go.Proofs.YtfhebjkoojodiaaDoor.gq
open Go.ChangeShapes Go.WideShapes Go.ChangeAt Go.RowKit gen va cd gp
set_option linter.unusedVariables false
set_option linter.unusedSimpArgs false
set_option maxHeartbeats 1000000
set_option maxRecDepth 100000
def Lw (w : World) (base : Nat) (x : Value) (m : List Va) : Prop := ∃ B c, x = .slice B m.length c ∧ Lv w base (.slice B m.length c) m
theorem Lw.kept {w w' : World} {base : Nat} {x : Value} {m : List Va} {row : Option Nat} (h : Lw w base x m) (hg : w.grownBy w' row) (hr : x.ownBlock = none ∨ x.ownBlock ≠ row) : Lw w' base x m := by
  obtain ⟨B, c, rfl, h⟩ := h
  exact ⟨B, c, rfl, h.kept hg hr⟩
theorem Lw.one {w : World} {base : Nat} {x : Value} {m : List Va} (h : Lw w base x m) : x.oneCell' = true := by
  obtain ⟨B, c, rfl, h⟩ := h
  rfl
theorem Lw.rv {w : World} {base : Nat} {m : List Va} {B : Option Addr} {n c : Nat} (h : Lw w base (.slice B n c) m) : Rv w w.heap.size B n c m ∧ (∀ ad, B = some ad → ad.block < w.heap.size ∧ base ≤ ad.block) := by
  obtain ⟨B', c', e, h⟩ := h
  injection e with e1 e2 e3
  subst e1 e2 e3
  refine ⟨h.rv rfl, fun ad e => ?_⟩
  subst e
  exact ⟨h.lt _ rfl, h.from_ _ rfl⟩
theorem Lw.off {w : World} {base : Nat} {x : Value} {m : List Va} (h : Lw w base x m) {k : Nat} {o : Obj} (hk : w.heap[k]? = some o) (hn : ∀ cs z, o ≠ .cells cs 57 z) : x.ownBlock ≠ some k := by
  obtain ⟨B, c, rfl, h⟩ := h
  exact h.off hk hn
def Rl (w : World) (base : Nat) (v : Value) (rs : List (List Va)) : Prop := ∃ xs : List Value, w.ownsRow base 53 1 v rs.length xs ∧ ∀ i, i < rs.length → ∃ x, xs[i]? = some x ∧ Lw w base x (rs.getD i [])
theorem own_shape {w : World} {base n s : Nat} {e : TypeId} {v : Value} {xs : List Value} (h : w.ownsRow base e s v n xs) : ∃ A c, v = .slice A n c ∧ n ≤ c ∧ c ≤ maxLen := by
  rcases h.2 with ⟨rfl, hn⟩ | ⟨g, cap, cur, rfl, _, _, h1, h2, _⟩
  · subst hn
    exact ⟨none, 0, rfl, Nat.le_refl _, by unfold maxLen; omega⟩
  · exact ⟨_, _, rfl, h1, h2⟩
theorem Rl.nil (w : World) (base : Nat) : Rl w base (.slice none 0 0) [] := ⟨[], World.ownsRow_nil _ _ _ _, fun i hi => by cases hi⟩
theorem Rl.kept {w w' : World} {base : Nat} {v : Value} {rs : List (List Va)} {row : Option Nat} (h : Rl w base v rs) (hg : w.grownBy w' row) (hr : ∀ q, row = some q → q < base) : Rl w' base v rs := by
  obtain ⟨xs, ho, hx⟩ := h
  have no : ∀ {u : Value}, (∀ q, u.ownBlock = some q → base ≤ q) → u.ownBlock = none ∨ u.ownBlock ≠ row := fun {u} hu => by
    cases e : u.ownBlock with
    | none => exact .inl rfl
    | some q => exact .inr (fun e2 => by have := hu q e; have := hr q e2.symm; omega)
  refine ⟨xs, World.ownsRow.kept ho hg (no (fun q hq => ?_)), fun i hi => ?_⟩
  · rcases ho.2 with ⟨rfl, _⟩ | ⟨g, cap, cur, rfl, hb, _⟩
    · cases hq
    · injection hq with hq
      subst hq
      exact hb
  · obtain ⟨x, h1, B, c, rfl, h2⟩ := hx i hi
    exact ⟨_, h1, B, c, rfl, h2.kept hg (no (fun q hq => h2.from_ q hq))⟩
theorem Rl.new {w w' : World} {base : Nat} {v : Value} {rs : List (List Va)} (h : Rl w base v rs) (hg : w.grownBy w' none) : Rl w' base v rs := h.kept hg (by simp)
theorem Rl.vr {w : World} {base : Nat} {A : Option Addr} {n c : Nat} {rs : List (List Va)} (h : Rl w base (.slice A n c) rs) (hn : n = rs.length) : Vr w w.heap.size A n rs := by
  subst hn
  obtain ⟨xs, ho, hx⟩ := h
  refine ⟨rfl, fun i hi => ?_⟩
  obtain ⟨x, h1, h2⟩ := hx i hi
  obtain ⟨B, c', rfl, h3⟩ := h2
  obtain ⟨r1, r2⟩ := Lw.rv ⟨B, c', rfl, h3⟩
  rcases ho.2 with ⟨e, h0⟩ | ⟨g, cap, cur, e, hb, hg, q1, q2, q3, q4⟩
  · omega
  · injection e with e1 e2 e3
    subst e1 e3
    refine ⟨g, 0, B, _, c', rfl, (Array.getElem?_eq_some_iff.1 hg).1, ?_, r1, fun ad e => (r2 ad e).1⟩
    rw [Nat.zero_add, cell_of_row w g _ _ _ _ hg, ← Array.getElem?_toList, ← h1, ← q4, List.getElem?_take, if_pos (by omega)]
theorem Rl.size {w : World} {base : Nat} {v : Value} {rs : List (List Va)} (h : Rl w base v rs) : ∃ A c, v = .slice A rs.length c := by
  obtain ⟨xs, ho, hx⟩ := h
  obtain ⟨A, c, e, _⟩ := own_shape ho
  exact ⟨A, c, e⟩
theorem append_rl {w : World} {ops : Array Oper} {rest : List Oper} {o : Oper} {a : Act} {Q : Exit → Act → World → Prop} (hgd : o.guard = none) (s x : Operand) (ho : o.op = .call { callee := .builtin .append, args := #[s, x], argTypes := #[42, 42] })
    (base : Nat) (v : Value) (rs : List (List Va)) (hs : a.eval s = v) (hN : Rl w base v rs) (b : Nat) (y : Value) (m : List Va) (hx : a.eval x = .slice (some ⟨b, 0, none⟩) 1 1) (hz : w.cell? ⟨b, 0, none⟩ = some y) (hy : Lw w base y m) (hm : rs.length ≤ 100000) (hbase : base ≤ w.heap.size)
    (h : ∀ v' w', Rl w' base v' (rs ++ [m]) → w.grownBy w' v.ownBlock → (∀ q, v.ownBlock = some q → base ≤ q) → wpList Tryd.prog ops Q rest (a.put o.dst v') w') : wpList Tryd.prog ops Q (o :: rest) a w := by
  obtain ⟨xs, hown, hxs⟩ := hN
  obtain ⟨i0, hi, hz0, hz1, hz2⟩ := info_parts info_nv
  have hfrom : ∀ q, v.ownBlock = some q → base ≤ q := fun q hq => by
    rcases hown.2 with ⟨rfl, _⟩ | ⟨g, cap, cur, rfl, hb, _⟩
    · cases hq
    · injection hq with hq
      subst hq
      exact hb
  refine wpList_append_own w hgd s x 42 ho base 53 i0 (.slice none 0 0) 1 24 Tryd.underlying42 hi hz0 hz1 hz2 rfl (by omega) v rs.length xs hs hown ⟨b, 0, none⟩ 1 1 [y] hx rfl
    (fun j u hj => ?_) (fun u hu => by rw [List.mem_singleton] at hu; subst hu; exact hy.one) (by unfold maxLen; omega) (by omega) hbase (fun v' w' h1 h2 h3 => ?_)
  · match j, hj with
    | 0, hj => simp at hj; subst hj; simpa [Addr.add] using hz
  · have tk : ∀ {u : Value} {k : List Va}, Lw w base u k → Lw w' base u k := fun {u k} hu => hu.kept h2 (by
      cases e : v.ownBlock with
      | none => cases e2 : u.ownBlock <;> simp
      | some q =>
        obtain ⟨c1, c2⟩ := own_ty hown q e
        exact .inr (hu.off c2 (fun cs z e => by injection e with _ e _; exact absurd e (by decide))))
    refine h v' w' ⟨xs ++ [y], ?_, fun i hi => ?_⟩ h2 hfrom
    · rw [List.length_append]
      exact h1
    · have hl := hown.1
      rw [Nat.mul_one] at hl
      rw [List.length_append, List.length_singleton] at hi
      by_cases e : i < rs.length
      · obtain ⟨u, e1, e2⟩ := hxs i e
        refine ⟨u, by rw [List.getElem?_append_left (by omega)]; exact e1, ?_⟩
        rw [List.getD_eq_getElem?_getD, List.getElem?_append_left e, ← List.getD_eq_getElem?_getD]
        exact tk e2
      · obtain rfl : i = rs.length := by omega
        refine ⟨y, by rw [← hl]; simp, ?_⟩
        rw [List.getD_eq_getElem?_getD, List.getElem?_append_right (Nat.le_refl _), Nat.sub_self]
        exact tk hy
def Nl (w : World) (base : Nat) (v : Value) (ns : List (Int × List Va)) : Prop := ∃ xs : List Value, w.ownsRow base 55 2 v ns.length xs ∧ ∀ i, i < ns.length → xs[i * 2]? = some (.int .i64 (ns.getD i (0, [])).1) ∧ ∃ x, xs[i * 2 + 1]? = some x ∧ Lw w base x (ns.getD i (0, [])).2
theorem Nl.nil (w : World) (base : Nat) : Nl w base (.slice none 0 0) [] := ⟨[], World.ownsRow_nil _ _ _ _, fun i hi => by cases hi⟩
theorem Nl.kept {w w' : World} {base : Nat} {v : Value} {ns : List (Int × List Va)} {row : Option Nat} (h : Nl w base v ns) (hg : w.grownBy w' row) (hr : ∀ q, row = some q → q < base) : Nl w' base v ns := by
  obtain ⟨xs, ho, hx⟩ := h
  have no : ∀ {u : Value}, (∀ q, u.ownBlock = some q → base ≤ q) → u.ownBlock = none ∨ u.ownBlock ≠ row := fun {u} hu => by
    cases e : u.ownBlock with
    | none => exact .inl rfl
    | some q => exact .inr (fun e2 => by have := hu q e; have := hr q e2.symm; omega)
  refine ⟨xs, World.ownsRow.kept ho hg (no (fun q hq => ?_)), fun i hi => ?_⟩
  · rcases ho.2 with ⟨rfl, _⟩ | ⟨g, cap, cur, rfl, hb, _⟩
    · cases hq
    · injection hq with hq
      subst hq
      exact hb
  · obtain ⟨h0, x, h1, B, c, rfl, h2⟩ := hx i hi
    exact ⟨h0, _, h1, B, c, rfl, h2.kept hg (no (fun q hq => h2.from_ q hq))⟩
theorem Nl.new {w w' : World} {base : Nat} {v : Value} {ns : List (Int × List Va)} (h : Nl w base v ns) (hg : w.grownBy w' none) : Nl w' base v ns := h.kept hg (by simp)
theorem Nl.vn {w : World} {base : Nat} {A : Option Addr} {n c : Nat} {ns : List (Int × List Va)} (h : Nl w base (.slice A n c) ns) (hn : n = ns.length) : Vn w w.heap.size A n ns := by
  subst hn
  obtain ⟨xs, ho, hx⟩ := h
  refine ⟨rfl, fun i hi => ?_⟩
  obtain ⟨h0, x, h1, h2⟩ := hx i hi
  obtain ⟨B, c', rfl, h3⟩ := h2
  obtain ⟨r1, r2⟩ := Lw.rv ⟨B, c', rfl, h3⟩
  rcases ho.2 with ⟨e, hz⟩ | ⟨g, cap, cur, e, hb, hg, q1, q2, q3, q4⟩
  · omega
  · injection e with e1 e2 e3
    subst e1 e3
    have at_ : ∀ j u, xs[j]? = some u → w.cell? ⟨g, 0 + j, none⟩ = some u := fun j u hj => by
      have hl : j < xs.length := (List.getElem?_eq_some_iff.1 hj).1
      rw [ho.1] at hl
      rw [Nat.zero_add, cell_of_row w g _ _ _ _ hg, ← Array.getElem?_toList, ← hj, ← q4, List.getElem?_take, if_pos hl]
    exact ⟨g, 0, B, _, c', rfl, (Array.getElem?_eq_some_iff.1 hg).1, at_ _ _ h0, at_ _ _ h1, r1, fun ad e => (r2 ad e).1⟩
theorem Nl.size {w : World} {base : Nat} {v : Value} {ns : List (Int × List Va)} (h : Nl w base v ns) : ∃ A c, v = .slice A ns.length c := by
  obtain ⟨xs, ho, hx⟩ := h
  obtain ⟨A, c, e, _⟩ := own_shape ho
  exact ⟨A, c, e⟩
theorem info_node : (Tryd.prog.info? 55).map (fun i => (i.zero, i.size, i.bytes)) = some (some (.agg #[.int .i64 0, .slice none 0 0]), 2, 32) := by kernel_rfl
theorem append_nl {w : World} {ops : Array Oper} {rest : List Oper} {o : Oper} {a : Act} {Q : Exit → Act → World → Prop} (hgd : o.guard = none) (s x : Operand) (ho : o.op = .call { callee := .builtin .append, args := #[s, x], argTypes := #[43, 43] })
    (base : Nat) (v : Value) (ns : List (Int × List Va)) (hs : a.eval s = v) (hN : Nl w base v ns) (b : Nat) (z : Int) (y : Value) (m : List Va) (hx : a.eval x = .slice (some ⟨b, 0, none⟩) 1 1) (hz0 : w.cell? ⟨b, 0, none⟩ = some (.int .i64 z)) (hz : w.cell? ⟨b, 1, none⟩ = some y) (hy : Lw w base y m) (hm : ns.length ≤ 100000) (hbase : base ≤ w.heap.size)
    (h : ∀ v' w', Nl w' base v' (ns ++ [(z, m)]) → w.grownBy w' v.ownBlock → (∀ q, v.ownBlock = some q → base ≤ q) → wpList Tryd.prog ops Q rest (a.put o.dst v') w') : wpList Tryd.prog ops Q (o :: rest) a w := by
  obtain ⟨xs, hown, hxs⟩ := hN
  obtain ⟨i0, hi, iz0, hz1, hz2⟩ := info_parts info_node
  have hfrom : ∀ q, v.ownBlock = some q → base ≤ q := fun q hq => by
    rcases hown.2 with ⟨rfl, _⟩ | ⟨g, cap, cur, rfl, hb, _⟩
    · cases hq
    · injection hq with hq
      subst hq
      exact hb
  refine wpList_append_own w hgd s x 43 ho base 55 i0 (.agg #[.int .i64 0, .slice none 0 0]) 2 32 Tryd.underlying43 hi iz0 hz1 hz2 rfl (by omega) v ns.length xs hs hown ⟨b, 0, none⟩ 1 1 [.int .i64 z, y] hx rfl
    (fun j u hj => ?_) (fun u hu => by simp at hu; rcases hu with rfl | rfl; rfl; exact hy.one) (by unfold maxLen; omega) (by omega) hbase (fun v' w' h1 h2 h3 => ?_)
  · match j, hj with
    | 0, hj => simp at hj; subst hj; simpa [Addr.add] using hz0
    | 1, hj => simp at hj; subst hj; simpa [Addr.add] using hz
  · have tk : ∀ {u : Value} {k : List Va}, Lw w base u k → Lw w' base u k := fun {u k} hu => hu.kept h2 (by
      cases e : v.ownBlock with
      | none => cases e2 : u.ownBlock <;> simp
      | some q =>
        obtain ⟨c1, c2⟩ := own_ty hown q e
        exact .inr (hu.off c2 (fun cs z e => by injection e with _ e _; exact absurd e (by decide))))
    refine h v' w' ⟨xs ++ [.int .i64 z, y], ?_, fun i hi => ?_⟩ h2 hfrom
    · rw [List.length_append]
      exact h1
    · have hl := hown.1
      rw [List.length_append, List.length_singleton] at hi
      by_cases e : i < ns.length
      · obtain ⟨e0, u, e1, e2⟩ := hxs i e
        have eg : (ns ++ [(z, m)]).getD i (0, []) = ns.getD i (0, []) := by rw [List.getD_eq_getElem?_getD, List.getElem?_append_left e, ← List.getD_eq_getElem?_getD]
        rw [eg]
        exact ⟨by rw [List.getElem?_append_left (by omega)]; exact e0, u, by rw [List.getElem?_append_left (by omega)]; exact e1, tk e2⟩
      · obtain rfl : i = ns.length := by omega
        have eg : (ns ++ [(z, m)]).getD ns.length (0, []) = (z, m) := by rw [List.getD_eq_getElem?_getD, List.getElem?_append_right (Nat.le_refl _), Nat.sub_self]; rfl
        rw [eg]
        refine ⟨by rw [← hl, List.getElem?_append_right (Nat.le_refl _), Nat.sub_self]; rfl, y, by rw [← hl, List.getElem?_append_right (by omega)]; simp, tk hy⟩
end Go.Proofs.YtfhebjkoojodiaaDoor.gq
