/- Joined: RnA, TgE, TgF, TgG. -/
import Derived.Test.YtfloleflcoiidaaGreatDoorGnQ
import Derived.Laws.AppendOwn
import Derived.Laws.CopyOwn
import Derived.Laws.MakeOwn
import Derived.Test.YtfloleflcoiidaaGreatDoorShX
/- Lists of entries (an address and a field each) in memory: those of the call's own, those that are read; an append onto them; two of them held against each other. -/
namespace Go.Proofs.YtfloleflcoiidaaGreatDoor.rn
open Go.ChangeShapes Go.WideShapes Go.ChangeAt Go.RowKit gen li
set_option linter.unusedVariables false
set_option maxHeartbeats 4000000
set_option maxRecDepth 100000

/-- A value: its kind and its number. -/
abbrev Va := Int × Int
/-- A list's cells. -/
def vc (m : List Va) : List Value := m.flatMap fun x => [.int .i64 x.1, .int .i64 x.2]
theorem vc_cons (x : Va) (m : List Va) : vc (x :: m) = .int .i64 x.1 :: .int .i64 x.2 :: vc m := rfl
theorem vc_append (m l : List Va) : vc (m ++ l) = vc m ++ vc l := by simp [vc]
theorem vc_add (m : List Va) (x : Va) : vc (m ++ [x]) = vc m ++ [.int .i64 x.1, .int .i64 x.2] := by simp [vc]
theorem vc_length : ∀ m : List Va, (vc m).length = 2 * m.length
  | [] => rfl
  | x :: m => by rw [vc_cons, List.length_cons, List.length_cons, vc_length m, List.length_cons]; omega
theorem vc_at : ∀ (m : List Va) (i : Nat), i < m.length → (vc m)[2 * i]? = some (.int .i64 (m.getD i (0, 0)).1) ∧ (vc m)[2 * i + 1]? = some (.int .i64 (m.getD i (0, 0)).2)
  | [], i, h => by simp at h
  | x :: m, 0, _ => ⟨rfl, rfl⟩
  | x :: m, i + 1, h => by
    have h1 := vc_at m i (by simpa using h)
    rw [vc_cons, show 2 * (i + 1) = 2 * i + 1 + 1 by omega]
    refine ⟨?_, ?_⟩
    · rw [List.getElem?_cons_succ, List.getElem?_cons_succ]; simpa using h1.1
    · rw [List.getElem?_cons_succ, List.getElem?_cons_succ]; simpa using h1.2
theorem vc_take : ∀ (m : List Va) (k : Nat), (vc m).take (2 * k) = vc (m.take k)
  | [], k => by simp [vc]
  | x :: m, 0 => rfl
  | x :: m, k + 1 => by
    rw [vc_cons, show 2 * (k + 1) = 2 * k + 1 + 1 by omega, List.take_succ_cons, List.take_succ_cons, vc_take m k, List.take_succ_cons, vc_cons]
theorem vc_one (m : List Va) : ∀ v ∈ vc m, v.oneCell' = true := by
  intro v hv
  obtain ⟨x, _, hx⟩ := List.mem_flatMap.1 hv
  simp at hx
  rcases hx with rfl | rfl <;> rfl
theorem getD_mem {m : List Va} {i : Nat} (hi : i < m.length) : m.getD i (0, 0) ∈ m := by
  rw [List.getD_eq_getElem?_getD, List.getElem?_eq_getElem hi]
  exact List.getElem_mem hi
theorem take_more {m : List Va} {i : Nat} (hi : i < m.length) : m.take (i + 1) = m.take i ++ [m.getD i (0, 0)] := by
  rw [List.take_add_one, List.getD_eq_getElem?_getD, List.getElem?_eq_getElem hi]
  rfl

/-- The slice '.slice A n c' holds the values m, below block B. -/
def Rv (w : World) (B : Nat) (A : Option Addr) (n c : Nat) (m : List Va) : Prop :=
  m.length = n ∧ n ≤ c ∧ c ≤ maxLen ∧ ∀ i, i < n → ∃ b off, A = some ⟨b, off, none⟩ ∧ b < B ∧ w.cell? ⟨b, off + i * 2, none⟩ = some (.int .i64 (m.getD i (0, 0)).1) ∧ w.cell? ⟨b, off + i * 2 + 1, none⟩ = some (.int .i64 (m.getD i (0, 0)).2)
theorem Rv.at_ {w : World} {B n c i : Nat} {A : Option Addr} {m : List Va} (h : Rv w B A n c m) (hi : i < n) :
    ∃ b off, A = some ⟨b, off, none⟩ ∧ w.cell? ⟨b, off + i * 2, none⟩ = some (.int .i64 (m.getD i (0, 0)).1) ∧ w.cell? ⟨b, off + i * 2 + 1, none⟩ = some (.int .i64 (m.getD i (0, 0)).2) := by
  obtain ⟨b, off, e, _, h1, h2⟩ := h.2.2.2 i hi
  exact ⟨b, off, e, h1, h2⟩
theorem Rv.kept {w w' : World} {B n c : Nat} {A : Option Addr} {m : List Va} {row : Option Nat} (h : Rv w B A n c m) (hg : w.grownBy w' row) (hr : ∀ ad, A = some ad → 0 < n → some ad.block ≠ row) : Rv w' B A n c m := by
  refine ⟨h.1, h.2.1, h.2.2.1, fun i hi => ?_⟩
  obtain ⟨b, off, e, hb, h1, h2⟩ := h.2.2.2 i hi
  have := hr _ e (by omega)
  exact ⟨b, off, e, hb, hg.cell h1 this, hg.cell h2 this⟩
theorem Rv.made {w w' : World} {B n c : Nat} {A : Option Addr} {m : List Va} (h : Rv w B A n c m) (hg : w.grownBy w' none) : Rv w' B A n c m := h.kept hg (by simp)
theorem Rv.nil (w : World) (B : Nat) : Rv w B none 0 0 [] := ⟨rfl, Nat.le_refl _, by unfold maxLen; omega, fun i hi => by omega⟩
theorem Rv.less {w : World} {B n c k c' : Nat} {A : Option Addr} {m : List Va} (h : Rv w B A n c m) (hk : k ≤ n) (h1 : k ≤ c') (h2 : c' ≤ maxLen) : Rv w B A k c' (m.take k) := by
  refine ⟨by rw [List.length_take, h.1]; omega, h1, h2, fun i hi => ?_⟩
  obtain ⟨b, off, e, hb, c1, c2⟩ := h.2.2.2 i (by omega)
  have e2 : (m.take k).getD i (0, 0) = m.getD i (0, 0) := by simp [List.getD_eq_getElem?_getD, hi]
  exact ⟨b, off, e, hb, by rw [e2]; exact c1, by rw [e2]; exact c2⟩
theorem Rv.cells {w : World} {B n c : Nat} {A : Option Addr} {m : List Va} (h : Rv w B A n c m) : ∀ ad, A = some ad → ∀ j u, (vc m)[j]? = some u → w.cell? (ad.add j) = some u := by
  intro ad e j u hu
  have hj : j < 2 * m.length := by have := (List.getElem?_eq_some_iff.mp hu).1; rwa [vc_length] at this
  obtain ⟨b, off, e2, _, c1, c2⟩ := h.2.2.2 (j / 2) (by have := h.1; omega)
  obtain ⟨a1, a2⟩ := vc_at m (j / 2) (by omega)
  rw [e] at e2
  injection e2 with e2
  subst e2
  rw [Addr.add_lit]
  rcases Nat.mod_two_eq_zero_or_one j with h0 | h0
  · rw [show 2 * (j / 2) = j by omega, hu] at a1
    rw [show off + j = off + j / 2 * 2 by omega, c1, a1]
  · rw [show 2 * (j / 2) + 1 = j by omega, hu] at a2
    rw [show off + j = off + j / 2 * 2 + 1 by omega, c2, a2]
/-- A list of the call's own. -/
def Lv (w : World) (base : Nat) (v : Value) (m : List Va) : Prop := w.ownsRow base 201 2 v m.length (vc m)
section
variable {w w' : World} {base : Nat} {v : Value} {m : List Va}
theorem Lv.nil (w : World) (base : Nat) : Lv w base (.slice none 0 0) [] := World.ownsRow_nil _ _ _ _
theorem Lv.mono {base' : Nat} (h : Lv w base v m) (hb : base' ≤ base) : Lv w base' v m := by
  refine ⟨h.1, ?_⟩
  rcases h.2 with hn | ⟨g, cap, cur, hv, hbg, rest⟩
  · exact .inl hn
  · exact .inr ⟨g, cap, cur, hv, Nat.le_trans hb hbg, rest⟩
theorem Lv.kept {row : Option Nat} (h : Lv w base v m) (hg : w.grownBy w' row) (hr : v.ownBlock = none ∨ v.ownBlock ≠ row) : Lv w' base v m := World.ownsRow.kept h hg hr
theorem Lv.new (h : Lv w base v m) (hg : w.grownBy w' none) : Lv w' base v m := h.kept hg (by cases v.ownBlock <;> simp)
theorem Lv.off {k : Nat} {o : Obj} (h : Lv w base v m) (hk : w.heap[k]? = some o) (hn : ∀ cs z, o ≠ .cells cs 201 z) : v.ownBlock ≠ some k := fun e => by
  rcases h.2 with ⟨rfl, _⟩ | ⟨g, cap, cur, rfl, _, hg, _⟩
  · cases e
  · injection e with e
    subst e
    rw [hg] at hk
    injection hk with hk
    exact hn _ _ hk.symm
theorem Lv.from_ (h : Lv w base v m) : ∀ k, v.ownBlock = some k → base ≤ k := fun k e => by
  rcases h.2 with ⟨rfl, _⟩ | ⟨g, cap, cur, rfl, hb, hg, _⟩
  · cases e
  · injection e with e
    subst e
    exact hb
theorem Lv.lt (h : Lv w base v m) : ∀ k, v.ownBlock = some k → k < w.heap.size := fun k e => by
  rcases h.2 with ⟨rfl, _⟩ | ⟨g, cap, cur, rfl, hb, hg, _⟩
  · cases e
  · injection e with e
    subst e
    exact (Array.getElem?_eq_some_iff.1 hg).1
theorem Lv.shape (h : Lv w base v m) : ∃ A N k, v = .slice A N k ∧ N = m.length ∧ N ≤ k ∧ k ≤ maxLen := by
  rcases h.2 with ⟨rfl, hz⟩ | ⟨g, cap, cur, rfl, _, _, h1, h2, _⟩
  · exact ⟨none, 0, 0, rfl, hz.symm, Nat.le_refl _, by unfold maxLen; omega⟩
  · exact ⟨_, _, _, rfl, rfl, h1, h2⟩
theorem Lv.rv {A : Option Addr} {N k : Nat} (h : Lv w base (.slice A N k) m) (hN : N = m.length) : Rv w w.heap.size A N k m := by
  subst hN
  rcases h.2 with ⟨e, hz⟩ | ⟨g, cap, cur, e, _, hg, h1, h2, h3, h4⟩
  · obtain ⟨rfl, hN, rfl⟩ : A = none ∧ m.length = 0 ∧ k = 0 := by simpa using e
    exact ⟨rfl, by omega, by unfold maxLen; omega, fun i hi => by omega⟩
  · obtain ⟨rfl, rfl⟩ : A = some ⟨g, 0, none⟩ ∧ k = cap := by simpa using e
    refine ⟨rfl, h1, h2, fun i hi => ⟨g, 0, rfl, (Array.getElem?_eq_some_iff.1 hg).1, ?_⟩⟩
    have hc : ∀ j u, (vc m)[j]? = some u → w.cell? ⟨g, 0 + j, none⟩ = some u := fun j u hj => by
      rw [← h4, List.getElem?_take] at hj
      split at hj
      · simp [World.cell?, hg]
        simpa using hj
      · cases hj
    have h5 := vc_at m i hi
    refine ⟨?_, ?_⟩
    · have := hc _ _ h5.1; rwa [show 0 + 2 * i = 0 + i * 2 by omega] at this
    · have := hc _ _ h5.2; rwa [show 0 + (2 * i + 1) = 0 + i * 2 + 1 by omega] at this
/-- The first j of them. -/
theorem Lv.take {A : Option Addr} {N k j : Nat} (h : Lv w base (.slice A N k) m) (hN : N = m.length) (hj : j ≤ N) : Lv w base (.slice A j k) (m.take j) := by
  subst hN
  have hl : (m.take j).length = j := by rw [List.length_take]; omega
  refine ⟨by rw [vc_length, hl]; omega, ?_⟩
  rw [hl]
  rcases h.2 with ⟨e, hz⟩ | ⟨g, cap, cur, e, hb, hg, h1, h2, h3, h4⟩
  · obtain ⟨rfl, hN, rfl⟩ : A = none ∧ m.length = 0 ∧ k = 0 := by simpa using e
    obtain rfl : j = 0 := by omega
    exact .inl ⟨rfl, rfl⟩
  · obtain ⟨rfl, rfl⟩ : A = some ⟨g, 0, none⟩ ∧ k = cap := by simpa using e
    refine .inr ⟨g, k, cur, rfl, hb, hg, by omega, h2, h3, ?_⟩
    rw [← vc_take, ← h4, List.take_take]
    congr 1
    omega
end
theorem info_va : (Tryz.prog.info? 201).map (fun i => (i.zero, i.size, i.bytes)) = some (some (.agg #[.int .i64 0, .int .i64 0]), 2, 16) := by kernel_rfl
/-- Values appended to a list of one's own. -/
theorem append_vas {w : World} {ops : Array Oper} {rest : List Oper} {o : Oper} {a : Act} {Q : Exit → Act → World → Prop} (hgd : o.guard = none) (s x : Operand) (ho : o.op = .call { callee := .builtin .append, args := #[s, x], argTypes := #[67, 67] })
    (base : Nat) (v : Value) (m : List Va) (hs : a.eval s = v) (hown : Lv w base v m) (A : Option Addr) (n c B : Nat) (l : List Va) (hx : a.eval x = .slice A n c) (hA : A = none → n = 0 ∧ c = 0)
    (hr : Rv w B A n c l) (hm : m.length + n ≤ 1048576) (hbase : base ≤ w.heap.size)
    (h : ∀ A' N' c' w', N' = (m ++ l).length → Lv w' base (.slice A' N' c') (m ++ l) → w.grownBy w' v.ownBlock → wpList Tryz.prog ops Q rest (a.put o.dst (.slice A' N' c')) w') : wpList Tryz.prog ops Q (o :: rest) a w := by
  obtain ⟨i0, hi, hz0, hz1, hz2⟩ := info_parts info_va
  have hn := hr.1
  cases A with
  | none =>
    obtain ⟨rfl, rfl⟩ := hA rfl
    have : l = [] := List.eq_nil_of_length_eq_zero hr.1
    subst this
    rw [List.append_nil] at h
    refine wpList_append_own_none hgd s x 67 ho base 201 i0 2 Tryz.underlying67 hi v m.length (vc m) hs hown hx ?_
    obtain ⟨A', N', c', rfl, hN, _, _⟩ := hown.shape
    exact h A' N' c' w hN hown (World.grownBy.refl _ _)
  | some ad =>
    refine wpList_append_own w hgd s x 67 ho base 201 i0 (.agg #[.int .i64 0, .int .i64 0]) 2 16 Tryz.underlying67 hi hz0 hz1 hz2 rfl (by omega) v m.length (vc m) hs hown ad n c (vc l) hx (by rw [vc_length, hn]; omega)
      (hr.cells ad rfl) (vc_one l) (by unfold maxLen; omega) (by omega) hbase (fun v' w' h3 h4 h5 => ?_)
    rw [← vc_append] at h3
    have h3' : Lv w' base v' (m ++ l) := by
      unfold Lv
      rw [List.length_append, hn]
      exact h3
    obtain ⟨A', N', c', rfl, hN, _, _⟩ := h3'.shape
    exact h A' N' c' w' hN h3' h4
theorem Rv.one {w : World} {b : Nat} {y1 y2 : Int} (h0 : w.cell? ⟨b, 0, none⟩ = some (.int .i64 y1)) (h1 : w.cell? ⟨b, 1, none⟩ = some (.int .i64 y2)) : Rv w w.heap.size (some ⟨b, 0, none⟩) 1 1 [(y1, y2)] := by
  refine ⟨rfl, Nat.le_refl _, by unfold maxLen; omega, fun i hi => ⟨b, 0, rfl, World.block_lt_of_cell? _ _ h0, ?_⟩⟩
  obtain rfl : i = 0 := by omega
  exact ⟨h0, h1⟩
/-! ### Made and copied -/
theorem madeCells_two (n : Nat) : madeCells #[.int .i64 0, .int .i64 0] (n * 2) = (vc (List.replicate n (0, 0))).toArray := by
  apply Array.ext'
  apply List.ext_getElem?
  intro i
  have h0 : ∀ k, k < n * 2 → (madeCells #[.int .i64 0, .int .i64 0] (n * 2)).toList[k]? = some (.int .i64 0) := fun k hk => by
    unfold madeCells
    have : k % 2 = 0 ∨ k % 2 = 1 := by omega
    rcases this with h | h <;> simp [hk, h]
  by_cases hi : i < n * 2
  · rw [h0 i hi]
    obtain ⟨a1, a2⟩ := vc_at (List.replicate n (0, 0)) (i / 2) (by simp; omega)
    have e : (List.replicate n ((0, 0) : Va)).getD (i / 2) (0, 0) = (0, 0) := by rw [List.getD_eq_getElem?_getD, List.getElem?_replicate]; split <;> rfl
    rw [e] at a1 a2
    rcases Nat.mod_two_eq_zero_or_one i with h | h
    · rw [show 2 * (i / 2) = i by omega] at a1
      simpa using a1.symm
    · rw [show 2 * (i / 2) + 1 = i by omega] at a2
      simpa using a2.symm
  · rw [List.getElem?_eq_none (by simp [size_madeCells]; omega), List.getElem?_eq_none (by simp [vc_length]; omega)]
theorem make_vas (n : Nat) (hn : n ≤ 65536) (w : World) :
    (Instr.makeSlice 67 (.int .i64 (n : Int)) (.int .i64 (n : Int))).run Tryz.prog w = .ok (.slice (some ⟨w.heap.size, 0, none⟩) n n) (w.alloc (.cells (vc (List.replicate n (0, 0))).toArray 201)) := by
  obtain ⟨i0, hi, hz0, hz1, hz2⟩ := info_parts info_va
  have h := run_make (P := Tryz.prog) w 67 201 i0 _ Tryz.underlying67 hi hz0 .i64 .i64 n n (by omega) (Int.le_refl _) (by rw [hz2]; omega) (by omega)
  rw [h]
  simp only [Int.toNat_natCast, hz1]
  rw [← madeCells_two]
  rfl
/-- copy(dst, src) of elements of s cells, dst in a row that is known whole. -/
theorem run_copy_wide {P : Program} (w : World) (dT sT ty elem : TypeId) (s g o dLen dCap : Nat) (a : Addr) (sLen sCap : Nat) (cur : Array Value) (t : TypeId) (cs : List Value) (n : Nat)
    (hu : P.underlying dT = some (.slice elem)) (hs : (P.info? elem).map (·.size) = some s)
    (hg : w.heap[g]? = some (.cells cur t (0, 0))) (hmin : Nat.min sLen dLen = n) (hn : cs.length = n * s)
    (hsrc : ∀ j v, cs[j]? = some v → w.cell? (a.add j) = some v) (hfit : o + cs.length ≤ cur.size) (h1 : ∀ v ∈ cs, v.oneCell' = true) :
    (Builtin.copy_ #[dT, sT] ty #[.slice (some ⟨g, o, none⟩) dLen dCap, .slice (some a) sLen sCap]).run P w =
      .ok (goInt n) (w.setRow g (cur.toList.take o ++ cs ++ cur.toList.drop (o + cs.length)).toArray) := by
  have hl := run_loadCells_list (P := P) w a cs hsrc
  have hst := run_storeCells_at P g o t cs 0 cur w hg (by simpa using hfit) h1
  rw [hn] at hl
  cases hq : P.info? elem with
  | none => simp [hq] at hs
  | some i =>
    have hi : i.size = s := by simpa [hq] using hs
    simp [Builtin.copy_, run_underlying hu, Builtin.lenOf, Builtin.firstCells, sizeOf, typeInfo, hq, hi, hmin, hl, hst]
/-- A whole row of one's own filled from another list. -/
theorem wpList_copy_vas {w : World} {ops : Array Oper} {rest : List Oper} {o : Oper} {a : Act} {Q : Exit → Act → World → Prop} (hgd : o.guard = none) (d s : Operand)
    (ho : o.op = .call { callee := .builtin .copy, args := #[d, s], argTypes := #[67, 67] })
    (g n c : Nat) (ad : Addr) (m l : List Va) (hd : a.eval d = .slice (some ⟨g, 0, none⟩) n n) (hs : a.eval s = .slice (some ad) n c) {B : Nat} (hr : Rv w B (some ad) n c m)
    (hg : w.heap[g]? = some (.cells (vc l).toArray 201 (0, 0))) (hl : l.length = n)
    (h : ∀ w', w'.heap[g]? = some (.cells (vc m).toArray 201 (0, 0)) → w.grownBy w' (some g) → wpList Tryz.prog ops Q rest (a.put o.dst (goInt n)) w') :
    wpList Tryz.prog ops Q (o :: rest) a w := by
  have hrun : ∀ ty, _ := fun ty => run_copy_wide (P := Tryz.prog) w 67 67 ty 201 2 g 0 n n ad n c (vc l).toArray 201 (vc m) n Tryz.underlying67 (by kernel_rfl) hg (Nat.min_self n) (by rw [vc_length, hr.1]; omega)
    (hr.cells ad rfl) (by simp [vc_length, hl, hr.1]) (vc_one m)
  have e : (vc l).toArray.toList.take 0 ++ vc m ++ (vc l).toArray.toList.drop (0 + (vc m).length) = vc m := by
    have : ((vc l).toArray.toList.drop (0 + (vc m).length)) = [] := List.drop_eq_nil_of_le (by simp [vc_length, hl, hr.1])
    rw [this]
    simp
  rw [e] at hrun
  refine wpList_plain hgd fun _ hK => ?_
  unfold Oper.wp
  simp [execOp, ho, resolve, invoke, builtin, hd, hs, hrun, Result.andThen]
  exact hK _ _ (h _ (setRow_heap w g _ _ _ _ hg) ⟨rfl, rfl, rfl, by simp [World.setRow], fun k _ hk => setRow_other w g k _ (fun e => hk (by simp [e]))⟩)
/-- The same where the other list is nil. -/
theorem wpList_copy_none {w : World} {ops : Array Oper} {rest : List Oper} {o : Oper} {a : Act} {Q : Exit → Act → World → Prop} (hgd : o.guard = none) (d s : Operand)
    (ho : o.op = .call { callee := .builtin .copy, args := #[d, s], argTypes := #[67, 67] })
    (ad : Addr) (n c : Nat) (hd : a.eval d = .slice (some ad) n c) (hs : a.eval s = .slice none 0 0)
    (h : wpList Tryz.prog ops Q rest (a.put o.dst (goInt 0)) w) : wpList Tryz.prog ops Q (o :: rest) a w := by
  have hrun : ∀ ty, _ := fun ty => run_copy_nil (P := Tryz.prog) w 67 67 ty 201 ad n c Tryz.underlying67 (by kernel_rfl)
  refine wpList_plain hgd fun _ hK => ?_
  unfold Oper.wp
  simp [execOp, ho, resolve, invoke, builtin, hd, hs, hrun, Result.andThen]
  exact hK _ _ h
/-- A row that is whole, as a list of one's own. -/
theorem Lv.whole {w : World} {g base : Nat} {m : List Va} (h : w.heap[g]? = some (.cells (vc m).toArray 201 (0, 0))) (hb : base ≤ g) (hm : m.length ≤ maxLen) : Lv w base (.slice (some ⟨g, 0, none⟩) m.length m.length) m :=
  ⟨by rw [vc_length]; omega, .inr ⟨g, _, _, rfl, hb, h, Nat.le_refl _, hm, by simp [vc_length]; omega, by simpa using List.take_of_length_le (by rw [vc_length]; omega)⟩⟩
/-- A list of values that was made. -/
def VasAns (m : List Va) (w : World) (e : Ending) (w' : World) : Prop := ∃ A c, e = .returned (.slice A m.length c) ∧ Lv w' w.heap.size (.slice A m.length c) m ∧ w.grownBy w' none
end Go.Proofs.YtfloleflcoiidaaGreatDoor.rn

/- The plain grey of the statement in memory: 2048 marks, a list, a room, a note, a page. -/
namespace Go.Proofs.YtfloleflcoiidaaGreatDoor.sh
open Go.ChangeShapes Go.WideShapes Go.ChangeAt Go.RowKit gen li en gr
set_option linter.unusedVariables false
set_option maxHeartbeats 4000000
set_option maxRecDepth 100000
variable {pp : Int}
/-- Marks as cells. -/
def marks (ws : List Nat) : List Value := (List.range 2048).map fun i => .bool (bm.bit ws i)
theorem marks_len (ws : List Nat) : (marks ws).length = 2048 := by simp [marks]
theorem marks_at (ws : List Nat) {i : Nat} (hi : i < 2048) : (marks ws)[i]? = some (.bool (bm.bit ws i)) := by simp [marks, hi]
theorem marks_set {ws ws' : List Nat} {i : Nat} {b : Bool} (h : ∀ j, bm.bit ws' j = if j = i then b else bm.bit ws j) : (marks ws).set i (.bool b) = marks ws' := by
  apply List.ext_getElem?
  intro j
  rw [List.getElem?_set]
  by_cases hj : j < 2048
  · rw [marks_at ws' hj, marks_at ws hj, h j]
    by_cases e : i = j
    · subst e
      rw [if_pos rfl, if_pos (by rw [marks_len]; exact hj), if_pos rfl]
    · rw [if_neg e, if_neg (fun h => e h.symm)]
  · rw [List.getElem?_eq_none (l := marks ws') (by rw [marks_len]; omega), List.getElem?_eq_none (l := marks ws) (by rw [marks_len]; omega), marks_len]
    by_cases e : i = j
    · rw [if_pos e, if_neg (by omega)]
    · rw [if_neg e]
theorem marks_put {ws : List Nat} {i : Nat} (hf : bm.Fine 2048 ws) (hi : i < 2048) : (marks ws).set i (.bool true) = marks (bm.put ws i) :=
  marks_set (fun j => by
    rw [bm.bit_put ws i j (by rw [hf.1]; omega)]
    by_cases e : j = i <;> simp [e])
theorem marks_cut {ws : List Nat} {i : Nat} (hf : bm.Fine 2048 ws) (hi : i < 2048) : (marks ws).set i (.bool false) = marks (bm.cut ws i) :=
  marks_set (fun j => by
    rw [bm.bit_cut ws i j (by rw [hf.1]; omega)]
    by_cases e : j = i <;> simp [e])
theorem marks_zeros : marks bm.zeros = List.replicate 2048 (.bool false) := by
  apply List.ext_getElem?
  intro j
  by_cases hj : j < 2048
  · rw [marks_at _ hj, List.getElem?_replicate, if_pos hj, bm.bit_zeros]
  · rw [List.getElem?_eq_none (by rw [marks_len]; omega), List.getElem?_replicate, if_neg hj]
/-- All its cells. -/
def rcs (pp : Int) (ws : List Nat) (v : Value) (r : Nat) (b : Bool) : Array Value := (marks ws ++ [v, .int .i64 r, .bool b, .int .i64 pp]).toArray
/-- The plain grey at M: its list lies in v. -/
structure Bo (pp : Int) (w : World) (M r : Nat) (v : Value) (s : Ps) : Prop where
  ob : w.heap[M]? = some (.cells (rcs pp s.ws v r s.b) 69 (0, 0))
  li : rn.Lv w 0 v s.m
  hi : r ≤ 256
  fit : s.m.length ≤ r
  fi : bm.Fine 2048 s.ws
def js (M : Nat) (v : Value) : List Nat := M :: v.ownBlock.toList
theorem js_of {M q : Nat} {v : Value} : q ∈ js M v ↔ q = M ∨ v.ownBlock = some q := by
  unfold js
  rw [List.mem_cons]
  cases v.ownBlock <;> simp [eq_comm]
/-- The same, in the blocks J. -/
def Bk (pp : Int) (w : World) (J : List Nat) (M r : Nat) (s : Ps) : Prop := ∃ v, Bo pp w M r v s ∧ J = js M v
theorem rcs_at {ws : List Nat} {v : Value} {r : Nat} {b : Bool} {i : Nat} (hi : i < 2048) : (rcs pp ws v r b)[i]? = some (.bool (bm.bit ws i)) := by
  unfold rcs
  rw [List.getElem?_toArray, List.getElem?_append_left (by rw [marks_len]; exact hi), marks_at ws hi]
theorem rcs_end {ws : List Nat} {v : Value} {r : Nat} {b : Bool} (j : Nat) : (rcs pp ws v r b)[2048 + j]? = [v, .int .i64 r, .bool b, .int .i64 pp][j]? := by
  unfold rcs
  rw [List.getElem?_toArray, List.getElem?_append_right (by rw [marks_len]; omega), marks_len, Nat.add_sub_cancel_left]
theorem rcs_mark {ws ws' : List Nat} {v u : Value} {r : Nat} {b : Bool} {i : Nat} (hi : i < 2048) (h : (marks ws).set i u = marks ws') : (rcs pp ws v r b).setIfInBounds i u = rcs pp ws' v r b := by
  unfold rcs
  rw [List.setIfInBounds_toArray, List.set_append_left _ _ (by rw [marks_len]; exact hi), h]
theorem rcs_set {ws : List Nat} {v : Value} {r : Nat} {b : Bool} (j : Nat) (u : Value) : (rcs pp ws v r b).setIfInBounds (2048 + j) u = (marks ws ++ [v, .int .i64 r, .bool b, .int .i64 pp].set j u).toArray := by
  unfold rcs
  rw [List.setIfInBounds_toArray, List.set_append_right _ _ (by rw [marks_len]; omega), marks_len, Nat.add_sub_cancel_left]
section
variable {w w' W : World} {M r B : Nat} {J L : List Nat} {s : Ps} {v v' : Value} {m : List Va} {ws : List Nat}
theorem Bo.lt (h : Bo pp w M r v s) : M < w.heap.size := (Array.getElem?_eq_some_iff.1 h.ob).1
theorem Bo.mark (h : Bo pp w M r v s) {i : Nat} (hi : i < 2048) : w.cell? ⟨M, i, none⟩ = some (.bool (bm.bit s.ws i)) := by rw [cell_of_row w M i _ _ _ h.ob]; exact rcs_at hi
theorem Bo.c0 (h : Bo pp w M r v s) : w.cell? ⟨M, 2048, none⟩ = some v := by rw [cell_of_row w M 2048 _ _ _ h.ob]; exact rcs_end 0
theorem Bo.c1 (h : Bo pp w M r v s) : w.cell? ⟨M, 2049, none⟩ = some (.int .i64 r) := by rw [cell_of_row w M 2049 _ _ _ h.ob]; exact rcs_end 1
theorem Bo.c2 (h : Bo pp w M r v s) : w.cell? ⟨M, 2050, none⟩ = some (.bool s.b) := by rw [cell_of_row w M 2050 _ _ _ h.ob]; exact rcs_end 2
theorem Bo.free (h : Bo pp w M r v s) (k : Nat) : w.frozen? ⟨M, k, none⟩ = false := frozen_of_row w M k _ _ h.ob
theorem Bo.off (h : Bo pp w M r v s) : v.ownBlock ≠ some M := h.li.off h.ob (fun cs z => by simp)
theorem Bo.gr (h : Bo pp w M r v s) (hg : Gr L w w') (h1 : M ∉ L) (h2 : ∀ q, v.ownBlock = some q → q ∉ L) : Bo pp w' M r v s := ⟨hg.heap h.ob h1, own_gr_any h.li hg h2, h.hi, h.fit, h.fi⟩
theorem Bo.new (h : Bo pp w M r v s) (hg : w.grownBy w' none) : Bo pp w' M r v s := h.gr (Gr.new (L := []) hg) (by simp) (by simp)
theorem Bk.gr (h : Bk pp w J M r s) (hg : Gr L w w') (hL : ∀ q, q ∈ J → q ∉ L) : Bk pp w' J M r s := by
  obtain ⟨v, h, rfl⟩ := h
  exact ⟨v, h.gr hg (hL M (js_of.2 (.inl rfl))) (fun q e => hL q (js_of.2 (.inr e))), rfl⟩
theorem Bk.new (h : Bk pp w J M r s) (hg : w.grownBy w' none) : Bk pp w' J M r s := h.gr (Gr.new (L := []) hg) (by simp)
theorem Bk.lt (h : Bk pp w J M r s) : ∀ q, q ∈ J → q < w.heap.size := fun q hq => by
  obtain ⟨v, h, rfl⟩ := h
  rcases js_of.1 hq with rfl | e
  · exact h.lt
  · exact h.li.lt q e
/-- What is of another type is none of its blocks. -/
theorem Bk.off (h : Bk pp w J M r s) {cs : Array Value} {t : TypeId} {z : Nat × Nat} (hb : w.heap[B]? = some (.cells cs t z)) (h1 : t ≠ 69) (h2 : t ≠ 201) : B ∉ J := fun hB => by
  obtain ⟨v, h, rfl⟩ := h
  rcases js_of.1 hB with rfl | e
  · exact ty_ne hb h.ob h1 rfl
  · exact h.li.off hb (fun cs z e => by injection e with _ e _; exact h2 e) e
/-- A mark, the note, the list are another one. -/
theorem Bo.put_mark (h : Bo pp w M r v s) {i : Nat} (hi : i < 2048) {b : Bool} (hm : (marks s.ws).set i (.bool b) = marks ws) (hf : bm.Fine 2048 ws) : Bo pp (w.setCell ⟨M, i, none⟩ (.bool b)) M r v ⟨ws, s.m, s.b⟩ ∧ Gr (js M v) w (w.setCell ⟨M, i, none⟩ (.bool b)) := by
  have G := grown_set w M i (.bool b)
  refine ⟨⟨?_, h.li.kept G (.inr h.off), h.hi, h.fit, hf⟩, Gr.one G (js_of.2 (.inl rfl))⟩
  rw [heap_setCell_same w M i _ _ (.bool b) h.ob]
  dsimp only
  rw [← rcs_mark hi hm]
theorem Bo.put_over (h : Bo pp w M r v s) (b : Bool) : Bo pp (w.setCell ⟨M, 2050, none⟩ (.bool b)) M r v ⟨s.ws, s.m, b⟩ ∧ Gr (js M v) w (w.setCell ⟨M, 2050, none⟩ (.bool b)) := by
  have G := grown_set w M 2050 (.bool b)
  refine ⟨⟨?_, h.li.kept G (.inr h.off), h.hi, h.fit, h.fi⟩, Gr.one G (js_of.2 (.inl rfl))⟩
  rw [heap_setCell_same w M 2050 _ _ (.bool b) h.ob]
  have := rcs_set (pp := pp) (ws := s.ws) (v := v) (r := r) (b := s.b) 2 (.bool b)
  rw [this]
  rfl
theorem Bo.put_list (h : Bo pp w M r v s) (hg : w.grownBy W v.ownBlock) (hl : rn.Lv W 0 v' m) (hv : ∀ q, v'.ownBlock = some q → v.ownBlock = some q ∨ w.heap.size ≤ q) (hm : m.length ≤ r) :
    Bo pp (W.setCell ⟨M, 2048, none⟩ v') M r v' ⟨s.ws, m, s.b⟩ ∧ (∀ q, q ∈ js M v' → q ∈ js M v ∨ w.heap.size ≤ q) ∧ Gr (js M v) w (W.setCell ⟨M, 2048, none⟩ v') := by
  have G := grown_set W M 2048 v'
  have hb := (hg.block M h.lt (Ne.symm h.off)).trans h.ob
  refine ⟨⟨?_, hl.kept G (.inr (hl.off hb (fun cs z => by simp))), h.hi, hm, h.fi⟩, fun q hq => ?_, (Gr.of hg (fun q e => js_of.2 (.inr e))).trans (Gr.one G (js_of.2 (.inl rfl)))⟩
  · rw [heap_setCell_same W M 2048 _ _ v' hb]
    have := rcs_set (pp := pp) (ws := s.ws) (v := v) (r := r) (b := s.b) 0 v'
    rw [this]
    rfl
  · rcases js_of.1 hq with rfl | e
    · exact .inl (js_of.2 (.inl rfl))
    · exact (hv q e).imp (fun e => js_of.2 (.inr e)) id
end
end Go.Proofs.YtfloleflcoiidaaGreatDoor.sh

/- The plain grey's calls: New, Push, Pop, Black, Shade. -/
namespace Go.Proofs.YtfloleflcoiidaaGreatDoor.sh
open Go.ChangeShapes Go.WideShapes Go.ChangeAt Go.RowKit gen li en gr
set_option linter.unusedVariables false
set_option maxHeartbeats 4000000
set_option maxRecDepth 100000
variable {pp : Int}
/-- An entry appended to a list of one's own, at a step of a region that draws its order. -/
theorem step_append_rn {w : World} {ops : Array Oper} {o : Oper} {a : Act} {K : Act → World → Prop} {Q : Exit → Act → World → Prop} {E : Prop} (hgd : o.guard = none) (s x : Operand) (ho : o.op = .call { callee := .builtin .append, args := #[s, x], argTypes := #[67, 67] })
    (base : Nat) (v : Value) (m : List Va) (hs : a.eval s = v) (hown : rn.Lv w base v m) (b : Nat) (z1 z2 : Int) (hx : a.eval x = .slice (some ⟨b, 0, none⟩) 1 1)
    (hz1' : w.cell? ⟨b, 0, none⟩ = some (.int .i64 z1)) (hz2' : w.cell? ⟨b, 1, none⟩ = some (.int .i64 z2)) (hm : m.length ≤ 1048576) (hbase : base ≤ w.heap.size)
    (h : ∀ g N' c' w', N' = (m ++ [(z1, z2)]).length → rn.Lv w' base (.slice (some ⟨g, 0, none⟩) N' c') (m ++ [(z1, z2)]) → w.grownBy w' v.ownBlock → (v.ownBlock = some g ∨ w.heap.size ≤ g) → K (a.put o.dst (.slice (some ⟨g, 0, none⟩) N' c')) w') :
    if Region.wanted o (yielded ops a.tmps) = true then Oper.wp Tryz.prog o a w K Q else E := by
  obtain ⟨i0, hi, hz0, hz1, hz2⟩ := info_parts rn.info_va
  refine step_append_lies w hgd s x 67 ho base 201 i0 (.agg #[.int .i64 0, .int .i64 0]) 2 16 Tryz.underlying67 hi hz0 hz1 hz2 rfl (by omega) v m.length (rn.vc m) hs hown ⟨b, 0, none⟩ 1 1 [.int .i64 z1, .int .i64 z2] hx rfl
    (fun j u hj => ?_) (fun u hu => by simp at hu; rcases hu with rfl | rfl <;> rfl) (by omega) (by unfold maxLen; omega) (by omega) hbase _ rfl (fun g c' w' h1 h2 h3 h4 => ?_)
  · match j, hj with
    | 0, hj => simp at hj; subst hj; simpa [Addr.add] using hz1'
    | 1, hj => simp at hj; subst hj; simpa [Addr.add] using hz2'
  · refine h g (m.length + 1) c' w' (by simp) ?_ h2 (h3.elim .inl (fun e => .inr (Nat.le_of_eq e.symm)))
    unfold rn.Lv
    rw [rn.vc_add, List.length_append]
    exact h1
/-- What a call of the plain one leaves. -/
def Ba (pp : Int) (J : List Nat) (M r : Nat) (v : Value) (s : Ps) (w : World) (e : Ending) (w' : World) : Prop := e = .returned v ∧ ∃ J', (∀ q, q ∈ J' → q ∈ J ∨ w.heap.size ≤ q) ∧ Bk pp w' J' M r s ∧ Gr J w w'
/-- A plain one that was made. -/
def NewB (r : Nat) (s : Ps) (w : World) (e : Ending) (w' : World) : Prop := ∃ M J, e = .returned (.pointer (some ⟨M, 0, none⟩)) ∧ Bk (-1) w' J M r s ∧ (∀ q, q ∈ J → w.heap.size ≤ q) ∧ w.grownBy w' none
theorem rNew_any (n : Int) (r : Nat) (hk : sk.near n 1 256 = r) (h8 : r ≤ 256) (w : World) : Calls Tryz.prog 29 #[.int .i64 n] w (NewB r none0 w) := by
  have Z := Lib.hid (show NewB r none0 w (.returned (.pointer (some ⟨w.heap.size, 0, none⟩))) (w.alloc (.cells (rcs (-1) bm.zeros (.slice none 0 0) r false) 69)) from
    ⟨_, _, rfl, ⟨.slice none 0 0, ⟨heap_alloc_new _ _, rn.Lv.nil _ _, h8, by simp, bm.Fine.zeros (by omega)⟩, rfl⟩, fun q hq => (by
      rcases js_of.1 hq with rfl | e
      · exact Nat.le_refl _
      · cases e), World.grownBy_alloc _ _ _⟩)
  by_cases h1 : n < 1
  · obtain rfl : r = 1 := by unfold sk.near at hk; rw [if_pos h1] at hk; omega
    go_enter Tryz.func29, Tryz.ntmps29
    go_wp2
    go_ret
    exact Z.out
  · by_cases h2 : 256 < n
    · obtain rfl : r = 256 := by unfold sk.near at hk; rw [if_neg h1, if_pos h2] at hk; omega
      go_enter Tryz.func29, Tryz.ntmps29
      go_wp2
      go_ret
      exact Z.out
    · obtain rfl : n = r := by unfold sk.near at hk; rw [if_neg h1, if_neg h2] at hk; exact hk
      go_enter Tryz.func29, Tryz.ntmps29
      go_wp2
      go_ret
      exact Z.out
end Go.Proofs.YtfloleflcoiidaaGreatDoor.sh

/- The plain grey's calls: Push, Pop, Black, Shade. -/
namespace Go.Proofs.YtfloleflcoiidaaGreatDoor.sh
open Go.ChangeShapes Go.WideShapes Go.ChangeAt Go.RowKit gen li en gr
set_option linter.unusedVariables false
set_option maxHeartbeats 4000000
set_option maxRecDepth 100000
variable {pp : Int}
section
variable {w w' W : World} {M r : Nat} {J L : List Nat} {s : Ps} {v : Value} {x1 x2 : Int}
/-! ### Black, Shade -/
theorem rBlack_any (h : Bk pp w J M r s) (z : Int) : Calls Tryz.prog 31 #[.pointer (some ⟨M, 0, none⟩), .int .i64 z] w (Ba pp J M r (.bool (newb s.ws z)) (s.black z) w) := by
  have hB := h
  obtain ⟨v, h, hJ⟩ := h
  rcases ways s.ws z with ⟨h1, _, h2, h5, _⟩ | ⟨i, rfl, hi, ⟨hb, _, h2, h5, _⟩ | ⟨hb, _, h2, h5, _⟩⟩
  · have FIN := Lib.hid (show Ba pp J M r (.bool (newb s.ws z)) (s.black z) w (.returned (.bool false)) w from ⟨by rw [h2], J, fun q hq => .inl hq, by unfold Ps.black; rw [h5]; exact hB, Gr.refl _ _⟩)
    clear h hB h2 h5 hJ
    by_cases hz : z < 0
    · clear h1
      go_enter Tryz.func31, Tryz.ntmps31
      go_wp2
      go_ret
      exact FIN.out
    · have hz2 : 2047 < z := by omega
      clear h1
      go_enter Tryz.func31, Tryz.ntmps31
      go_wp2
      go_ret
      exact FIN.out
  · have FIN := Lib.hid (show Ba pp J M r (.bool (newb s.ws i)) (s.black i) w (.returned (.bool false)) w from ⟨by rw [h2], J, fun q hq => .inl hq, by unfold Ps.black; rw [h5]; exact hB, Gr.refl _ _⟩)
    have c := h.mark hi
    rw [hb] at c
    have l1 : (0 : Int) ≤ (i : Int) := by omega
    have l2 : (i : Int) < 2048 := by omega
    clear h hB h2 h5 hJ
    go_enter Tryz.func31, Tryz.ntmps31
    go_wp2
    go_ret
    exact FIN.out
  · have FIN := Lib.hid (show Ba pp J M r (.bool (newb s.ws i)) (s.black i) w (.returned (.bool true)) (w.setCell ⟨M, i, none⟩ (.bool true)) from by
      subst hJ
      obtain ⟨p1, p2⟩ := h.put_mark hi (marks_put h.fi hi) (h.fi.put hi)
      exact ⟨by rw [h2], _, fun q hq => .inl hq, ⟨v, by unfold Ps.black; rw [h5]; exact p1, rfl⟩, p2⟩)
    have c := h.mark hi
    rw [hb] at c
    have z0 := h.free i
    have glt := h.lt
    have l1 : (0 : Int) ≤ (i : Int) := by omega
    have l2 : (i : Int) < 2048 := by omega
    clear h hB h2 h5 hJ
    go_enter Tryz.func31, Tryz.ntmps31
    go_wp2
    go_ret
    exact FIN.out
theorem bk_then {w2 w3 : World} {L2 : List Nat} {s2 : Ps} (hl : ∀ q, q ∈ L2 → q ∈ J ∨ w.heap.size ≤ q) (hg : Gr J w w2) (hp : ∃ J', (∀ q, q ∈ J' → q ∈ L2 ∨ w2.heap.size ≤ q) ∧ Bk pp w3 J' M r s2 ∧ Gr L2 w2 w3) :
    ∃ J', (∀ q, q ∈ J' → q ∈ J ∨ w.heap.size ≤ q) ∧ Bk pp w3 J' M r s2 ∧ Gr J w w3 := by
  obtain ⟨J', h1, h2, h3⟩ := hp
  exact ⟨J', fun q hq => (h1 q hq).elim (hl q) (fun e => .inr (Nat.le_trans hg.size e)), h2, hg.own h3 hl⟩
end
end Go.Proofs.YtfloleflcoiidaaGreatDoor.sh
