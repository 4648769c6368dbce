/- Joined: VaA, PhA, PhB, PhC, PhD. -/
import Derived.Test.YtfloleflcoiidaaGreatDoorGnQ
import Derived.Laws.AppendOwn
import Derived.Laws.CopyOwn
import Derived.Laws.MakeOwn
import Derived.Test.YtfloleflcoiidaaGreatDoorBoY
import Derived.Test.YtfloleflcoiidaaGreatDoorStV
import Derived.Test.YtfloleflcoiidaaGreatDoorTcX
/- Lists of values (a kind and a number each) in memory: those of the call's own, those that are read; an append onto them; two of them held against each other. -/
namespace Go.Proofs.YtfloleflcoiidaaGreatDoor.va
open Go.ChangeShapes Go.WideShapes Go.ChangeAt Go.RowKit gen li
set_option linter.unusedVariables false
set_option maxHeartbeats 4000000
set_option maxRecDepth 100000

/-- A value: its kind and its number. -/
abbrev Va := Int × Int
/-- A list's cells. -/
def vc (m : List Va) : List Value := m.flatMap fun x => [.int .i64 x.1, .int .i64 x.2]
theorem vc_cons (x : Va) (m : List Va) : vc (x :: m) = .int .i64 x.1 :: .int .i64 x.2 :: vc m := rfl
theorem vc_append (m l : List Va) : vc (m ++ l) = vc m ++ vc l := by simp [vc]
theorem vc_add (m : List Va) (x : Va) : vc (m ++ [x]) = vc m ++ [.int .i64 x.1, .int .i64 x.2] := by simp [vc]
theorem vc_length : ∀ m : List Va, (vc m).length = 2 * m.length
  | [] => rfl
  | x :: m => by rw [vc_cons, List.length_cons, List.length_cons, vc_length m, List.length_cons]; omega
theorem vc_at : ∀ (m : List Va) (i : Nat), i < m.length → (vc m)[2 * i]? = some (.int .i64 (m.getD i (0, 0)).1) ∧ (vc m)[2 * i + 1]? = some (.int .i64 (m.getD i (0, 0)).2)
  | [], i, h => by simp at h
  | x :: m, 0, _ => ⟨rfl, rfl⟩
  | x :: m, i + 1, h => by
    have h1 := vc_at m i (by simpa using h)
    rw [vc_cons, show 2 * (i + 1) = 2 * i + 1 + 1 by omega]
    refine ⟨?_, ?_⟩
    · rw [List.getElem?_cons_succ, List.getElem?_cons_succ]; simpa using h1.1
    · rw [List.getElem?_cons_succ, List.getElem?_cons_succ]; simpa using h1.2
theorem vc_take : ∀ (m : List Va) (k : Nat), (vc m).take (2 * k) = vc (m.take k)
  | [], k => by simp [vc]
  | x :: m, 0 => rfl
  | x :: m, k + 1 => by
    rw [vc_cons, show 2 * (k + 1) = 2 * k + 1 + 1 by omega, List.take_succ_cons, List.take_succ_cons, vc_take m k, List.take_succ_cons, vc_cons]
theorem vc_one (m : List Va) : ∀ v ∈ vc m, v.oneCell' = true := by
  intro v hv
  obtain ⟨x, _, hx⟩ := List.mem_flatMap.1 hv
  simp at hx
  rcases hx with rfl | rfl <;> rfl
theorem getD_mem {m : List Va} {i : Nat} (hi : i < m.length) : m.getD i (0, 0) ∈ m := by
  rw [List.getD_eq_getElem?_getD, List.getElem?_eq_getElem hi]
  exact List.getElem_mem hi
theorem take_more {m : List Va} {i : Nat} (hi : i < m.length) : m.take (i + 1) = m.take i ++ [m.getD i (0, 0)] := by
  rw [List.take_add_one, List.getD_eq_getElem?_getD, List.getElem?_eq_getElem hi]
  rfl

/-- The slice '.slice A n c' holds the values m, below block B. -/
def Rv (w : World) (B : Nat) (A : Option Addr) (n c : Nat) (m : List Va) : Prop :=
  m.length = n ∧ n ≤ c ∧ c ≤ maxLen ∧ ∀ i, i < n → ∃ b off, A = some ⟨b, off, none⟩ ∧ b < B ∧ w.cell? ⟨b, off + i * 2, none⟩ = some (.int .i64 (m.getD i (0, 0)).1) ∧ w.cell? ⟨b, off + i * 2 + 1, none⟩ = some (.int .i64 (m.getD i (0, 0)).2)
theorem Rv.at_ {w : World} {B n c i : Nat} {A : Option Addr} {m : List Va} (h : Rv w B A n c m) (hi : i < n) :
    ∃ b off, A = some ⟨b, off, none⟩ ∧ w.cell? ⟨b, off + i * 2, none⟩ = some (.int .i64 (m.getD i (0, 0)).1) ∧ w.cell? ⟨b, off + i * 2 + 1, none⟩ = some (.int .i64 (m.getD i (0, 0)).2) := by
  obtain ⟨b, off, e, _, h1, h2⟩ := h.2.2.2 i hi
  exact ⟨b, off, e, h1, h2⟩
theorem Rv.kept {w w' : World} {B n c : Nat} {A : Option Addr} {m : List Va} {row : Option Nat} (h : Rv w B A n c m) (hg : w.grownBy w' row) (hr : ∀ ad, A = some ad → 0 < n → some ad.block ≠ row) : Rv w' B A n c m := by
  refine ⟨h.1, h.2.1, h.2.2.1, fun i hi => ?_⟩
  obtain ⟨b, off, e, hb, h1, h2⟩ := h.2.2.2 i hi
  have := hr _ e (by omega)
  exact ⟨b, off, e, hb, hg.cell h1 this, hg.cell h2 this⟩
theorem Rv.made {w w' : World} {B n c : Nat} {A : Option Addr} {m : List Va} (h : Rv w B A n c m) (hg : w.grownBy w' none) : Rv w' B A n c m := h.kept hg (by simp)
theorem Rv.nil (w : World) (B : Nat) : Rv w B none 0 0 [] := ⟨rfl, Nat.le_refl _, by unfold maxLen; omega, fun i hi => by omega⟩
theorem Rv.less {w : World} {B n c k c' : Nat} {A : Option Addr} {m : List Va} (h : Rv w B A n c m) (hk : k ≤ n) (h1 : k ≤ c') (h2 : c' ≤ maxLen) : Rv w B A k c' (m.take k) := by
  refine ⟨by rw [List.length_take, h.1]; omega, h1, h2, fun i hi => ?_⟩
  obtain ⟨b, off, e, hb, c1, c2⟩ := h.2.2.2 i (by omega)
  have e2 : (m.take k).getD i (0, 0) = m.getD i (0, 0) := by simp [List.getD_eq_getElem?_getD, hi]
  exact ⟨b, off, e, hb, by rw [e2]; exact c1, by rw [e2]; exact c2⟩
theorem Rv.cells {w : World} {B n c : Nat} {A : Option Addr} {m : List Va} (h : Rv w B A n c m) : ∀ ad, A = some ad → ∀ j u, (vc m)[j]? = some u → w.cell? (ad.add j) = some u := by
  intro ad e j u hu
  have hj : j < 2 * m.length := by have := (List.getElem?_eq_some_iff.mp hu).1; rwa [vc_length] at this
  obtain ⟨b, off, e2, _, c1, c2⟩ := h.2.2.2 (j / 2) (by have := h.1; omega)
  obtain ⟨a1, a2⟩ := vc_at m (j / 2) (by omega)
  rw [e] at e2
  injection e2 with e2
  subst e2
  rw [Addr.add_lit]
  rcases Nat.mod_two_eq_zero_or_one j with h0 | h0
  · rw [show 2 * (j / 2) = j by omega, hu] at a1
    rw [show off + j = off + j / 2 * 2 by omega, c1, a1]
  · rw [show 2 * (j / 2) + 1 = j by omega, hu] at a2
    rw [show off + j = off + j / 2 * 2 + 1 by omega, c2, a2]
/-- A list of the call's own. -/
def Lv (w : World) (base : Nat) (v : Value) (m : List Va) : Prop := w.ownsRow base 199 2 v m.length (vc m)
section
variable {w w' : World} {base : Nat} {v : Value} {m : List Va}
theorem Lv.nil (w : World) (base : Nat) : Lv w base (.slice none 0 0) [] := World.ownsRow_nil _ _ _ _
theorem Lv.mono {base' : Nat} (h : Lv w base v m) (hb : base' ≤ base) : Lv w base' v m := by
  refine ⟨h.1, ?_⟩
  rcases h.2 with hn | ⟨g, cap, cur, hv, hbg, rest⟩
  · exact .inl hn
  · exact .inr ⟨g, cap, cur, hv, Nat.le_trans hb hbg, rest⟩
theorem Lv.kept {row : Option Nat} (h : Lv w base v m) (hg : w.grownBy w' row) (hr : v.ownBlock = none ∨ v.ownBlock ≠ row) : Lv w' base v m := World.ownsRow.kept h hg hr
theorem Lv.new (h : Lv w base v m) (hg : w.grownBy w' none) : Lv w' base v m := h.kept hg (by cases v.ownBlock <;> simp)
theorem Lv.off {k : Nat} {o : Obj} (h : Lv w base v m) (hk : w.heap[k]? = some o) (hn : ∀ cs z, o ≠ .cells cs 199 z) : v.ownBlock ≠ some k := fun e => by
  rcases h.2 with ⟨rfl, _⟩ | ⟨g, cap, cur, rfl, _, hg, _⟩
  · cases e
  · injection e with e
    subst e
    rw [hg] at hk
    injection hk with hk
    exact hn _ _ hk.symm
theorem Lv.from_ (h : Lv w base v m) : ∀ k, v.ownBlock = some k → base ≤ k := fun k e => by
  rcases h.2 with ⟨rfl, _⟩ | ⟨g, cap, cur, rfl, hb, hg, _⟩
  · cases e
  · injection e with e
    subst e
    exact hb
theorem Lv.lt (h : Lv w base v m) : ∀ k, v.ownBlock = some k → k < w.heap.size := fun k e => by
  rcases h.2 with ⟨rfl, _⟩ | ⟨g, cap, cur, rfl, hb, hg, _⟩
  · cases e
  · injection e with e
    subst e
    exact (Array.getElem?_eq_some_iff.1 hg).1
theorem Lv.shape (h : Lv w base v m) : ∃ A N k, v = .slice A N k ∧ N = m.length ∧ N ≤ k ∧ k ≤ maxLen := by
  rcases h.2 with ⟨rfl, hz⟩ | ⟨g, cap, cur, rfl, _, _, h1, h2, _⟩
  · exact ⟨none, 0, 0, rfl, hz.symm, Nat.le_refl _, by unfold maxLen; omega⟩
  · exact ⟨_, _, _, rfl, rfl, h1, h2⟩
theorem Lv.rv {A : Option Addr} {N k : Nat} (h : Lv w base (.slice A N k) m) (hN : N = m.length) : Rv w w.heap.size A N k m := by
  subst hN
  rcases h.2 with ⟨e, hz⟩ | ⟨g, cap, cur, e, _, hg, h1, h2, h3, h4⟩
  · obtain ⟨rfl, hN, rfl⟩ : A = none ∧ m.length = 0 ∧ k = 0 := by simpa using e
    exact ⟨rfl, by omega, by unfold maxLen; omega, fun i hi => by omega⟩
  · obtain ⟨rfl, rfl⟩ : A = some ⟨g, 0, none⟩ ∧ k = cap := by simpa using e
    refine ⟨rfl, h1, h2, fun i hi => ⟨g, 0, rfl, (Array.getElem?_eq_some_iff.1 hg).1, ?_⟩⟩
    have hc : ∀ j u, (vc m)[j]? = some u → w.cell? ⟨g, 0 + j, none⟩ = some u := fun j u hj => by
      rw [← h4, List.getElem?_take] at hj
      split at hj
      · simp [World.cell?, hg]
        simpa using hj
      · cases hj
    have h5 := vc_at m i hi
    refine ⟨?_, ?_⟩
    · have := hc _ _ h5.1; rwa [show 0 + 2 * i = 0 + i * 2 by omega] at this
    · have := hc _ _ h5.2; rwa [show 0 + (2 * i + 1) = 0 + i * 2 + 1 by omega] at this
/-- The first j of them. -/
theorem Lv.take {A : Option Addr} {N k j : Nat} (h : Lv w base (.slice A N k) m) (hN : N = m.length) (hj : j ≤ N) : Lv w base (.slice A j k) (m.take j) := by
  subst hN
  have hl : (m.take j).length = j := by rw [List.length_take]; omega
  refine ⟨by rw [vc_length, hl]; omega, ?_⟩
  rw [hl]
  rcases h.2 with ⟨e, hz⟩ | ⟨g, cap, cur, e, hb, hg, h1, h2, h3, h4⟩
  · obtain ⟨rfl, hN, rfl⟩ : A = none ∧ m.length = 0 ∧ k = 0 := by simpa using e
    obtain rfl : j = 0 := by omega
    exact .inl ⟨rfl, rfl⟩
  · obtain ⟨rfl, rfl⟩ : A = some ⟨g, 0, none⟩ ∧ k = cap := by simpa using e
    refine .inr ⟨g, k, cur, rfl, hb, hg, by omega, h2, h3, ?_⟩
    rw [← vc_take, ← h4, List.take_take]
    congr 1
    omega
end
theorem info_va : (Tryz.prog.info? 199).map (fun i => (i.zero, i.size, i.bytes)) = some (some (.agg #[.int .i64 0, .int .i64 0]), 2, 16) := by kernel_rfl
/-- Values appended to a list of one's own. -/
theorem append_vas {w : World} {ops : Array Oper} {rest : List Oper} {o : Oper} {a : Act} {Q : Exit → Act → World → Prop} (hgd : o.guard = none) (s x : Operand) (ho : o.op = .call { callee := .builtin .append, args := #[s, x], argTypes := #[63, 63] })
    (base : Nat) (v : Value) (m : List Va) (hs : a.eval s = v) (hown : Lv w base v m) (A : Option Addr) (n c B : Nat) (l : List Va) (hx : a.eval x = .slice A n c) (hA : A = none → n = 0 ∧ c = 0)
    (hr : Rv w B A n c l) (hm : m.length + n ≤ 1048576) (hbase : base ≤ w.heap.size)
    (h : ∀ A' N' c' w', N' = (m ++ l).length → Lv w' base (.slice A' N' c') (m ++ l) → w.grownBy w' v.ownBlock → wpList Tryz.prog ops Q rest (a.put o.dst (.slice A' N' c')) w') : wpList Tryz.prog ops Q (o :: rest) a w := by
  obtain ⟨i0, hi, hz0, hz1, hz2⟩ := info_parts info_va
  have hn := hr.1
  cases A with
  | none =>
    obtain ⟨rfl, rfl⟩ := hA rfl
    have : l = [] := List.eq_nil_of_length_eq_zero hr.1
    subst this
    rw [List.append_nil] at h
    refine wpList_append_own_none hgd s x 63 ho base 199 i0 2 Tryz.underlying63 hi v m.length (vc m) hs hown hx ?_
    obtain ⟨A', N', c', rfl, hN, _, _⟩ := hown.shape
    exact h A' N' c' w hN hown (World.grownBy.refl _ _)
  | some ad =>
    refine wpList_append_own w hgd s x 63 ho base 199 i0 (.agg #[.int .i64 0, .int .i64 0]) 2 16 Tryz.underlying63 hi hz0 hz1 hz2 rfl (by omega) v m.length (vc m) hs hown ad n c (vc l) hx (by rw [vc_length, hn]; omega)
      (hr.cells ad rfl) (vc_one l) (by unfold maxLen; omega) (by omega) hbase (fun v' w' h3 h4 h5 => ?_)
    rw [← vc_append] at h3
    have h3' : Lv w' base v' (m ++ l) := by
      unfold Lv
      rw [List.length_append, hn]
      exact h3
    obtain ⟨A', N', c', rfl, hN, _, _⟩ := h3'.shape
    exact h A' N' c' w' hN h3' h4
theorem Rv.one {w : World} {b : Nat} {y1 y2 : Int} (h0 : w.cell? ⟨b, 0, none⟩ = some (.int .i64 y1)) (h1 : w.cell? ⟨b, 1, none⟩ = some (.int .i64 y2)) : Rv w w.heap.size (some ⟨b, 0, none⟩) 1 1 [(y1, y2)] := by
  refine ⟨rfl, Nat.le_refl _, by unfold maxLen; omega, fun i hi => ⟨b, 0, rfl, World.block_lt_of_cell? _ _ h0, ?_⟩⟩
  obtain rfl : i = 0 := by omega
  exact ⟨h0, h1⟩
/-! ### Made and copied -/
theorem madeCells_two (n : Nat) : madeCells #[.int .i64 0, .int .i64 0] (n * 2) = (vc (List.replicate n (0, 0))).toArray := by
  apply Array.ext'
  apply List.ext_getElem?
  intro i
  have h0 : ∀ k, k < n * 2 → (madeCells #[.int .i64 0, .int .i64 0] (n * 2)).toList[k]? = some (.int .i64 0) := fun k hk => by
    unfold madeCells
    have : k % 2 = 0 ∨ k % 2 = 1 := by omega
    rcases this with h | h <;> simp [hk, h]
  by_cases hi : i < n * 2
  · rw [h0 i hi]
    obtain ⟨a1, a2⟩ := vc_at (List.replicate n (0, 0)) (i / 2) (by simp; omega)
    have e : (List.replicate n ((0, 0) : Va)).getD (i / 2) (0, 0) = (0, 0) := by rw [List.getD_eq_getElem?_getD, List.getElem?_replicate]; split <;> rfl
    rw [e] at a1 a2
    rcases Nat.mod_two_eq_zero_or_one i with h | h
    · rw [show 2 * (i / 2) = i by omega] at a1
      simpa using a1.symm
    · rw [show 2 * (i / 2) + 1 = i by omega] at a2
      simpa using a2.symm
  · rw [List.getElem?_eq_none (by simp [size_madeCells]; omega), List.getElem?_eq_none (by simp [vc_length]; omega)]
theorem make_vas (n : Nat) (hn : n ≤ 65536) (w : World) :
    (Instr.makeSlice 63 (.int .i64 (n : Int)) (.int .i64 (n : Int))).run Tryz.prog w = .ok (.slice (some ⟨w.heap.size, 0, none⟩) n n) (w.alloc (.cells (vc (List.replicate n (0, 0))).toArray 199)) := by
  obtain ⟨i0, hi, hz0, hz1, hz2⟩ := info_parts info_va
  have h := run_make (P := Tryz.prog) w 63 199 i0 _ Tryz.underlying63 hi hz0 .i64 .i64 n n (by omega) (Int.le_refl _) (by rw [hz2]; omega) (by omega)
  rw [h]
  simp only [Int.toNat_natCast, hz1]
  rw [← madeCells_two]
  rfl
/-- copy(dst, src) of elements of s cells, dst in a row that is known whole. -/
theorem run_copy_wide {P : Program} (w : World) (dT sT ty elem : TypeId) (s g o dLen dCap : Nat) (a : Addr) (sLen sCap : Nat) (cur : Array Value) (t : TypeId) (cs : List Value) (n : Nat)
    (hu : P.underlying dT = some (.slice elem)) (hs : (P.info? elem).map (·.size) = some s)
    (hg : w.heap[g]? = some (.cells cur t (0, 0))) (hmin : Nat.min sLen dLen = n) (hn : cs.length = n * s)
    (hsrc : ∀ j v, cs[j]? = some v → w.cell? (a.add j) = some v) (hfit : o + cs.length ≤ cur.size) (h1 : ∀ v ∈ cs, v.oneCell' = true) :
    (Builtin.copy_ #[dT, sT] ty #[.slice (some ⟨g, o, none⟩) dLen dCap, .slice (some a) sLen sCap]).run P w =
      .ok (goInt n) (w.setRow g (cur.toList.take o ++ cs ++ cur.toList.drop (o + cs.length)).toArray) := by
  have hl := run_loadCells_list (P := P) w a cs hsrc
  have hst := run_storeCells_at P g o t cs 0 cur w hg (by simpa using hfit) h1
  rw [hn] at hl
  cases hq : P.info? elem with
  | none => simp [hq] at hs
  | some i =>
    have hi : i.size = s := by simpa [hq] using hs
    simp [Builtin.copy_, run_underlying hu, Builtin.lenOf, Builtin.firstCells, sizeOf, typeInfo, hq, hi, hmin, hl, hst]
/-- A whole row of one's own filled from another list. -/
theorem wpList_copy_vas {w : World} {ops : Array Oper} {rest : List Oper} {o : Oper} {a : Act} {Q : Exit → Act → World → Prop} (hgd : o.guard = none) (d s : Operand)
    (ho : o.op = .call { callee := .builtin .copy, args := #[d, s], argTypes := #[63, 63] })
    (g n c : Nat) (ad : Addr) (m l : List Va) (hd : a.eval d = .slice (some ⟨g, 0, none⟩) n n) (hs : a.eval s = .slice (some ad) n c) {B : Nat} (hr : Rv w B (some ad) n c m)
    (hg : w.heap[g]? = some (.cells (vc l).toArray 199 (0, 0))) (hl : l.length = n)
    (h : ∀ w', w'.heap[g]? = some (.cells (vc m).toArray 199 (0, 0)) → w.grownBy w' (some g) → wpList Tryz.prog ops Q rest (a.put o.dst (goInt n)) w') :
    wpList Tryz.prog ops Q (o :: rest) a w := by
  have hrun : ∀ ty, _ := fun ty => run_copy_wide (P := Tryz.prog) w 63 63 ty 199 2 g 0 n n ad n c (vc l).toArray 199 (vc m) n Tryz.underlying63 (by kernel_rfl) hg (Nat.min_self n) (by rw [vc_length, hr.1]; omega)
    (hr.cells ad rfl) (by simp [vc_length, hl, hr.1]) (vc_one m)
  have e : (vc l).toArray.toList.take 0 ++ vc m ++ (vc l).toArray.toList.drop (0 + (vc m).length) = vc m := by
    have : ((vc l).toArray.toList.drop (0 + (vc m).length)) = [] := List.drop_eq_nil_of_le (by simp [vc_length, hl, hr.1])
    rw [this]
    simp
  rw [e] at hrun
  refine wpList_plain hgd fun _ hK => ?_
  unfold Oper.wp
  simp [execOp, ho, resolve, invoke, builtin, hd, hs, hrun, Result.andThen]
  exact hK _ _ (h _ (setRow_heap w g _ _ _ _ hg) ⟨rfl, rfl, rfl, by simp [World.setRow], fun k _ hk => setRow_other w g k _ (fun e => hk (by simp [e]))⟩)
/-- The same where the other list is nil. -/
theorem wpList_copy_none {w : World} {ops : Array Oper} {rest : List Oper} {o : Oper} {a : Act} {Q : Exit → Act → World → Prop} (hgd : o.guard = none) (d s : Operand)
    (ho : o.op = .call { callee := .builtin .copy, args := #[d, s], argTypes := #[63, 63] })
    (ad : Addr) (n c : Nat) (hd : a.eval d = .slice (some ad) n c) (hs : a.eval s = .slice none 0 0)
    (h : wpList Tryz.prog ops Q rest (a.put o.dst (goInt 0)) w) : wpList Tryz.prog ops Q (o :: rest) a w := by
  have hrun : ∀ ty, _ := fun ty => run_copy_nil (P := Tryz.prog) w 63 63 ty 199 ad n c Tryz.underlying63 (by kernel_rfl)
  refine wpList_plain hgd fun _ hK => ?_
  unfold Oper.wp
  simp [execOp, ho, resolve, invoke, builtin, hd, hs, hrun, Result.andThen]
  exact hK _ _ h
/-- A row that is whole, as a list of one's own. -/
theorem Lv.whole {w : World} {g base : Nat} {m : List Va} (h : w.heap[g]? = some (.cells (vc m).toArray 199 (0, 0))) (hb : base ≤ g) (hm : m.length ≤ maxLen) : Lv w base (.slice (some ⟨g, 0, none⟩) m.length m.length) m :=
  ⟨by rw [vc_length]; omega, .inr ⟨g, _, _, rfl, hb, h, Nat.le_refl _, hm, by simp [vc_length]; omega, by simpa using List.take_of_length_le (by rw [vc_length]; omega)⟩⟩
/-- A list of values that was made. -/
def VasAns (m : List Va) (w : World) (e : Ending) (w' : World) : Prop := ∃ A c, e = .returned (.slice A m.length c) ∧ Lv w' w.heap.size (.slice A m.length c) m ∧ w.grownBy w' none
end Go.Proofs.YtfloleflcoiidaaGreatDoor.va

/- The plain heap of the statement in memory: its objects (an address, a serial, a list of values each), whose pages are whose, and all of it. -/
namespace Go.Proofs.YtfloleflcoiidaaGreatDoor.ph
open Go.ChangeShapes Go.WideShapes Go.ChangeAt Go.RowKit gen calls cls geos ce bo st
set_option linter.unusedVariables false
set_option maxHeartbeats 4000000
set_option maxRecDepth 100000
abbrev Va := Int × Int
/-- An object: its address, its serial, the slice of its fields; and these. -/
structure Pb where
  a : Int
  q : Int
  v : Value
  l : List Va
def oc (os : List Pb) : List Value := os.flatMap fun o => [.int .i64 o.a, .int .i64 o.q, o.v]
theorem oc_cons (o : Pb) (os : List Pb) : oc (o :: os) = .int .i64 o.a :: .int .i64 o.q :: o.v :: oc os := rfl
theorem oc_append (m l : List Pb) : oc (m ++ l) = oc m ++ oc l := by simp [oc]
theorem oc_add (m : List Pb) (o : Pb) : oc (m ++ [o]) = oc m ++ [.int .i64 o.a, .int .i64 o.q, o.v] := by simp [oc]
theorem oc_length : ∀ m : List Pb, (oc m).length = 3 * m.length
  | [] => rfl
  | x :: m => by rw [oc_cons, List.length_cons, List.length_cons, List.length_cons, oc_length m, List.length_cons]; omega
theorem oc_at : ∀ (m : List Pb) (i : Nat) (o : Pb), m[i]? = some o → (oc m)[3 * i]? = some (.int .i64 o.a) ∧ (oc m)[3 * i + 1]? = some (.int .i64 o.q) ∧ (oc m)[3 * i + 2]? = some o.v
  | [], i, o, h => by simp at h
  | x :: m, 0, o, h => by
    have e : x = o := by simpa using h
    subst e
    exact ⟨rfl, rfl, rfl⟩
  | x :: m, i + 1, o, h => by
    have h1 := oc_at m i o (by simpa using h)
    rw [oc_cons, show 3 * (i + 1) = 3 * i + 1 + 1 + 1 by omega]
    refine ⟨?_, ?_, ?_⟩
    · simpa using h1.1
    · rw [show 3 * i + 1 + 1 + 1 + 1 = (3 * i + 1) + 1 + 1 + 1 by omega]; simpa using h1.2.1
    · rw [show 3 * i + 1 + 1 + 1 + 2 = (3 * i + 2) + 1 + 1 + 1 by omega]; simpa using h1.2.2
/-- One object's fields are another list. -/
def setf (os : List Pb) (i : Nat) (v : Value) (l : List Va) : List Pb := os.modify i fun o => ⟨o.a, o.q, v, l⟩
theorem oc_set : ∀ (m : List Pb) (i : Nat) (v : Value) (l : List Va), (oc m).set (3 * i + 2) v = oc (setf m i v l)
  | [], i, v, l => by simp [oc, setf]
  | x :: m, 0, v, l => rfl
  | x :: m, i + 1, v, l => by
    have h := oc_set m i v l
    unfold setf at h ⊢
    rw [List.modify_succ_cons, oc_cons, oc_cons, show 3 * (i + 1) + 2 = (3 * i + 2) + 1 + 1 + 1 by omega, List.set_cons_succ, List.set_cons_succ, List.set_cons_succ, h]
/-- A list of objects of the call's own. -/
def Lp (w : World) (base : Nat) (v : Value) (m : List Pb) : Prop := w.ownsRow base 65 3 v m.length (oc m)
section
variable {w w' : World} {base : Nat} {v : Value} {m os : List Pb} {L K : List Nat}
theorem Lp.nil (w : World) (base : Nat) : Lp w base (.slice none 0 0) [] := World.ownsRow_nil _ _ _ _
theorem Lp.mono {base' : Nat} (h : Lp w base v m) (hb : base' ≤ base) : Lp w base' v m := by
  refine ⟨h.1, ?_⟩
  rcases h.2 with hn | ⟨g, cap, cur, hv, hbg, rest⟩
  · exact .inl hn
  · exact .inr ⟨g, cap, cur, hv, Nat.le_trans hb hbg, rest⟩
theorem Lp.kept {row : Option Nat} (h : Lp w base v m) (hg : w.grownBy w' row) (hr : v.ownBlock = none ∨ v.ownBlock ≠ row) : Lp w' base v m := World.ownsRow.kept h hg hr
theorem Lp.new (h : Lp w base v m) (hg : w.grownBy w' none) : Lp w' base v m := h.kept hg (by cases v.ownBlock <;> simp)
theorem Lp.off {k : Nat} {o : Obj} (h : Lp w base v m) (hk : w.heap[k]? = some o) (hn : ∀ cs z, o ≠ .cells cs 65 z) : v.ownBlock ≠ some k := fun e => by
  rcases h.2 with ⟨rfl, _⟩ | ⟨g, cap, cur, rfl, _, hg, _⟩
  · cases e
  · injection e with e
    subst e
    rw [hg] at hk
    injection hk with hk
    exact hn _ _ hk.symm
theorem Lp.from_ (h : Lp w base v m) : ∀ k, v.ownBlock = some k → base ≤ k := fun k e => by
  rcases h.2 with ⟨rfl, _⟩ | ⟨g, cap, cur, rfl, hb, hg, _⟩
  · cases e
  · injection e with e
    subst e
    exact hb
theorem Lp.lt (h : Lp w base v m) : ∀ k, v.ownBlock = some k → k < w.heap.size := fun k e => by
  rcases h.2 with ⟨rfl, _⟩ | ⟨g, cap, cur, rfl, hb, hg, _⟩
  · cases e
  · injection e with e
    subst e
    exact (Array.getElem?_eq_some_iff.1 hg).1
theorem Lp.shape (h : Lp w base v m) : ∃ A N k, v = .slice A N k ∧ N = m.length ∧ N ≤ k ∧ k ≤ maxLen := by
  rcases h.2 with ⟨rfl, hz⟩ | ⟨g, cap, cur, rfl, _, _, h1, h2, _⟩
  · exact ⟨none, 0, 0, rfl, hz.symm, Nat.le_refl _, by unfold maxLen; omega⟩
  · exact ⟨_, _, _, rfl, rfl, h1, h2⟩
theorem row_gr {n s : Nat} {t : TypeId} {xs : List Value} (h : w.ownsRow base t s v n xs) (hg : Gr L w w') (hL : ∀ q, v.ownBlock = some q → q ∉ L) : w'.ownsRow base t s v n xs := by
  refine ⟨h.1, ?_⟩
  rcases h.2 with hn | ⟨g, cap, cur, rfl, hb, hgg, rest⟩
  · exact .inl hn
  · exact .inr ⟨g, cap, cur, rfl, hb, hg.heap hgg (hL g rfl), rest⟩
theorem Lp.gr (h : Lp w base v m) (hg : Gr L w w') (hL : ∀ q, v.ownBlock = some q → q ∉ L) : Lp w' base v m := row_gr h hg hL
/-- The cells of the i-th one. -/
theorem Lp.at_ (h : Lp w base v m) {i : Nat} {o : Pb} (hi : m[i]? = some o) :
    ∃ b c, v = .slice (some ⟨b, 0, none⟩) m.length c ∧ v.ownBlock = some b ∧ b < w.heap.size ∧ m.length ≤ c ∧ c ≤ maxLen ∧ w.cell? ⟨b, i * 3, none⟩ = some (.int .i64 o.a) ∧ w.cell? ⟨b, i * 3 + 1, none⟩ = some (.int .i64 o.q) ∧ w.cell? ⟨b, i * 3 + 2, none⟩ = some o.v ∧ w.frozen? ⟨b, i * 3 + 2, none⟩ = false := by
  have hl : i < m.length := (List.getElem?_eq_some_iff.1 hi).1
  rcases h.2 with ⟨rfl, hz⟩ | ⟨g, cap, cur, rfl, _, hg, h1, h2, h3, h4⟩
  · omega
  · have hc : ∀ j u, (oc m)[j]? = some u → w.cell? ⟨g, j, none⟩ = some u := fun j u hj => by
      rw [← h4, List.getElem?_take] at hj
      split at hj
      · simp [World.cell?, hg]
        simpa using hj
      · cases hj
    obtain ⟨a1, a2, a3⟩ := oc_at m i o hi
    exact ⟨g, cap, rfl, rfl, (Array.getElem?_eq_some_iff.1 hg).1, h1, h2, by rw [Nat.mul_comm]; exact hc _ _ a1, by rw [Nat.mul_comm]; exact hc _ _ a2, by rw [Nat.mul_comm]; exact hc _ _ a3, frozen_of_row w g _ _ _ hg⟩
/-- One object's fields written. -/
theorem Lp.set (h : Lp w base v m) {i b : Nat} (hv : v.ownBlock = some b) (hi : i < m.length) (u : Value) (l : List Va) (hu : ∃ A n c, u = .slice A n c) : Lp (w.setCell ⟨b, i * 3 + 2, none⟩ u) base v (setf m i u l) := by
  have hlen : (setf m i u l).length = m.length := by simp [setf]
  refine ⟨by rw [oc_length]; omega, ?_⟩
  rw [hlen]
  rcases h.2 with ⟨rfl, hz⟩ | ⟨g, cap, cur, rfl, hb, hg, h1, h2, h3, h4⟩
  · cases hv
  · injection hv with hv
    subst hv
    refine .inr ⟨g, cap, cur.setIfInBounds (i * 3 + 2) u, rfl, hb, by rw [heap_setCell_same w g _ _ _ _ hg], h1, h2, by simpa using h3, ?_⟩
    rw [← oc_set m i u l, ← h4, Array.toList_setIfInBounds, List.take_set, Nat.mul_comm i 3]
end
theorem info_ob : (Tryz.prog.info? 65).map (fun i => (i.zero, i.size, i.bytes)) = some (some (.agg #[.int .i64 0, .int .i64 0, .slice none 0 0]), 3, 40) := by kernel_rfl
/-- An object appended to a list of one's own. -/
theorem append_ob {w : World} {ops : Array Oper} {rest : List Oper} {o : Oper} {a : Act} {Q : Exit → Act → World → Prop} (hgd : o.guard = none) (s x : Operand) (ho : o.op = .call { callee := .builtin .append, args := #[s, x], argTypes := #[58, 58] })
    (base : Nat) (v : Value) (m : List Pb) (hs : a.eval s = v) (hown : Lp w base v m) (b : Nat) (y : Pb) (hy : ∃ A n c, y.v = .slice A n c) (hx : a.eval x = .slice (some ⟨b, 0, none⟩) 1 1)
    (h0 : w.cell? ⟨b, 0, none⟩ = some (.int .i64 y.a)) (h1 : w.cell? ⟨b, 1, none⟩ = some (.int .i64 y.q)) (h2 : w.cell? ⟨b, 2, none⟩ = some y.v) (hm : m.length ≤ 1048576) (hbase : base ≤ w.heap.size)
    (h : ∀ A' N' c' w', N' = (m ++ [y]).length → Lp w' base (.slice A' N' c') (m ++ [y]) → w.grownBy w' v.ownBlock → wpList Tryz.prog ops Q rest (a.put o.dst (.slice A' N' c')) w') : wpList Tryz.prog ops Q (o :: rest) a w := by
  obtain ⟨i0, hi, hz0, hz1, hz2⟩ := info_parts info_ob
  obtain ⟨A0, n0, c0, ey⟩ := hy
  refine wpList_append_own w hgd s x 58 ho base 65 i0 (.agg #[.int .i64 0, .int .i64 0, .slice none 0 0]) 3 40 Tryz.underlying58 hi hz0 hz1 hz2 rfl (by omega) v m.length (oc m) hs hown ⟨b, 0, none⟩ 1 1 [.int .i64 y.a, .int .i64 y.q, y.v] hx rfl
    (fun j u hj => ?_) (fun u hu => ?_) (by unfold maxLen; omega) (by omega) hbase (fun v' w' h3 h4 h5 => ?_)
  · match j, hj with
    | 0, hj => simp at hj; subst hj; simpa [Addr.add] using h0
    | 1, hj => simp at hj; subst hj; simpa [Addr.add] using h1
    | 2, hj => simp at hj; subst hj; simpa [Addr.add] using h2
    | j + 3, hj => simp at hj
  · simp at hu
    rcases hu with rfl | rfl | rfl
    · rfl
    · rfl
    · rw [ey]; rfl
  · have h6 : Lp w' base v' (m ++ [y]) := by
      unfold Lp
      rw [oc_add, List.length_append]
      exact h3
    obtain ⟨A, N, k, rfl, hN, _, _⟩ := h6.shape
    exact h A N k w' hN h6 h4
end Go.Proofs.YtfloleflcoiidaaGreatDoor.ph

/- The plain heap of the statement, whole: what it is by lists, and what leaves it. -/
namespace Go.Proofs.YtfloleflcoiidaaGreatDoor.ph
open Go.ChangeShapes Go.WideShapes Go.ChangeAt Go.RowKit gen calls cls geos ce bo st
set_option linter.unusedVariables false
set_option maxHeartbeats 4000000
set_option maxRecDepth 100000
/-- What an object is, by lists. -/
abbrev Ob3 := Int × Int × List Va
/-- The plain heap by lists. -/
structure Hq where
  ks : List Int
  fr : Nat → List Int
  own : List ca.Ow
  T : Nat
  cnt : Nat
  ob : List Ob3
def obs (x : Hs) : List Ob3 := x.tk.map fun a => (a, x.xs.getD a.toNat 0 / 128, tc.fls x a)
def toq (x : Hs) : Hq := ⟨x.ks, x.fr, x.own, x.T, x.cnt, obs x⟩
def pob (o : Pb) : Ob3 := (o.a, o.q, o.l)
/-- Whose pages are whose, as 45 numbers. -/
def own45 (own : List ca.Ow) : List Int := (List.range 45).map fun i => ca.page own ((i / 5 : Nat) : Int) ((i % 5 : Nat) : Int) + 1
theorem own45_len (own : List ca.Ow) : (own45 own).length = 45 := by simp [own45]
theorem own45_at (own : List ca.Ow) {t k : Nat} (ht : t < 9) (hk : k < 5) : (own45 own)[t * 5 + k]? = some (ca.page own t k + 1) := by
  unfold own45
  rw [List.getElem?_map, List.getElem?_range (by omega)]
  simp only [Option.map_some]
  rw [show (t * 5 + k) / 5 = t by omega, show (t * 5 + k) % 5 = k by omega]
def tlo (own : List ca.Ow) (T : Nat) (vo : Value) (cnt : Nat) : List Value := (own45 own).map (Value.int .i64) ++ [.int .i64 T, vo, .int .i64 cnt]
theorem tlo_len (own : List ca.Ow) (T : Nat) (vo : Value) (cnt : Nat) : (tlo own T vo cnt).length = 48 := by simp [tlo, own45_len]
theorem tlo_own (own : List ca.Ow) (T : Nat) (vo : Value) (cnt : Nat) {t k : Nat} (ht : t < 9) (hk : k < 5) : (tlo own T vo cnt)[t * 5 + k]? = some (.int .i64 (ca.page own t k + 1)) := by
  unfold tlo
  rw [List.getElem?_append_left (by rw [List.length_map, own45_len]; omega), List.getElem?_map, own45_at own ht hk]
  rfl
theorem tlo_end (own : List ca.Ow) (T : Nat) (vo : Value) (cnt : Nat) (j : Nat) : (tlo own T vo cnt)[45 + j]? = [Value.int .i64 T, vo, .int .i64 cnt][j]? := by
  unfold tlo
  rw [List.getElem?_append_right (by rw [List.length_map, own45_len]; omega), List.length_map, own45_len, Nat.add_sub_cancel_left]
theorem page_put (own : List ca.Ow) (t k p t' k' : Int) (hk : k ≠ 0) : ca.page (ca.rest own t k ++ [(t, k, p)]) t' k' = if t' = t ∧ k' = k then p else ca.page own t' k' := by
  unfold ca.page
  rw [List.find?_append]
  by_cases h : t' = t ∧ k' = k
  · obtain ⟨rfl, rfl⟩ := h
    rw [if_pos ⟨rfl, rfl⟩]
    have : (ca.rest own t' k').find? (fun x => x.1 == t' && x.2.1 == k') = none := List.find?_eq_none.2 (fun x hx h2 => by
      have := (List.mem_filter.1 hx).2
      simp [ca.hit, hk] at this
      simp at h2
      rcases this with h3 | h3
      · exact h3 h2.1
      · exact h3 h2.2)
    rw [this]
    simp
  · rw [if_neg h]
    have e : (ca.rest own t k).find? (fun x => x.1 == t' && x.2.1 == k') = own.find? (fun x => x.1 == t' && x.2.1 == k') := by
      unfold ca.rest
      rw [List.find?_filter]
      congr 1
      funext x
      by_cases h2 : (x.1 == t' && x.2.1 == k') = true
      · simp at h2
        obtain ⟨e1, e2⟩ := h2
        simp [ca.hit, hk, e1, e2]
        by_cases e3 : t' = t
        · exact .inr (fun e4 => h ⟨e3, e4⟩)
        · exact .inl e3
      · simp only [Bool.not_eq_true] at h2
        simp [h2]
    rw [e]
    cases own.find? (fun x => x.1 == t' && x.2.1 == k') with
    | some y => rfl
    | none =>
      have : [(t, k, p)].find? (fun x : ca.Ow => x.1 == t' && x.2.1 == k') = none := List.find?_eq_none.2 (fun x hx h2 => by
        simp at hx
        subst hx
        simp at h2
        exact h ⟨h2.1.symm, h2.2.symm⟩)
      rw [this]
      rfl
theorem own45_put (own : List ca.Ow) {t k : Nat} (ht : t < 9) (hk : k < 5) (hk0 : k ≠ 0) (p : Int) : (own45 own).set (t * 5 + k) (p + 1) = own45 (ca.rest own t k ++ [((t : Int), (k : Int), p)]) := by
  apply List.ext_getElem?
  intro i
  rw [List.getElem?_set]
  by_cases hi : i < 45
  · have e1 := own45_at own (t := i / 5) (k := i % 5) (by omega) (by omega)
    have e2 := own45_at (ca.rest own t k ++ [((t : Int), (k : Int), p)]) (t := i / 5) (k := i % 5) (by omega) (by omega)
    rw [show i / 5 * 5 + i % 5 = i by omega] at e1 e2
    rw [e2, page_put _ _ _ _ _ _ (by omega)]
    by_cases e : t * 5 + k = i
    · rw [if_pos e, if_pos (by rw [own45_len]; omega), if_pos (by omega)]
    · rw [if_neg e, e1, if_neg (by omega)]
  · rw [List.getElem?_eq_none (l := own45 (ca.rest own t k ++ [((t : Int), (k : Int), p)])) (by rw [own45_len]; omega), List.getElem?_eq_none (l := own45 own) (by rw [own45_len]; omega), own45_len]
    by_cases e : t * 5 + k = i
    · rw [if_pos e, if_neg (by omega)]
    · rw [if_neg e]
theorem tlo_put (own : List ca.Ow) (T : Nat) (vo : Value) (cnt : Nat) {t k : Nat} (ht : t < 9) (hk : k < 5) (hk0 : k ≠ 0) (p : Int) : (tlo own T vo cnt).set (t * 5 + k) (.int .i64 (p + 1)) = tlo (ca.rest own t k ++ [((t : Int), (k : Int), p)]) T vo cnt := by
  unfold tlo
  rw [List.set_append_left _ _ (by rw [List.length_map, own45_len]; omega), ← own45_put own ht hk hk0, List.map_set]
theorem tlo_set (own : List ca.Ow) (T : Nat) (vo : Value) (cnt : Nat) (j : Nat) (u : Value) : (tlo own T vo cnt).set (45 + j) u = (own45 own).map (Value.int .i64) ++ [Value.int .i64 T, vo, .int .i64 cnt].set j u := by
  unfold tlo
  rw [List.set_append_right _ _ (by rw [List.length_map, own45_len]; omega), List.length_map, own45_len, Nat.add_sub_cancel_left]
/-- The plain heap at H, in the blocks K; V: what its lists keep off. -/
structure Ph (w : World) (K V : List Nat) (H : Nat) (vk : Value) (vs : List Value) (vo : Value) (os : List Pb) (y : Hq) : Prop where
  hh : Hh w V H vk vs (tlo y.own y.T vo y.cnt) y.ks y.fr
  vv : ∀ q, q < w.heap.size → q ∉ K → q ∈ V
  hk : H ∈ K
  kl : ∀ q, q ∈ K → q < w.heap.size
  ok : ∀ q, vo.ownBlock = some q → q ∈ K ∧ q ∈ V
  lp : Lp w 0 vo os
  fl : ∀ o ∈ os, va.Lv w 0 o.v o.l ∧ ∀ q, o.v.ownBlock = some q → q ∈ K
  eq : os.map pob = y.ob
def Pl (w : World) (K : List Nat) (H : Nat) (y : Hq) : Prop := ∃ V vk vs vo os, Ph w K V H vk vs vo os y
/-- What a call that changes the plain heap leaves. -/
def Pa (K : List Nat) (H : Nat) (v : Value) (y : Hq) (w : World) (e : Ending) (w' : World) : Prop := e = .returned v ∧ ∃ K', (∀ q, q ∈ K' → q ∈ K ∨ w.heap.size ≤ q) ∧ Pl w' K' H y ∧ Gr K w w'
section
variable {w w' : World} {K V M : List Nat} {H : Nat} {vk vo : Value} {vs : List Value} {os : List Pb} {y : Hq} {tl : List Value} {ks : List Int} {fr : Nat → List Int}
/-- Other blocks to keep off, in a later world. -/
theorem hh_re {V' : List Nat} (h : Hh w V H vk vs tl ks fr) (hg : Gr M w w') (hM : ∀ q, q ∈ M → q < w.heap.size → q ∈ V ∧ q ≠ H) (hV : ∀ k, k ∈ V' → k ∈ V ∨ w.heap.size ≤ k) (hV2 : ∀ k, k ∈ V → k ∈ V') (hl : ∀ k, k ∈ V' → k < w'.heap.size) : Hh w' V' H vk vs tl ks fr := by
  have hg' : Gr (M.filter fun q => decide (q < w.heap.size)) w w' := ⟨hg.os, hg.tape, hg.output, hg.size, fun k h1 h2 => hg.block k h1 (fun hm => h2 (List.mem_filter.2 ⟨hm, by simpa using h1⟩))⟩
  have hM' : ∀ q, q ∈ M.filter (fun q => decide (q < w.heap.size)) → q ∈ V ∧ q ≠ H := fun q hq => by
    obtain ⟨h1, h2⟩ := List.mem_filter.1 hq
    exact hM q h1 (by simpa using h2)
  refine ⟨hg'.heap h.hea (fun hm => (hM' _ hm).2 rfl), h.vsl, (h.kd.re hV).gr hg' (fun k hk => hV2 _ (hM' k hk).1), fun p hp => ?_, hV2 _ h.hV, hl⟩
  obtain ⟨v, h1, h2⟩ := h.fre p hp
  exact ⟨v, h1, (h2.re hV).gr hg' (fun k hk => hV2 _ (hM' k hk).1)⟩
/-- The blocks of V, and all new ones. -/
def more (V : List Nat) (a b : Nat) : List Nat := V ++ List.range' a (b - a)
theorem more_in {a b q : Nat} (hab : a ≤ b) : q ∈ more V a b ↔ q ∈ V ∨ (a ≤ q ∧ q < b) := by
  unfold more
  rw [List.mem_append, List.mem_range'_1]
  constructor
  · rintro (h | h)
    · exact .inl h
    · exact .inr (by omega)
  · rintro (h | h)
    · exact .inl h
    · exact .inr (by omega)
theorem Ph.HK (h : Ph w K V H vk vs vo os y) : H < w.heap.size := h.kl H h.hk
theorem va_gr {m : List Va} {v : Value} (h : va.Lv w 0 v m) (hg : Gr M w w') (hL : ∀ q, v.ownBlock = some q → q ∉ M) : va.Lv w' 0 v m := row_gr h hg hL
/-- What writes none of it. -/
theorem Ph.gr (h : Ph w K V H vk vs vo os y) (hg : Gr M w w') (hM : ∀ q, q ∈ M → q ∉ K) : Ph w' K (more V w.heap.size w'.heap.size) H vk vs vo os y := by
  have hs := hg.size
  refine ⟨hh_re h.hh hg (fun q hq hl => ⟨h.vv q hl (hM q hq), fun e => hM q hq (e ▸ h.hk)⟩) (fun k hk => ((more_in hs).1 hk).imp id (fun e => e.1)) (fun k hk => (more_in hs).2 (.inl hk)) (fun k hk => ?_), fun q hq hn => ?_, h.hk, fun q hq => Nat.lt_of_lt_of_le (h.kl q hq) hs, fun q hq => ⟨(h.ok q hq).1, (more_in hs).2 (.inl (h.ok q hq).2)⟩, h.lp.gr hg (fun q hq hm => hM q hm (h.ok q hq).1), fun o ho => ⟨va_gr (h.fl o ho).1 hg (fun q hq hm => hM q hm ((h.fl o ho).2 q hq)), (h.fl o ho).2⟩, h.eq⟩
  · rcases (more_in hs).1 hk with e | e
    · exact Nat.lt_of_lt_of_le (h.hh.lt k e) hs
    · exact e.2
  · by_cases e : q < w.heap.size
    · exact (more_in hs).2 (.inl (h.vv q e hn))
    · exact (more_in hs).2 (.inr ⟨by omega, hq⟩)
theorem Pl.gr (h : Pl w K H y) (hg : Gr M w w') (hM : ∀ q, q ∈ M → q ∉ K) : Pl w' K H y := by
  obtain ⟨V, vk, vs, vo, os, h⟩ := h
  exact ⟨_, _, _, _, _, h.gr hg hM⟩
theorem Pl.new (h : Pl w K H y) (hg : w.grownBy w' none) : Pl w' K H y := h.gr (M := []) (.new hg) (by simp)
theorem Pl.lt (h : Pl w K H y) : ∀ q, q ∈ K → q < w.heap.size := by
  obtain ⟨V, vk, vs, vo, os, h⟩ := h
  exact h.kl
theorem Ph.hea (h : Ph w K V H vk vs vo os y) : w.heap[H]? = some (.cells (vk :: (vs ++ tlo y.own y.T vo y.cnt)).toArray 60 (0, 0)) := h.hh.hea
theorem hcell (h : w.heap[H]? = some (.cells (vk :: (vs ++ tl)).toArray 60 (0, 0))) (hl : vs.length = 64) (j : Nat) : w.cell? ⟨H, 65 + j, none⟩ = tl[j]? := by
  rw [cell_of_row w H (65 + j) _ _ _ h, show 65 + j = 64 + j + 1 by omega]
  simp only [List.getElem?_toArray, List.getElem?_cons_succ]
  rw [List.getElem?_append_right (by omega), hl, Nat.add_sub_cancel_left]
theorem Ph.own_at (h : Ph w K V H vk vs vo os y) {t k : Nat} (ht : t < 9) (hk : k < 5) : w.cell? ⟨H, 65 + t * 5 + k, none⟩ = some (.int .i64 (ca.page y.own t k + 1)) := by
  rw [Nat.add_assoc, hcell h.hea h.hh.vsl, tlo_own _ _ _ _ ht hk]
theorem Ph.cT (h : Ph w K V H vk vs vo os y) : w.cell? ⟨H, 110, none⟩ = some (.int .i64 y.T) := by
  have := hcell h.hea h.hh.vsl 45
  rw [show 65 + 45 = 110 from rfl] at this
  rw [this]
  exact tlo_end _ _ _ _ 0
theorem Ph.cO (h : Ph w K V H vk vs vo os y) : w.cell? ⟨H, 111, none⟩ = some vo := by
  have := hcell h.hea h.hh.vsl 46
  rw [show 65 + 46 = 111 from rfl] at this
  rw [this]
  exact tlo_end _ _ _ _ 1
theorem Ph.cM (h : Ph w K V H vk vs vo os y) : w.cell? ⟨H, 112, none⟩ = some (.int .i64 y.cnt) := by
  have := hcell h.hea h.hh.vsl 47
  rw [show 65 + 47 = 112 from rfl] at this
  rw [this]
  exact tlo_end _ _ _ _ 2
theorem Ph.fz (h : Ph w K V H vk vs vo os y) (k : Nat) : w.frozen? ⟨H, k, none⟩ = false := frozen_of_row w H k _ _ h.hea
theorem Ph.off (h : Ph w K V H vk vs vo os y) : vo.ownBlock ≠ some H := h.lp.off h.hea (fun cs z e => by injection e with _ e _; exact absurd e (by decide))
theorem Ph.offs (h : Ph w K V H vk vs vo os y) {o : Pb} (ho : o ∈ os) : o.v.ownBlock ≠ some H := (h.fl o ho).1.off h.hea (fun cs z e => by injection e with _ e _; exact absurd e (by decide))
/-- The row of the objects is none of their fields' rows. -/
theorem lp_va {m : List Va} {v : Value} {b : Nat} (h : Lp w 0 vo os) (hv : va.Lv w 0 v m) (h1 : vo.ownBlock = some b) : v.ownBlock ≠ some b := by
  rcases h.2 with ⟨rfl, _⟩ | ⟨g, cap, cur, rfl, _, hg, _⟩
  · cases h1
  · injection h1 with h1
    subst h1
    exact hv.off hg (fun cs z e => by injection e with _ e _; exact absurd e (by decide))
theorem Ph.len (h : Ph w K V H vk vs vo os y) : os.length = y.ob.length := by rw [← h.eq, List.length_map]
theorem Ph.nth (h : Ph w K V H vk vs vo os y) {i : Nat} {o : Ob3} (hi : y.ob[i]? = some o) : ∃ p, os[i]? = some p ∧ pob p = o := by
  rw [← h.eq, List.getElem?_map] at hi
  cases hp : os[i]? with
  | none => rw [hp] at hi; cases hi
  | some p => rw [hp] at hi; exact ⟨p, rfl, by simpa using hi⟩
end
end Go.Proofs.YtfloleflcoiidaaGreatDoor.ph

/- The plain heap's calls that only tell: Find, Fields, In, Owner. -/
namespace Go.Proofs.YtfloleflcoiidaaGreatDoor.ph
open Go.ChangeShapes Go.WideShapes Go.ChangeAt Go.RowKit gen calls cls geos ce bo st
set_option linter.unusedVariables false
set_option maxHeartbeats 4000000
set_option maxRecDepth 100000
/-- z is the place of the object at a; -1: there is none. -/
def Fnd (l : List Ob3) (a z : Int) : Prop := (z = -1 ∧ ∀ (j : Nat) o, l[j]? = some o → o.1 ≠ a) ∨ ∃ i : Nat, z = i ∧ (∃ o, l[i]? = some o ∧ o.1 = a) ∧ ∀ (j : Nat) o, j < i → l[j]? = some o → o.1 ≠ a
theorem Fnd.at_ {l : List Ob3} {a z : Int} (h : Fnd l a z) {k : Nat} {o : Ob3} (hk : l[k]? = some o) (ho : o.1 = a) (hno : ∀ (j : Nat) o, j < k → l[j]? = some o → o.1 ≠ a) : z = k := by
  rcases h with ⟨_, h⟩ | ⟨i, rfl, ⟨o2, h1, h2⟩, h3⟩
  · exact absurd ho (h k o hk)
  · rcases Nat.lt_trichotomy i k with e | e | e
    · exact absurd h2 (hno i o2 e h1)
    · rw [e]
    · exact absurd ho (h3 k o e hk)
theorem Fnd.none_ {l : List Ob3} {a z : Int} (h : Fnd l a z) (hno : ∀ (j : Nat) o, j < l.length → l[j]? = some o → o.1 ≠ a) : z = -1 := by
  rcases h with ⟨h, _⟩ | ⟨i, rfl, ⟨o2, h1, h2⟩, h3⟩
  · exact h
  · exact absurd h2 (hno i o2 (List.getElem?_eq_some_iff.1 h1).1 h1)
section
variable {w w' : World} {K V : List Nat} {H : Nat} {vk vo : Value} {vs : List Value} {os : List Pb} {y : Hq}
/-- The i-th object's cells. -/
theorem Ph.at_ (h : Ph w K V H vk vs vo os y) {i : Nat} (hi : i < y.ob.length) : ∃ (o : Ob3) (p : Pb) (b c : Nat), y.ob[i]? = some o ∧ os[i]? = some p ∧ pob p = o ∧ vo = .slice (some ⟨b, 0, none⟩) y.ob.length c ∧ vo.ownBlock = some b ∧ b < w.heap.size ∧ y.ob.length ≤ c ∧ c ≤ maxLen ∧ w.cell? ⟨b, i * 3, none⟩ = some (.int .i64 o.1) ∧ w.cell? ⟨b, i * 3 + 1, none⟩ = some (.int .i64 o.2.1) ∧ w.cell? ⟨b, i * 3 + 2, none⟩ = some p.v ∧ w.frozen? ⟨b, i * 3 + 2, none⟩ = false := by
  have ho : y.ob[i]? = some y.ob[i] := List.getElem?_eq_getElem hi
  obtain ⟨p, hp, e⟩ := h.nth ho
  obtain ⟨b, c, e1, e2, e3, e4, e5, e6, e7, e8, e9⟩ := h.lp.at_ hp
  rw [h.len] at e1 e4
  exact ⟨_, p, b, c, ho, hp, e, e1, e2, e3, e4, e5, by rw [← e]; exact e6, by rw [← e]; exact e7, e8, e9⟩
theorem Ph.shape (h : Ph w K V H vk vs vo os y) : ∃ A c, vo = .slice A y.ob.length c ∧ y.ob.length ≤ c ∧ c ≤ maxLen := by
  obtain ⟨A, N, c, e1, e2, e3, e4⟩ := h.lp.shape
  rw [h.len] at e2
  exact ⟨A, c, by rw [e1, e2], by omega, e4⟩
theorem rFind_any (h : Ph w K V H vk vs vo os y) {a z : Int} (hz : Fnd y.ob a z) :
    Calls Tryz.prog 130 #[.pointer (some ⟨H, 0, none⟩), .int .i64 a] w fun e w' => e = int1 z ∧ w = w' := by
  have cO := h.cO
  obtain ⟨A, c, e1, n1, n2⟩ := h.shape
  obtain ⟨n, hn⟩ : ∃ n, y.ob.length = n := ⟨_, rfl⟩
  have AT := Lib.hid (fun i (hi : i < n) => h.at_ (i := i) (by omega))
  have HZ := Lib.hid hz
  have HN := Lib.hid hn
  rw [hn] at e1 n1
  subst e1
  unfold maxLen at n2
  clear h hz hn
  go_enter Tryz.func130, Tryz.ntmps130
  go_wp2
  go_loopw [5] (fun i wr => ∃ k : Nat, k ≤ n ∧ i = .int .i64 k ∧ (∀ (j : Nat) o, j < k → y.ob[j]? = some o → o.1 ≠ a) ∧ w = wr) (fun i _ => n - (intOf i).toNat)
  case atStart => exact ⟨0, Nat.zero_le _, rfl, fun j o hj => absurd hj (by omega), rfl⟩
  case round =>
    obtain ⟨k, hk, rfl, hno, rfl⟩ := hrel
    have HNO := Lib.hid hno
    clear hno
    by_cases hlt : k < n
    · obtain ⟨o, p, b, c', h1, h2, h3, h4, h5, h6, h7, h8, g0, _⟩ := AT.out k hlt
      injection h4 with h4 h9 h10
      subst h4
      have H1 := Lib.hid h1
      have l1 : (0 : Int) ≤ (k : Int) := by omega
      have l2 : (k : Int) < n := by omega
      clear h1 h2 h3 h5 h7 h8
      obtain ⟨o1, o2⟩ := o
      dsimp only at g0
      by_cases he : o1 = a
      · subst he
        have RS := Lib.hid (HZ.out.at_ H1.out rfl HNO.out)
        go_wp2
        go_ret
        exact ⟨by rw [RS.out]; rfl, rfl⟩
      · have t1 : (o1 == a) = false := by simpa using he
        have HE := Lib.hid he
        clear he
        go_wp2
        go_roundw
        case rel =>
          refine ⟨k + 1, by omega, by go_num, fun j o hj ho => ?_, trivial⟩
          by_cases e : j = k
          · subst e
            rw [H1.out] at ho
            injection ho with ho
            subst ho
            exact HE.out
          · exact HNO.out j o (by omega) ho
        case measure => simp [intOf]; omega
    · obtain rfl : k = n := by omega
      have RS := Lib.hid (HZ.out.none_ (by rw [HN.out]; exact HNO.out))
      go_wp2
      go_ret
      exact ⟨by rw [RS.out]; rfl, rfl⟩
/-- What Fields tells of an object. -/
def FieldsAns (K : List Nat) (l : List Va) (w : World) (e : Ending) (w' : World) : Prop :=
  ∃ A c, e = .returned (.tuple #[.slice A l.length c, .bool true]) ∧ w = w' ∧ va.Rv w w.heap.size A l.length c l ∧ ∀ ad, A = some ad → 0 < l.length → ad.block ∈ K
theorem Ph.read (h : Ph w K V H vk vs vo os y) {p : Pb} (hp : p ∈ os) : ∃ A c, p.v = .slice A p.l.length c ∧ va.Rv w w.heap.size A p.l.length c p.l ∧ (∀ ad, A = some ad → 0 < p.l.length → ad.block ∈ K) ∧ (A = none → p.l.length = 0 ∧ c = 0) := by
  obtain ⟨f1, f2⟩ := h.fl p hp
  obtain ⟨A, N, c, e1, e2, e3, e4⟩ := f1.shape
  rw [e1, e2] at f1
  refine ⟨A, c, by rw [e1, e2], f1.rv rfl, fun ad e hl => ?_, fun e => ?_⟩
  · rcases f1.2 with ⟨e5, _⟩ | ⟨g, cap, cur, e5, _⟩
    · injection e5 with e5
      rw [e] at e5
      cases e5
    · injection e5 with e5 _ _
      rw [e] at e5
      injection e5 with e5
      subst e5
      refine f2 g ?_
      rw [e1, e]
      rfl
  · rcases f1.2 with ⟨e5, h0⟩ | ⟨g, cap, cur, e5, _⟩
    · injection e5 with _ e5 e6
      exact ⟨e5, e6⟩
    · injection e5 with e5
      rw [e] at e5
      cases e5
/-- The objects of a page, by address. -/
def inq (l : List Ob3) (p : Int) : List Int := (l.filter fun o => decide (o.1 / 32 = p)).map (·.1)
theorem inq_more {l : List Ob3} {p : Int} {k : Nat} {o : Ob3} (ho : l[k]? = some o) : inq (l.take (k + 1)) p = if o.1 / 32 = p then inq (l.take k) p ++ [o.1] else inq (l.take k) p := by
  have e : l.take (k + 1) = l.take k ++ [o] := by rw [List.take_add_one, ho]; rfl
  unfold inq
  rw [e, List.filter_append, List.map_append]
  by_cases h : o.1 / 32 = p
  · rw [if_pos h]; simp [h]
  · rw [if_neg h]; simp [h]
theorem inq_len (l : List Ob3) (p : Int) : (inq l p).length ≤ l.length := by unfold inq; rw [List.length_map]; exact List.length_filter_le _ _
theorem rIn_any (h : Ph w K V H vk vs vo os y) (hA : ∀ o ∈ y.ob, 0 ≤ o.1 ∧ o.1 ≤ 2047) (hl : y.ob.length ≤ 2048) (p : Int) :
    Calls Tryz.prog 101 #[.pointer (some ⟨H, 0, none⟩), .int .i64 p] w (li.ListAns (inq y.ob p) w) := by
  obtain ⟨i0, hi, hz0, hz1, hz2⟩ := info_parts li.info_int
  have E : Hid (i0.zero = some (.int .i64 0) ∧ i0.size = 1 ∧ i0.bytes = 8 ∧ Tryz.prog.info? 3 = some i0) := ⟨hz0, hz1, hz2, hi⟩
  clear hi hz0 hz1 hz2
  obtain ⟨A, c, e1, n1, n2⟩ := h.shape
  obtain ⟨n, hn⟩ : ∃ n, y.ob.length = n := ⟨_, rfl⟩
  have AT := Lib.hid (fun W (hg : w.grownBy W none) i (hi : i < n) => (h.gr (Gr.new (L := []) hg) (by simp)).at_ (i := i) (by omega))
  have CO := Lib.hid (fun W (hg : w.grownBy W none) => (h.gr (Gr.new (L := []) hg) (by simp)).cO)
  have HA := Lib.hid hA
  have HN := Lib.hid hn
  have IP := Lib.hid (show inq y.ob p = inq (y.ob.take n) p by rw [List.take_of_length_le (by omega)])
  have LE := Lib.hid (fun k => (show (inq (y.ob.take k) p).length ≤ 2048 from by have := inq_len (y.ob.take k) p; rw [List.length_take] at this; omega))
  rw [hn] at e1 n1 hl
  subst e1
  unfold maxLen at n2
  clear h hn hA
  go_enter Tryz.func101, Tryz.ntmps101
  go_wp2
  go_loopw [5, 6] (fun v i wr => ∃ (k : Nat) (A' : Option Addr) (m c' : Nat), k ≤ n ∧ i = .int .i64 k ∧ m = (inq (y.ob.take k) p).length ∧ v = .slice A' m c' ∧ wr.ownsRow w.heap.size 3 1 (.slice A' m c') m (li.ints (inq (y.ob.take k) p)) ∧ w.grownBy wr none) (fun _ i _ => n - (intOf i).toNat)
  case atStart => exact ⟨0, none, 0, 0, Nat.zero_le _, rfl, rfl, rfl, World.ownsRow_nil _ _ _ _, World.grownBy.refl _ _⟩
  case round =>
    obtain ⟨k, A', m, c', hk, rfl, hm, rfl, ho, hg⟩ := hrel
    have HO := Lib.hid ho
    have HG := Lib.hid hg
    have HM := Lib.hid hm
    have SZW := Lib.hid (show w.heap.size ≤ wr.heap.size from hg.size)
    have cO := CO.out _ hg
    clear ho hg hm
    by_cases hlt : k < n
    · obtain ⟨o, q, b, c'', h1, h2, h3, h4, h5, h6, h7, h8, g0, _⟩ := AT.out _ HG.out k hlt
      injection h4 with h4 h9 h10
      subst h4
      have M1 := Lib.hid (inq_more (p := p) h1)
      obtain ⟨a0, a1⟩ := HA.out o (List.mem_of_getElem? h1)
      have L1 := Lib.hid (LE.out k)
      have l1 : (0 : Int) ≤ (k : Int) := by omega
      have l2 : (k : Int) < n := by omega
      clear h1 h2 h3 h5 h7 h8
      obtain ⟨a, o2⟩ := o
      dsimp only at g0 a0 a1 M1
      by_cases hp : a / 32 = p
      · have t1 : (a / 32 == p) = true := by simpa using hp
        have M2 := Lib.hid (M1.out.trans (if_pos hp))
        clear hp M1
        go_wp2_with (refine wpList_append_rd rfl (.tmp 27) (.tmp 36) 31 rfl w.heap.size 3 i0 (.int .i64 0) 8 Tryz.underlying31 E.out.2.2.2 E.out.1 E.out.2.1 E.out.2.2.1 rfl _ m _ rfl (HO.out.alloc _) (some ⟨wr.heap.size, 0, none⟩) 1 1 _ [a] rfl (li.Rd.one _ _ _) (by have := HM.out; have := L1.out; unfold maxLen; omega) (by have := HM.out; have := L1.out; omega) (by have := SZW.out; simp; omega) ?_; intro A6 c6 w6 own1 rd1 gr1; have OWN1 := Lib.hid own1; have GR1 := Lib.hid gr1; clear own1 gr1 rd1)
        go_roundw
        case rel => exact ⟨k + 1, A6, m + 1, c6, by omega, by go_num, by rw [M2.out, List.length_append, ← HM.out]; rfl, rfl, by rw [M2.out]; simpa [li.ints] using OWN1.out, li.grown_one HG.out HO.out (Nat.le_refl _) GR1.out⟩
        case measure => simp [intOf]; omega
      · have t1 : (a / 32 == p) = false := by simpa using hp
        have M2 := Lib.hid (M1.out.trans (if_neg hp))
        clear hp M1
        go_wp2
        go_roundw
        case rel => exact ⟨k + 1, A', m, c', by omega, by go_num, by rw [M2.out, ← HM.out], rfl, by rw [M2.out]; exact HO.out, HG.out⟩
        case measure => simp [intOf]; omega
    · obtain rfl : k = n := by omega
      go_wp2
      go_ret
      rw [IP.out]
      have hm := HM.out
      subst hm
      exact ⟨A', c', rfl, HO.out, HG.out⟩
end
end Go.Proofs.YtfloleflcoiidaaGreatDoor.ph

/- The plain heap, whole: what its own writes make of it. -/
namespace Go.Proofs.YtfloleflcoiidaaGreatDoor.ph
open Go.ChangeShapes Go.WideShapes Go.ChangeAt Go.RowKit gen calls cls geos ce bo st
set_option linter.unusedVariables false
set_option maxHeartbeats 4000000
set_option maxRecDepth 100000
section
variable {w w' : World} {K V M X : List Nat} {H : Nat} {vk vo vo' : Value} {vs : List Value} {os os' : List Pb} {y : Hq} {tl : List Value} {ks : List Int} {fr : Nat → List Int}
/-- A cell behind the lists written. -/
theorem hh_tail (h : Hh w V H vk vs tl ks fr) (j : Nat) (u : Value) : Hh (w.setCell ⟨H, 65 + j, none⟩ u) V H vk vs (tl.set j u) ks fr := by
  have G : Gr [H] w (w.setCell ⟨H, 65 + j, none⟩ u) := .set _ _ _ _ (by simp)
  have hL : ∀ k, k ∈ [H] → k ∈ V := fun k hk => by simp at hk; subst hk; exact h.hV
  have vl := h.vsl
  refine ⟨?_, h.vsl, h.kd.gr G hL, fun p hp => by obtain ⟨v, h1, h2⟩ := h.fre p hp; exact ⟨v, h1, h2.gr G hL⟩, h.hV, fun k hk => Nat.lt_of_lt_of_le (h.lt k hk) G.size⟩
  rw [heap_setCell_same w H _ _ _ _ h.hea, List.setIfInBounds_toArray, show 65 + j = (64 + j) + 1 by omega, List.set_cons_succ, List.set_append_right _ _ (by omega), vl, Nat.add_sub_cancel_left]
theorem set_gr (w : World) (H j : Nat) (u : Value) : Gr [H] w (w.setCell ⟨H, j, none⟩ u) := .set _ _ _ _ (by simp)
theorem set_size (w : World) (H j : Nat) (u : Value) : (w.setCell ⟨H, j, none⟩ u).heap.size = w.heap.size := by simp
/-- The heap's lists are others. -/
theorem Ph.heap {vk' : Value} {vs' : List Value} {ks' : List Int} {fr' : Nat → List Int} (h : Ph w K V H vk vs vo os y) (hh : Hh w' V H vk' vs' (tlo y.own y.T vo y.cnt) ks' fr') (hg : Gr [H] w w') : Ph w' (more K w.heap.size w'.heap.size) V H vk' vs' vo os { y with ks := ks', fr := fr' } := by
  have hs := hg.size
  have o1 := h.off
  refine ⟨hh, fun q hq hn => ?_, (more_in hs).2 (.inl h.hk), fun q hq => ?_, fun q hq => ⟨(more_in hs).2 (.inl (h.ok q hq).1), (h.ok q hq).2⟩, h.lp.gr hg (fun q hq hm => o1 (by simp at hm; rw [hq, hm])), fun o ho => ⟨va_gr (h.fl o ho).1 hg (fun q hq hm => h.offs ho (by simp at hm; rw [hq, hm])), fun q hq => (more_in hs).2 (.inl ((h.fl o ho).2 q hq))⟩, h.eq⟩
  · refine h.vv q ?_ (fun e => hn ((more_in hs).2 (.inl e)))
    rcases Nat.lt_or_ge q w.heap.size with e | e
    · exact e
    · exact absurd ((more_in hs).2 (.inr ⟨e, hq⟩)) hn
  · rcases (more_in hs).1 hq with e | e
    · exact Nat.lt_of_lt_of_le (h.kl q e) hs
    · exact e.2
/-- One more is made. -/
theorem Ph.made (h : Ph w K V H vk vs vo os y) (m : Nat) : Ph (w.setCell ⟨H, 112, none⟩ (.int .i64 m)) K V H vk vs vo os { y with cnt := m } := by
  have hg := set_gr w H 112 (.int .i64 m)
  have o1 := h.off
  have hh := hh_tail h.hh 47 (.int .i64 m)
  rw [tlo_set y.own y.T vo y.cnt 2 (.int .i64 m)] at hh
  exact ⟨hh, fun q hq hn => h.vv q (by rwa [set_size] at hq) hn, h.hk, fun q hq => by rw [set_size]; exact h.kl q hq, h.ok, h.lp.gr hg (fun q hq hm => o1 (by simp at hm; rw [hq, hm])), fun o ho => ⟨va_gr (h.fl o ho).1 hg (fun q hq hm => h.offs ho (by simp at hm; rw [hq, hm])), (h.fl o ho).2⟩, h.eq⟩
/-- A page is a thread's. -/
theorem Ph.owned (h : Ph w K V H vk vs vo os y) {t k : Nat} (ht : t < 9) (hk : k < 5) (hk0 : k ≠ 0) (p : Int) : Ph (w.setCell ⟨H, 65 + t * 5 + k, none⟩ (.int .i64 (p + 1))) K V H vk vs vo os { y with own := ca.rest y.own t k ++ [((t : Int), (k : Int), p)] } := by
  rw [Nat.add_assoc]
  have hg := set_gr w H (65 + (t * 5 + k)) (.int .i64 (p + 1))
  have o1 := h.off
  have hh := hh_tail h.hh (t * 5 + k) (.int .i64 (p + 1))
  rw [tlo_put y.own y.T vo y.cnt ht hk hk0 p] at hh
  exact ⟨hh, fun q hq hn => h.vv q (by rwa [set_size] at hq) hn, h.hk, fun q hq => by rw [set_size]; exact h.kl q hq, h.ok, h.lp.gr hg (fun q hq hm => o1 (by simp at hm; rw [hq, hm])), fun o ho => ⟨va_gr (h.fl o ho).1 hg (fun q hq hm => h.offs ho (by simp at hm; rw [hq, hm])), (h.fl o ho).2⟩, h.eq⟩
/-- The objects are others, in a list that is new. -/
theorem Ph.objs {ob' : List Ob3} (h : Ph w K V H vk vs vo os y) (hl : Lp w 0 vo' os') (hX : ∀ q, q ∈ X → q < w.heap.size) (hv : ∀ q, vo'.ownBlock = some q → q ∈ X ∧ q ∉ K) (hf : ∀ o ∈ os', va.Lv w 0 o.v o.l ∧ ∀ q, o.v.ownBlock = some q → q ∈ X ++ K) (he : os'.map pob = ob') :
    Ph (w.setCell ⟨H, 111, none⟩ vo') (X ++ K) V H vk vs vo' os' { y with ob := ob' } := by
  have hg := set_gr w H 111 vo'
  have hh := hh_tail h.hh 46 vo'
  rw [tlo_set y.own y.T vo y.cnt 1 vo'] at hh
  have o1 : vo'.ownBlock ≠ some H := hl.off h.hea (fun cs z e => by injection e with _ e _; exact absurd e (by decide))
  refine ⟨hh, fun q hq hn => h.vv q (by rwa [set_size] at hq) (fun e => hn (List.mem_append.2 (.inr e))), List.mem_append.2 (.inr h.hk), fun q hq => ?_, fun q hq => ⟨List.mem_append.2 (.inl (hv q hq).1), h.vv q (hX q (hv q hq).1) (hv q hq).2⟩, hl.gr hg (fun q hq hm => o1 (by simp at hm; rw [hq, hm])), fun o ho => ⟨va_gr (hf o ho).1 hg (fun q hq hm => ?_), (hf o ho).2⟩, he⟩
  · rw [set_size]
    exact (List.mem_append.1 hq).elim (hX q) (h.kl q)
  · refine (hf o ho).1.off h.hea (fun cs z e => by injection e with _ e _; exact absurd e (by decide)) ?_
    simp at hm
    rw [hq, hm]
theorem setf_pob : ∀ (os : List Pb) (i : Nat) (u : Value) (l : List Va), (setf os i u l).map pob = (os.map pob).modify i fun o => (o.1, o.2.1, l)
  | [], i, u, l => by simp [setf]
  | x :: m, 0, u, l => rfl
  | x :: m, i + 1, u, l => by
    have h := setf_pob m i u l
    unfold setf at h ⊢
    rw [List.modify_succ_cons, List.map_cons, List.map_cons, List.modify_succ_cons, h]
theorem setf_mem : ∀ (os : List Pb) (i : Nat) (u : Value) (l : List Va) (o : Pb), o ∈ setf os i u l → o ∈ os ∨ (o.v = u ∧ o.l = l)
  | [], i, u, l, o, h => by simp [setf] at h
  | x :: m, 0, u, l, o, h => by
    unfold setf at h
    rw [List.modify_zero_cons] at h
    rcases List.mem_cons.1 h with rfl | h
    · exact .inr ⟨rfl, rfl⟩
    · exact .inl (by simp [h])
  | x :: m, i + 1, u, l, o, h => by
    unfold setf at h
    rw [List.modify_succ_cons] at h
    rcases List.mem_cons.1 h with rfl | h
    · exact .inl (by simp)
    · exact (setf_mem m i u l o h).imp (fun e => by simp [e]) id
/-- One object's fields are another list, that is new. -/
theorem Ph.field (h : Ph w K V H vk vs vo os y) {i b : Nat} {u : Value} {l : List Va} (hb : vo.ownBlock = some b) (hi : i < os.length) (hl : va.Lv w 0 u l) (hX : ∀ q, q ∈ X → q < w.heap.size) (hu : ∀ q, u.ownBlock = some q → q ∈ X ++ K) :
    Ph (w.setCell ⟨b, i * 3 + 2, none⟩ u) (X ++ K) V H vk vs vo (setf os i u l) { y with ob := y.ob.modify i fun o => (o.1, o.2.1, l) } := by
  have hg := set_gr w b (i * 3 + 2) u
  have o1 := h.off
  have bH : b ≠ H := fun e => o1 (by rw [hb, e])
  obtain ⟨bK, bV⟩ := h.ok b hb
  have hh := h.hh.gr hg (fun k hk => by simp at hk; subst hk; exact ⟨bV, bH⟩)
  obtain ⟨A, N, c, e1, _⟩ := hl.shape
  refine ⟨hh, fun q hq hn => h.vv q (by rwa [set_size] at hq) (fun e => hn (List.mem_append.2 (.inr e))), List.mem_append.2 (.inr h.hk), fun q hq => ?_, fun q hq => ⟨List.mem_append.2 (.inr (h.ok q hq).1), (h.ok q hq).2⟩, h.lp.set hb hi u l ⟨A, N, c, e1⟩, fun o ho => ?_, by rw [setf_pob, h.eq]⟩
  · rw [set_size]
    exact (List.mem_append.1 hq).elim (hX q) (h.kl q)
  · rcases setf_mem os i u l o ho with e | ⟨e2, e3⟩
    · exact ⟨va_gr (h.fl o e).1 hg (fun q hq hm => by simp at hm; subst hm; exact lp_va h.lp (h.fl o e).1 hb hq), fun q hq => List.mem_append.2 (.inr ((h.fl o e).2 q hq))⟩
    · rw [e2, e3]
      exact ⟨va_gr hl hg (fun q hq hm => by simp at hm; subst hm; exact lp_va h.lp hl hb hq), hu⟩
end
end Go.Proofs.YtfloleflcoiidaaGreatDoor.ph
