/- Texts that this claim stands on. -/
import Derived.Laws.AppendOwn
import Derived.Laws.CopyOwn
import Derived.Laws.MakeOwn
import Derived.Test.YtfhebjkoojodiaaDoorPGen
import Derived.Test.YtfhebjkoojodiaaDoorPGenC
namespace Go.Proofs.YtfhebjkoojodiaaDoor.va
open Go.ChangeShapes Go.WideShapes Go.ChangeAt Go.RowKit gen li
set_option linter.unusedVariables false
set_option maxHeartbeats 4000000
set_option maxRecDepth 100000
abbrev Va := Int × Int
def vc (m : List Va) : List Value := m.flatMap fun x => [.int .i64 x.1, .int .i64 x.2]
theorem vc_cons (x : Va) (m : List Va) : vc (x :: m) = .int .i64 x.1 :: .int .i64 x.2 :: vc m := rfl
theorem vc_append (m l : List Va) : vc (m ++ l) = vc m ++ vc l := by simp [vc]
theorem vc_length : ∀ m : List Va, (vc m).length = 2 * m.length
  | [] => rfl
  | x :: m => by rw [vc_cons, List.length_cons, List.length_cons, vc_length m, List.length_cons]; omega
theorem vc_at : ∀ (m : List Va) (i : Nat), i < m.length → (vc m)[2 * i]? = some (.int .i64 (m.getD i (0, 0)).1) ∧ (vc m)[2 * i + 1]? = some (.int .i64 (m.getD i (0, 0)).2)
  | [], i, h => by simp at h
  | x :: m, 0, _ => ⟨rfl, rfl⟩
  | x :: m, i + 1, h => by
    have h1 := vc_at m i (by simpa using h)
    rw [vc_cons, show 2 * (i + 1) = 2 * i + 1 + 1 by omega]
    refine ⟨?_, ?_⟩
    · rw [List.getElem?_cons_succ, List.getElem?_cons_succ]; simpa using h1.1
    · rw [List.getElem?_cons_succ, List.getElem?_cons_succ]; simpa using h1.2
theorem vc_one (m : List Va) : ∀ v ∈ vc m, v.oneCell' = true := by
  intro v hv
  obtain ⟨x, _, hx⟩ := List.mem_flatMap.1 hv
  simp at hx
  rcases hx with rfl | rfl <;> rfl
theorem getD_mem {m : List Va} {i : Nat} (hi : i < m.length) : m.getD i (0, 0) ∈ m := by
  rw [List.getD_eq_getElem?_getD, List.getElem?_eq_getElem hi]
  exact List.getElem_mem hi
theorem take_more {m : List Va} {i : Nat} (hi : i < m.length) : m.take (i + 1) = m.take i ++ [m.getD i (0, 0)] := by
  rw [List.take_add_one, List.getD_eq_getElem?_getD, List.getElem?_eq_getElem hi]
  rfl
def Rv (w : World) (B : Nat) (A : Option Addr) (n c : Nat) (m : List Va) : Prop :=
  m.length = n ∧ n ≤ c ∧ c ≤ maxLen ∧ ∀ i, i < n → ∃ b off, A = some ⟨b, off, none⟩ ∧ b < B ∧ w.cell? ⟨b, off + i * 2, none⟩ = some (.int .i64 (m.getD i (0, 0)).1) ∧ w.cell? ⟨b, off + i * 2 + 1, none⟩ = some (.int .i64 (m.getD i (0, 0)).2)
theorem Rv.at_ {w : World} {B n c i : Nat} {A : Option Addr} {m : List Va} (h : Rv w B A n c m) (hi : i < n) :
    ∃ b off, A = some ⟨b, off, none⟩ ∧ w.cell? ⟨b, off + i * 2, none⟩ = some (.int .i64 (m.getD i (0, 0)).1) ∧ w.cell? ⟨b, off + i * 2 + 1, none⟩ = some (.int .i64 (m.getD i (0, 0)).2) := by
  obtain ⟨b, off, e, _, h1, h2⟩ := h.2.2.2 i hi
  exact ⟨b, off, e, h1, h2⟩
theorem Rv.kept {w w' : World} {B n c : Nat} {A : Option Addr} {m : List Va} {row : Option Nat} (h : Rv w B A n c m) (hg : w.grownBy w' row) (hr : ∀ ad, A = some ad → 0 < n → some ad.block ≠ row) : Rv w' B A n c m := by
  refine ⟨h.1, h.2.1, h.2.2.1, fun i hi => ?_⟩
  obtain ⟨b, off, e, hb, h1, h2⟩ := h.2.2.2 i hi
  have := hr _ e (by omega)
  exact ⟨b, off, e, hb, hg.cell h1 this, hg.cell h2 this⟩
theorem Rv.made {w w' : World} {B n c : Nat} {A : Option Addr} {m : List Va} (h : Rv w B A n c m) (hg : w.grownBy w' none) : Rv w' B A n c m := h.kept hg (by simp)
theorem Rv.nil (w : World) (B : Nat) : Rv w B none 0 0 [] := ⟨rfl, Nat.le_refl _, by unfold maxLen; omega, fun i hi => by omega⟩
theorem Rv.less {w : World} {B n c k c' : Nat} {A : Option Addr} {m : List Va} (h : Rv w B A n c m) (hk : k ≤ n) (h1 : k ≤ c') (h2 : c' ≤ maxLen) : Rv w B A k c' (m.take k) := by
  refine ⟨by rw [List.length_take, h.1]; omega, h1, h2, fun i hi => ?_⟩
  obtain ⟨b, off, e, hb, c1, c2⟩ := h.2.2.2 i (by omega)
  have e2 : (m.take k).getD i (0, 0) = m.getD i (0, 0) := by simp [List.getD_eq_getElem?_getD, hi]
  exact ⟨b, off, e, hb, by rw [e2]; exact c1, by rw [e2]; exact c2⟩
theorem Rv.cells {w : World} {B n c : Nat} {A : Option Addr} {m : List Va} (h : Rv w B A n c m) : ∀ ad, A = some ad → ∀ j u, (vc m)[j]? = some u → w.cell? (ad.add j) = some u := by
  intro ad e j u hu
  have hj : j < 2 * m.length := by have := (List.getElem?_eq_some_iff.mp hu).1; rwa [vc_length] at this
  obtain ⟨b, off, e2, _, c1, c2⟩ := h.2.2.2 (j / 2) (by have := h.1; omega)
  obtain ⟨a1, a2⟩ := vc_at m (j / 2) (by omega)
  rw [e] at e2
  injection e2 with e2
  subst e2
  rw [Addr.add_lit]
  rcases Nat.mod_two_eq_zero_or_one j with h0 | h0
  · rw [show 2 * (j / 2) = j by omega, hu] at a1
    rw [show off + j = off + j / 2 * 2 by omega, c1, a1]
  · rw [show 2 * (j / 2) + 1 = j by omega, hu] at a2
    rw [show off + j = off + j / 2 * 2 + 1 by omega, c2, a2]
def Lv (w : World) (base : Nat) (v : Value) (m : List Va) : Prop := w.ownsRow base 57 2 v m.length (vc m)
section
variable {w w' : World} {base : Nat} {v : Value} {m : List Va}
theorem Lv.nil (w : World) (base : Nat) : Lv w base (.slice none 0 0) [] := World.ownsRow_nil _ _ _ _
theorem Lv.mono {base' : Nat} (h : Lv w base v m) (hb : base' ≤ base) : Lv w base' v m := by
  refine ⟨h.1, ?_⟩
  rcases h.2 with hn | ⟨g, cap, cur, hv, hbg, rest⟩
  · exact .inl hn
  · exact .inr ⟨g, cap, cur, hv, Nat.le_trans hb hbg, rest⟩
theorem Lv.kept {row : Option Nat} (h : Lv w base v m) (hg : w.grownBy w' row) (hr : v.ownBlock = none ∨ v.ownBlock ≠ row) : Lv w' base v m := World.ownsRow.kept h hg hr
theorem Lv.new (h : Lv w base v m) (hg : w.grownBy w' none) : Lv w' base v m := h.kept hg (by cases v.ownBlock <;> simp)
theorem Lv.off {k : Nat} {o : Obj} (h : Lv w base v m) (hk : w.heap[k]? = some o) (hn : ∀ cs z, o ≠ .cells cs 57 z) : v.ownBlock ≠ some k := fun e => by
  rcases h.2 with ⟨rfl, _⟩ | ⟨g, cap, cur, rfl, _, hg, _⟩
  · cases e
  · injection e with e
    subst e
    rw [hg] at hk
    injection hk with hk
    exact hn _ _ hk.symm
theorem Lv.from_ (h : Lv w base v m) : ∀ k, v.ownBlock = some k → base ≤ k := fun k e => by
  rcases h.2 with ⟨rfl, _⟩ | ⟨g, cap, cur, rfl, hb, hg, _⟩
  · cases e
  · injection e with e
    subst e
    exact hb
theorem Lv.lt (h : Lv w base v m) : ∀ k, v.ownBlock = some k → k < w.heap.size := fun k e => by
  rcases h.2 with ⟨rfl, _⟩ | ⟨g, cap, cur, rfl, hb, hg, _⟩
  · cases e
  · injection e with e
    subst e
    exact (Array.getElem?_eq_some_iff.1 hg).1
theorem Lv.shape (h : Lv w base v m) : ∃ A N k, v = .slice A N k ∧ N = m.length ∧ N ≤ k ∧ k ≤ maxLen := by
  rcases h.2 with ⟨rfl, hz⟩ | ⟨g, cap, cur, rfl, _, _, h1, h2, _⟩
  · exact ⟨none, 0, 0, rfl, hz.symm, Nat.le_refl _, by unfold maxLen; omega⟩
  · exact ⟨_, _, _, rfl, rfl, h1, h2⟩
theorem Lv.rv {A : Option Addr} {N k : Nat} (h : Lv w base (.slice A N k) m) (hN : N = m.length) : Rv w w.heap.size A N k m := by
  subst hN
  rcases h.2 with ⟨e, hz⟩ | ⟨g, cap, cur, e, _, hg, h1, h2, h3, h4⟩
  · obtain ⟨rfl, hN, rfl⟩ : A = none ∧ m.length = 0 ∧ k = 0 := by simpa using e
    exact ⟨rfl, by omega, by unfold maxLen; omega, fun i hi => by omega⟩
  · obtain ⟨rfl, rfl⟩ : A = some ⟨g, 0, none⟩ ∧ k = cap := by simpa using e
    refine ⟨rfl, h1, h2, fun i hi => ⟨g, 0, rfl, (Array.getElem?_eq_some_iff.1 hg).1, ?_⟩⟩
    have hc : ∀ j u, (vc m)[j]? = some u → w.cell? ⟨g, 0 + j, none⟩ = some u := fun j u hj => by
      rw [← h4, List.getElem?_take] at hj
      split at hj
      · simp [World.cell?, hg]
        simpa using hj
      · cases hj
    have h5 := vc_at m i hi
    refine ⟨?_, ?_⟩
    · have := hc _ _ h5.1; rwa [show 0 + 2 * i = 0 + i * 2 by omega] at this
    · have := hc _ _ h5.2; rwa [show 0 + (2 * i + 1) = 0 + i * 2 + 1 by omega] at this
end
theorem info_va : (Tryd.prog.info? 57).map (fun i => (i.zero, i.size, i.bytes)) = some (some (.agg #[.int .i64 0, .int .i64 0]), 2, 16) := by kernel_rfl
theorem append_vas {w : World} {ops : Array Oper} {rest : List Oper} {o : Oper} {a : Act} {Q : Exit → Act → World → Prop} (hgd : o.guard = none) (s x : Operand) (ho : o.op = .call { callee := .builtin .append, args := #[s, x], argTypes := #[53, 53] })
    (base : Nat) (v : Value) (m : List Va) (hs : a.eval s = v) (hown : Lv w base v m) (A : Option Addr) (n c B : Nat) (l : List Va) (hx : a.eval x = .slice A n c) (hA : A = none → n = 0 ∧ c = 0)
    (hr : Rv w B A n c l) (hm : m.length + n ≤ 1048576) (hbase : base ≤ w.heap.size)
    (h : ∀ A' N' c' w', N' = (m ++ l).length → Lv w' base (.slice A' N' c') (m ++ l) → w.grownBy w' v.ownBlock → wpList Tryd.prog ops Q rest (a.put o.dst (.slice A' N' c')) w') : wpList Tryd.prog ops Q (o :: rest) a w := by
  obtain ⟨i0, hi, hz0, hz1, hz2⟩ := info_parts info_va
  have hn := hr.1
  cases A with
  | none =>
    obtain ⟨rfl, rfl⟩ := hA rfl
    have : l = [] := List.eq_nil_of_length_eq_zero hr.1
    subst this
    rw [List.append_nil] at h
    refine wpList_append_own_none hgd s x 53 ho base 57 i0 2 Tryd.underlying53 hi v m.length (vc m) hs hown hx ?_
    obtain ⟨A', N', c', rfl, hN, _, _⟩ := hown.shape
    exact h A' N' c' w hN hown (World.grownBy.refl _ _)
  | some ad =>
    refine wpList_append_own w hgd s x 53 ho base 57 i0 (.agg #[.int .i64 0, .int .i64 0]) 2 16 Tryd.underlying53 hi hz0 hz1 hz2 rfl (by omega) v m.length (vc m) hs hown ad n c (vc l) hx (by rw [vc_length, hn]; omega)
      (hr.cells ad rfl) (vc_one l) (by unfold maxLen; omega) (by omega) hbase (fun v' w' h3 h4 h5 => ?_)
    rw [← vc_append] at h3
    have h3' : Lv w' base v' (m ++ l) := by
      unfold Lv
      rw [List.length_append, hn]
      exact h3
    obtain ⟨A', N', c', rfl, hN, _, _⟩ := h3'.shape
    exact h A' N' c' w' hN h3' h4
theorem Rv.one {w : World} {b : Nat} {y1 y2 : Int} (h0 : w.cell? ⟨b, 0, none⟩ = some (.int .i64 y1)) (h1 : w.cell? ⟨b, 1, none⟩ = some (.int .i64 y2)) : Rv w w.heap.size (some ⟨b, 0, none⟩) 1 1 [(y1, y2)] := by
  refine ⟨rfl, Nat.le_refl _, by unfold maxLen; omega, fun i hi => ⟨b, 0, rfl, World.block_lt_of_cell? _ _ h0, ?_⟩⟩
  obtain rfl : i = 0 := by omega
  exact ⟨h0, h1⟩
theorem Values_true (m : List Va) (A B : Option Addr) (n n' c d b b2 : Nat) (w : World) (hs : n ≤ 4194304) (hnn : n = n') (r1 : Rv w b A n c m) (r2 : Rv w b2 B n' d m) :
    Calls Tryd.prog 27 #[.slice A n c, .slice B n' d] w fun e w' => e = .returned (.bool true) ∧ Drew w w' := by
  subst hnn
  have R1 := Lib.hid r1
  have R2 := Lib.hid r2
  clear r1 r2
  go_enter Tryd.func27, Tryd.ntmps27
  go_wp2
  go_loopw [5] (fun i wr => ∃ k j : Nat, k ≤ n ∧ i = .int .i64 k ∧ wr = w.drewN j) (fun i _ => n - (intOf i).toNat)
  case atStart => exact ⟨0, 0, Nat.zero_le _, rfl, rfl⟩
  case round =>
    obtain ⟨k, j, hk, rfl, rfl⟩ := hrel
    by_cases hlt : k < n
    · obtain ⟨b1, o1, rfl, g1, g2⟩ := R1.out.at_ hlt
      obtain ⟨b2, o2, rfl, g3, g4⟩ := R2.out.at_ hlt
      generalize m.getD k (0, 0) = x at g1 g2 g3 g4
      obtain ⟨x1, x2⟩ := x
      dsimp only at g1 g2 g3 g4
      have l1 : (0 : Int) ≤ (k : Int) := by omega
      have l2 : (k : Int) < n := by omega
      go_wp2
      go_quiet (fail)
      go_wp2
      go_roundw
      case rel => exact ⟨k + 1, _, by omega, by go_num, rfl⟩
      case measure => simp [intOf]; omega
    · go_wp2
      go_ret
      exact ⟨rfl, _, rfl⟩
theorem madeCells_two (n : Nat) : madeCells #[.int .i64 0, .int .i64 0] (n * 2) = (vc (List.replicate n (0, 0))).toArray := by
  apply Array.ext'
  apply List.ext_getElem?
  intro i
  have h0 : ∀ k, k < n * 2 → (madeCells #[.int .i64 0, .int .i64 0] (n * 2)).toList[k]? = some (.int .i64 0) := fun k hk => by
    unfold madeCells
    have : k % 2 = 0 ∨ k % 2 = 1 := by omega
    rcases this with h | h <;> simp [hk, h]
  by_cases hi : i < n * 2
  · rw [h0 i hi]
    obtain ⟨a1, a2⟩ := vc_at (List.replicate n (0, 0)) (i / 2) (by simp; omega)
    have e : (List.replicate n ((0, 0) : Va)).getD (i / 2) (0, 0) = (0, 0) := by rw [List.getD_eq_getElem?_getD, List.getElem?_replicate]; split <;> rfl
    rw [e] at a1 a2
    rcases Nat.mod_two_eq_zero_or_one i with h | h
    · rw [show 2 * (i / 2) = i by omega] at a1
      simpa using a1.symm
    · rw [show 2 * (i / 2) + 1 = i by omega] at a2
      simpa using a2.symm
  · rw [List.getElem?_eq_none (by simp [size_madeCells]; omega), List.getElem?_eq_none (by simp [vc_length]; omega)]
theorem make_vas (n : Nat) (hn : n ≤ 65536) (w : World) :
    (Instr.makeSlice 53 (.int .i64 (n : Int)) (.int .i64 (n : Int))).run Tryd.prog w = .ok (.slice (some ⟨w.heap.size, 0, none⟩) n n) (w.alloc (.cells (vc (List.replicate n (0, 0))).toArray 57)) := by
  obtain ⟨i0, hi, hz0, hz1, hz2⟩ := info_parts info_va
  have h := run_make (P := Tryd.prog) w 53 57 i0 _ Tryd.underlying53 hi hz0 .i64 .i64 n n (by omega) (Int.le_refl _) (by rw [hz2]; omega) (by omega)
  rw [h]
  simp only [Int.toNat_natCast, hz1]
  rw [← madeCells_two]
  rfl
theorem run_copy_wide {P : Program} (w : World) (dT sT ty elem : TypeId) (s g o dLen dCap : Nat) (a : Addr) (sLen sCap : Nat) (cur : Array Value) (t : TypeId) (cs : List Value) (n : Nat)
    (hu : P.underlying dT = some (.slice elem)) (hs : (P.info? elem).map (·.size) = some s)
    (hg : w.heap[g]? = some (.cells cur t (0, 0))) (hmin : Nat.min sLen dLen = n) (hn : cs.length = n * s)
    (hsrc : ∀ j v, cs[j]? = some v → w.cell? (a.add j) = some v) (hfit : o + cs.length ≤ cur.size) (h1 : ∀ v ∈ cs, v.oneCell' = true) :
    (Builtin.copy_ #[dT, sT] ty #[.slice (some ⟨g, o, none⟩) dLen dCap, .slice (some a) sLen sCap]).run P w =
      .ok (goInt n) (w.setRow g (cur.toList.take o ++ cs ++ cur.toList.drop (o + cs.length)).toArray) := by
  have hl := run_loadCells_list (P := P) w a cs hsrc
  have hst := run_storeCells_at P g o t cs 0 cur w hg (by simpa using hfit) h1
  rw [hn] at hl
  cases hq : P.info? elem with
  | none => simp [hq] at hs
  | some i =>
    have hi : i.size = s := by simpa [hq] using hs
    simp [Builtin.copy_, run_underlying hu, Builtin.lenOf, Builtin.firstCells, sizeOf, typeInfo, hq, hi, hmin, hl, hst]
theorem Lv.whole {w : World} {g base : Nat} {m : List Va} (h : w.heap[g]? = some (.cells (vc m).toArray 57 (0, 0))) (hb : base ≤ g) (hm : m.length ≤ maxLen) : Lv w base (.slice (some ⟨g, 0, none⟩) m.length m.length) m :=
  ⟨by rw [vc_length]; omega, .inr ⟨g, _, _, rfl, hb, h, Nat.le_refl _, hm, by simp [vc_length]; omega, by simpa using List.take_of_length_le (by rw [vc_length]; omega)⟩⟩
end Go.Proofs.YtfhebjkoojodiaaDoor.va
