/- Layer 16's functions that write: New, Put, Take, Clear, Clone; Clamp, slices.Clone. -/
import Derived.Test.YtljahpjdkkennaaBfB
import Derived.Deep.RegionLaw
namespace Go.Proofs.Ytljahpjdkkennaa.bf
open Go.ChangeShapes Go.WideShapes Go.ChangeAt Go.RowKit gen li
set_option linter.unusedVariables false
set_option maxHeartbeats 4000000
set_option maxRecDepth 100000

theorem grown_any {w w' : World} {row : Option Nat} (h : w.grownBy w' none) : w.grownBy w' row := ⟨h.os, h.tape, h.output, h.size, fun i hi _ => h.block i hi (by simp)⟩
theorem grown_step {a b c : World} {row : Option Nat} (h : b.grownBy c row) (gg : a.grownBy b none) : a.grownBy c row := li.grown_then gg h
/-- A number appended to a list of one's own, at a step of a region that draws its order. -/
theorem step_append_int {w : World} {ops : Array Oper} {o : Oper} {a : Act} {K : Act → World → Prop} {Q : Exit → Act → World → Prop} {E : Prop} (hgd : o.guard = none) (s x : Operand) (ho : o.op = .call { callee := .builtin .append, args := #[s, x], argTypes := #[32, 32] })
    (base : Nat) (v : Value) (xs : List Int) (hs : a.eval s = v) (hown : w.ownsRow base 3 1 v xs.length (ints xs)) (b : Nat) (z : Int) (hx : a.eval x = .slice (some ⟨b, 0, none⟩) 1 1)
    (hz : w.cell? ⟨b, 0, none⟩ = some (.int .i64 z)) (hm : xs.length ≤ 1048576) (hbase : base ≤ w.heap.size)
    (h : ∀ g N' c' w', N' = (xs ++ [z]).length → w'.ownsRow base 3 1 (.slice (some ⟨g, 0, none⟩) N' c') (xs ++ [z]).length (ints (xs ++ [z])) → w.grownBy w' v.ownBlock → (v.ownBlock = some g ∨ w.heap.size ≤ g) → K (a.put o.dst (.slice (some ⟨g, 0, none⟩) N' c')) w') :
    if Region.wanted o (yielded ops a.tmps) = true then Oper.wp Try.prog o a w K Q else E := by
  obtain ⟨i0, hi, hz0, hz1, hz2⟩ := info_parts info_int
  refine step_append_lies w hgd s x 32 ho base 3 i0 (.int .i64 0) 1 8 Try.underlying32 hi hz0 hz1 hz2 rfl (by omega) v xs.length (ints xs) hs hown ⟨b, 0, none⟩ 1 1 [.int .i64 z] hx rfl
    (fun j u hj => ?_) (fun u hu => by simp at hu; subst hu; rfl) (by omega) (by unfold maxLen; omega) (by omega) hbase _ rfl (fun g c' w' h1 h2 h3 h4 => ?_)
  · match j, hj with
    | 0, hj => simp at hj; subst hj; simpa [Addr.add] using hz
  · refine h g (xs.length + 1) c' w' (by simp) ?_ h2 (h3.elim .inl (fun e => .inr (Nat.le_of_eq e.symm)))
    have e : ints (xs ++ [z]) = ints xs ++ [.int .i64 z] := by simp [ints]
    rw [e, List.length_append]
    exact h1
/-! ### Put -/
/-- What is left by a call that was not refused. -/
def PutA (K : List Nat) (g : Nat) (ls : List (List Int)) (w : World) (r : Ending) (w' : World) : Prop := r = .returned (.bool true) ∧ ∃ K', (∀ q, q ∈ K' → q ∈ K ∨ w.heap.size ≤ q) ∧ Bf w' K' g ls ∧ Gr K w w'
section
variable {w w' : World} {g R : Nat} {us : List Value} {ls : List (List Int)} {p : Option Addr} {K : List Nat}
theorem Bi.far {W : World} (h : Bi w g R us ls) {k : Nat} (hk : k < ls.length) (hg : w.grownBy W (us.getD k nl).ownBlock) :
    W.cell? ⟨g, 0, none⟩ = some (.slice (some ⟨R, 0, none⟩) ls.length ls.length) ∧ W.cell? ⟨R, k, none⟩ = some (us.getD k nl) ∧ W.frozen? ⟨R, k, none⟩ = false := by
  obtain ⟨o1, o2⟩ := h.off hk
  exact ⟨hg.cell h.c0 (Ne.symm o1), hg.cell (h.at_ hk) (Ne.symm o2), (hg.frozen_far ⟨R, k, none⟩ h.R_lt (Ne.symm o2)).trans (h.free k)⟩
theorem Put_yes (h : Bf w K g ls) (k : Nat) (hk : k < ls.length) (a : Int) (h1 : 0 ≤ a) (h2 : a < 2048) (h3 : a ∉ ls.getD k []) :
    Calls Try.prog 11 #[.pointer (some ⟨g, 0, none⟩), .int .i64 (k : Int), .int .i64 a] w (PutA K g (ls.set k (ls.getD k [] ++ [a])) w) := by
  obtain ⟨R, us, h, rfl⟩ := h
  have HA := has_any h k
  rw [hs_in hk] at HA
  have c0 := h.c0
  have c1 := h.at_ hk
  obtain ⟨A, c, e⟩ := (h.each k hk).shape
  have HL := h.each k hk
  have h8 := h.ok.1
  have hm := h.ok.le k
  have HC := Contains_any (by have := h.ok.le k; omega) ((e ▸ HL : Li w (.slice A (ls.getD k []).length c) (ls.getD k [])).rd rfl) a
  rw [show decide (a ∈ ls.getD k []) = false from decide_eq_false h3] at HC
  have FR := Lib.hid (fun W (hg : w.grownBy W (us.getD k nl).ownBlock) => h.far hk hg)
  have OWN := Lib.hid (fun W (hg : w.grownBy W none) => (show W.ownsRow 0 3 1 (us.getD k nl) (ls.getD k []).length (ints (ls.getD k [])) from HL.new hg))
  have GS := Lib.hid (fun X W (gr : World.grownBy X W (us.getD k nl).ownBlock) (gg : w.grownBy X none) => li.grown_then gg gr)
  have GL := Lib.hid (fun (X : World) (q : Nat) (li : (us.getD k nl).ownBlock = some q ∨ X.heap.size ≤ q) (gg : w.grownBy X none) => (show (us.getD k nl).ownBlock = some q ∨ w.heap.size ≤ q from li.elim .inl (fun h => .inr (Nat.le_trans gg.size h))))
  have HP := Lib.hid (fun W v l (hl : Li W v l) (hg : w.grownBy W (us.getD k nl).ownBlock) hb (hw : Wl l) => (⟨h.put hk hl hg hb hw, h.put_ks hk hb, h.put_gr hk v hg⟩ : Bi (W.setCell ⟨R, k, none⟩ v) g R (us.set k v) (ls.set k l) ∧ (∀ q, q ∈ ks g R (us.set k v) → q ∈ ks g R us ∨ w.heap.size ≤ q) ∧ Gr (ks g R us) w (W.setCell ⟨R, k, none⟩ v)))
  have HW := Lib.hid ((h.ok.2 k).put h1 h2 h3)
  have glt := h.g_lt
  have rlt := h.R_lt
  rw [e] at c1 FR OWN GS GL HP
  have HB := Lib.hid HA
  have CO := Lib.hid HC
  clear HA HC e HL
  have HM := Lib.hid hm
  clear h h3
  generalize ls.getD k [] = l at *
  obtain ⟨m, hm2⟩ : ∃ m, m = l.length := ⟨_, rfl⟩
  rw [← hm2] at c1 FR OWN GS GL HP CO hm
  have HM2 := Lib.hid hm2
  clear hm2
  generalize ls.length = n at *
  have k0 : (0 : Int) ≤ (k : Int) := by omega
  have k1 : (k : Int) < (n : Int) := by omega
  have a1' : decide (a < 0) = false := decide_eq_false (by omega)
  have a2' : decide (2048 ≤ a) = false := decide_eq_false (by omega)
  go_enter Try.func11, Try.ntmps11
  go_wp2_with (first
    | (go_at_call 22; (with_reducible refine HB.out.mono ?_); rintro r w' ⟨rfl, rfl⟩)
    | (go_at_call 23; (with_reducible refine CO.out.mono ?_); rintro r w' ⟨rfl, rfl⟩))
  go_region_law
    ((refine step_append_int (by rfl) (.tmp 41) (.tmp 43) (by rfl) 0 (.slice A m c) l (by rfl) (by rw [← HM2.out]; exact OWN.out _ (by first | exact World.grownBy_alloc _ _ _ | exact (grown_drew _ _).trans (World.grownBy_alloc _ _ _) | exact (li.grown_drewN _ _ _).trans (World.grownBy_alloc _ _ _))) _ a (by rfl) (by go_simp) (by have := HM2.out; omega) (Nat.zero_le _) ?_; intro g3 N3 c3 w1 hn3 own1 gr1 li1; have G1 := Lib.hid (GS.out _ _ gr1 (by first | exact World.grownBy_alloc _ _ _ | exact (grown_drew _ _).trans (World.grownBy_alloc _ _ _) | exact (li.grown_drewN _ _ _).trans (World.grownBy_alloc _ _ _))); have HN3 := Lib.hid hn3; have O1 := Lib.hid own1; have L1 := Lib.hid (GL.out _ _ li1 (by first | exact World.grownBy_alloc _ _ _ | exact (grown_drew _ _).trans (World.grownBy_alloc _ _ _) | exact (li.grown_drewN _ _ _).trans (World.grownBy_alloc _ _ _))); obtain ⟨b0, b1, b2⟩ := FR.out _ G1.out; have rlt1 : R < w1.heap.size := World.block_lt_of_cell? _ _ b1; clear hn3 own1 gr1 li1))
  all_goals go_wp2
  all_goals go_ret
  all_goals
    obtain ⟨p1, p2, p3⟩ := HP.out w1 (.slice (some ⟨g3, 0, none⟩) N3 c3) (l ++ [a]) (by rw [HN3.out] at *; exact O1.out) G1.out (fun q e => by injection e with e; subst e; exact L1.out) HW.out
    exact ⟨rfl, _, p2, ⟨R, _, p1, rfl⟩, p3⟩
end
end Go.Proofs.Ytljahpjdkkennaa.bf
