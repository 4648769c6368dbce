/- Texts that this claim stands on. -/
import Derived.BigRegion
import Derived.Test.YtfhebjkoojodiaaDoorPGpA
import Derived.Test.YtfhebjkoojodiaaDoorPCdD
namespace Go.Proofs.YtfhebjkoojodiaaDoor.gp
open Go.ChangeShapes Go.WideShapes Go.ChangeAt Go.RowKit gen va cd
set_option linter.unusedVariables false
set_option maxHeartbeats 1000000
set_option maxRecDepth 100000
theorem info_th : (Tryd.prog.info? 76).map (fun i => (i.zero, i.size, i.bytes)) = some (some (.agg #[.bool false, .slice none 0 0]), 2, 32) := by kernel_rfl
theorem make_ths (n : Nat) (hn : n ≤ 64) (w : World) :
    (Instr.makeSlice 48 (.int .i64 (n : Int)) (.int .i64 (n : Int))).run Tryd.prog w = .ok (.slice (some ⟨w.heap.size, 0, none⟩) n n) (w.alloc (.cells (madeCells #[.bool false, .slice none 0 0] (n * 2)) 76)) := by
  obtain ⟨i0, hi, hz0, hz1, hz2⟩ := info_parts info_th
  have h := run_make (P := Tryd.prog) w 48 76 i0 _ Tryd.underlying48 hi hz0 .i64 .i64 n n (by omega) (Int.le_refl _) (by rw [hz2]; omega) (by omega)
  rw [h]
  simp only [Int.toNat_natCast, hz1]
  rfl
theorem ths_at (n t : Nat) (ht : t < n) : (madeCells #[Value.bool false, .slice none 0 0] (n * 2))[t * 2]? = some (.bool false) ∧ (madeCells #[Value.bool false, .slice none 0 0] (n * 2))[t * 2 + 1]? = some (.slice none 0 0) := by
  unfold madeCells
  have h1 : t * 2 < n * 2 := by omega
  have h2 : t * 2 + 1 < n * 2 := by omega
  have e1 : t * 2 % 2 = 0 := by omega
  have e2 : (t * 2 + 1) % 2 = 1 := by omega
  refine ⟨?_, ?_⟩
  · simp [h1]
  · simp [h2, e2]
def g0 (N : Nat) (q : Int) : Gs := { N := N, q := q, M := 1, lv := fun _ => false, hd := fun _ => [], nd := fun _ => List.replicate 4 (0, 0) }
theorem newG {w' : World} {B g R a b N : Nat} {q : Int} {cf : Nat → Int} {cs : Array Value} (hN : 0 < N) (hN8 : N ≤ 8) (q1 : 1 ≤ q) (q2 : q ≤ 16) (hq : cf 3 = q)
    (hg : w'.heap[g]? = some (.cells cs 50 (0, 0))) (hc0 : cs.size = 12) (hc1 : ∀ i, i < 10 → cs[i]? = some (.int .i64 (cf i))) (hc2 : cs[10]? = some (.slice (some ⟨R, 0, none⟩) N N)) (hc3 : cs[11]? = some (.slice (some ⟨a, 0, none⟩) 1 1))
    (hR : w'.heap[R]? = some (.cells (madeCells #[.bool false, .slice none 0 0] (N * 2)) 76 (0, 0))) (hb : w'.heap[b]? = some (.cells (vc (List.replicate 4 (0, 0))).toArray 57 (0, 0)))
    (ha : w'.heap[a]? = some (.cells #[.slice (some ⟨b, 0, none⟩) 4 4] 53 (0, 0))) (lg : B ≤ g) (lR : B ≤ R) (la : B ≤ a) (lb : B ≤ b) :
    ∃ K, Gw w' K g cf (g0 N q) ∧ ∀ k, k ∈ K → B ≤ k := by
  refine ⟨[g, R, a, b], ⟨R, some ⟨a, 0, none⟩, 1, fun _ => .slice none 0 0, fun _ => b, ⟨⟨cs, hg, hc0, hc1, hc2, hc3⟩, ⟨_, hR, fun t ht => ths_at N t ht⟩, fun t ht => ⟨none, 0, 0, rfl, Rv.nil _ _, fun _ => ⟨rfl, rfl⟩, fun ad e => by cases e⟩, ?_, fun i hi => hb, fun i j hi hj _ => ?_, by simp, by simp, fun q hq => ?_, fun i hi => by simp, fun k hk => ?_, hq, ?_⟩⟩, fun k hk => ?_⟩
  · exact ⟨by simp [nvs, g0], .inr ⟨a, 1, _, rfl, Nat.zero_le _, ha, Nat.le_refl _, by simp [maxLen], by simp, by simp [nvs, g0]⟩⟩
  · have hi' : i < 1 := hi
    have hj' : j < 1 := hj
    omega
  · injection hq with hq
    subst hq
    simp
  · have o1 := (Array.getElem?_eq_some_iff.1 hg).1
    have o2 := (Array.getElem?_eq_some_iff.1 hR).1
    have o3 := (Array.getElem?_eq_some_iff.1 ha).1
    have o4 := (Array.getElem?_eq_some_iff.1 hb).1
    simp at hk
    rcases hk with rfl | rfl | rfl | rfl <;> assumption
  · refine ⟨hN8, hN, q1, q2, Nat.one_pos, by simp [g0], fun t => by simp [g0], fun i => by simp [g0], fun t v hv => (by cases hv), fun i v hi hv e => ?_, fun t _ => rfl⟩
    have := List.eq_of_mem_replicate (show v ∈ List.replicate 4 ((0, 0) : Va) from hv)
    subst this
    cases e
  · simp at hk
    rcases hk with rfl | rfl | rfl | rfl <;> assumption
theorem al5 (w : World) (a b c d e : Obj) : let W := (((((w.alloc a).alloc b).alloc c).alloc d).alloc e).drew; W.heap[w.heap.size + 1]? = some b ∧ W.heap[w.heap.size + 1 + 1]? = some c ∧ W.heap[w.heap.size + 1 + 1 + 1]? = some d ∧ W.heap[w.heap.size + 1 + 1 + 1 + 1]? = some e := by
  intro W
  have s1 : (w.alloc a).heap.size = w.heap.size + 1 := by simp
  have s2 : ((w.alloc a).alloc b).heap.size = w.heap.size + 1 + 1 := by simp
  have s3 : (((w.alloc a).alloc b).alloc c).heap.size = w.heap.size + 1 + 1 + 1 := by simp
  have s4 : ((((w.alloc a).alloc b).alloc c).alloc d).heap.size = w.heap.size + 1 + 1 + 1 + 1 := by simp
  have k : ∀ (X : World) (o : Obj) (i : Nat), i < X.heap.size → (X.alloc o).heap[i]? = X.heap[i]? := fun X o i hi => (grown_alloc X o).block i hi (by simp)
  refine ⟨?_, ?_, ?_, ?_⟩
  · show (((((w.alloc a).alloc b).alloc c).alloc d).alloc e).heap[_]? = _
    rw [k _ _ _ (by rw [s4]; omega), k _ _ _ (by rw [s3]; omega), k _ _ _ (by rw [s2]; omega), ← s1, heap_alloc_new]
  · show (((((w.alloc a).alloc b).alloc c).alloc d).alloc e).heap[_]? = _
    rw [k _ _ _ (by rw [s4]; omega), k _ _ _ (by rw [s3]; omega), ← s2, heap_alloc_new]
  · show (((((w.alloc a).alloc b).alloc c).alloc d).alloc e).heap[_]? = _
    rw [k _ _ _ (by rw [s4]; omega), ← s3, heap_alloc_new]
  · show (((((w.alloc a).alloc b).alloc c).alloc d).alloc e).heap[_]? = _
    rw [← s4, heap_alloc_new]
theorem ten_at {c0 c1 c2 c3 c4 c5 c6 c7 c8 c9 : Int} {x y : Value} : ∀ i, i < 10 → (#[Value.int .i64 c0, .int .i64 c1, .int .i64 c2, .int .i64 c3, .int .i64 c4, .int .i64 c5, .int .i64 c6, .int .i64 c7, .int .i64 c8, .int .i64 c9, x, y] : Array Value)[i]? = some (.int .i64 ([c0, c1, c2, c3, c4, c5, c6, c7, c8, c9].getD i 0)) := fun i hi => by
  have h : i = 0 ∨ i = 1 ∨ i = 2 ∨ i = 3 ∨ i = 4 ∨ i = 5 ∨ i = 6 ∨ i = 7 ∨ i = 8 ∨ i = 9 := by omega
  rcases h with rfl | rfl | rfl | rfl | rfl | rfl | rfl | rfl | rfl | rfl <;> rfl
theorem newT1 (w : World) (c0 c2 q c4 c5 c6 c7 c8 c9 : Int) (N : Nat) (hN : 0 < N) (hN8 : N ≤ 8) (q1 : 1 ≤ q) (q2 : q ≤ 16) :
    ∃ K, Gw ((((((w.alloc (.cells #[.int .i64 c0, .int .i64 (N : Int), .int .i64 c2, .int .i64 q, .int .i64 c4, .int .i64 c5, .int .i64 c6, .int .i64 c7, .int .i64 c8, .int .i64 c9] 23)).alloc (.cells (madeCells #[.bool false, .slice none 0 0] (N * 2)) 76)).alloc (.cells (vc (List.replicate 4 (0, 0))).toArray 57)).alloc (.cells #[.slice (some ⟨w.heap.size + 1 + 1, 0, none⟩) 4 4] 53)).alloc (.cells #[.int .i64 c0, .int .i64 (N : Int), .int .i64 c2, .int .i64 q, .int .i64 c4, .int .i64 c5, .int .i64 c6, .int .i64 c7, .int .i64 c8, .int .i64 c9, .slice (some ⟨w.heap.size + 1, 0, none⟩) N N, .slice (some ⟨w.heap.size + 1 + 1 + 1, 0, none⟩) 1 1] 50)).drew) K (w.heap.size + 1 + 1 + 1 + 1) (fun i => [c0, (N : Int), c2, q, c4, c5, c6, c7, c8, c9].getD i 0) (g0 N q) ∧ (∀ k, k ∈ K → w.heap.size ≤ k) ∧ w.grownBy ((((((w.alloc (.cells #[.int .i64 c0, .int .i64 (N : Int), .int .i64 c2, .int .i64 q, .int .i64 c4, .int .i64 c5, .int .i64 c6, .int .i64 c7, .int .i64 c8, .int .i64 c9] 23)).alloc (.cells (madeCells #[.bool false, .slice none 0 0] (N * 2)) 76)).alloc (.cells (vc (List.replicate 4 (0, 0))).toArray 57)).alloc (.cells #[.slice (some ⟨w.heap.size + 1 + 1, 0, none⟩) 4 4] 53)).alloc (.cells #[.int .i64 c0, .int .i64 (N : Int), .int .i64 c2, .int .i64 q, .int .i64 c4, .int .i64 c5, .int .i64 c6, .int .i64 c7, .int .i64 c8, .int .i64 c9, .slice (some ⟨w.heap.size + 1, 0, none⟩) N N, .slice (some ⟨w.heap.size + 1 + 1 + 1, 0, none⟩) 1 1] 50)).drew) none := by
  obtain ⟨o1, o2, o3, o4⟩ := al5 w (.cells #[.int .i64 c0, .int .i64 (N : Int), .int .i64 c2, .int .i64 q, .int .i64 c4, .int .i64 c5, .int .i64 c6, .int .i64 c7, .int .i64 c8, .int .i64 c9] 23) (.cells (madeCells #[.bool false, .slice none 0 0] (N * 2)) 76) (.cells (vc (List.replicate 4 (0, 0))).toArray 57) (.cells #[.slice (some ⟨w.heap.size + 1 + 1, 0, none⟩) 4 4] 53) (.cells #[.int .i64 c0, .int .i64 (N : Int), .int .i64 c2, .int .i64 q, .int .i64 c4, .int .i64 c5, .int .i64 c6, .int .i64 c7, .int .i64 c8, .int .i64 c9, .slice (some ⟨w.heap.size + 1, 0, none⟩) N N, .slice (some ⟨w.heap.size + 1 + 1 + 1, 0, none⟩) 1 1] 50)
  obtain ⟨K, k1, k2⟩ := newG (B := w.heap.size) (cf := fun i => [c0, (N : Int), c2, q, c4, c5, c6, c7, c8, c9].getD i 0) hN hN8 q1 q2 rfl o4 rfl ten_at rfl rfl o1 o2 o3 (by omega) (by omega) (by omega) (by omega)
  exact ⟨K, k1, k2, (((((grown_alloc _ _).trans (grown_alloc _ _)).trans (grown_alloc _ _)).trans (grown_alloc _ _)).trans (grown_alloc _ _)).trans (gr.grown_drew _ _)⟩
theorem newT2 (w : World) (c0 c2 q c4 c5 c6 c7 c8 c9 : Int) (N : Nat) (hN : 0 < N) (hN8 : N ≤ 8) (q1 : 1 ≤ q) (q2 : q ≤ 16) :
    ∃ K, Gw ((((((w.alloc (.cells #[.int .i64 c0, .int .i64 (N : Int), .int .i64 c2, .int .i64 q, .int .i64 c4, .int .i64 c5, .int .i64 c6, .int .i64 c7, .int .i64 c8, .int .i64 c9] 23)).alloc (.cells (vc (List.replicate 4 (0, 0))).toArray 57)).alloc (.cells (madeCells #[.bool false, .slice none 0 0] (N * 2)) 76)).alloc (.cells #[.slice (some ⟨w.heap.size + 1, 0, none⟩) 4 4] 53)).alloc (.cells #[.int .i64 c0, .int .i64 (N : Int), .int .i64 c2, .int .i64 q, .int .i64 c4, .int .i64 c5, .int .i64 c6, .int .i64 c7, .int .i64 c8, .int .i64 c9, .slice (some ⟨w.heap.size + 1 + 1, 0, none⟩) N N, .slice (some ⟨w.heap.size + 1 + 1 + 1, 0, none⟩) 1 1] 50)).drew) K (w.heap.size + 1 + 1 + 1 + 1) (fun i => [c0, (N : Int), c2, q, c4, c5, c6, c7, c8, c9].getD i 0) (g0 N q) ∧ (∀ k, k ∈ K → w.heap.size ≤ k) ∧ w.grownBy ((((((w.alloc (.cells #[.int .i64 c0, .int .i64 (N : Int), .int .i64 c2, .int .i64 q, .int .i64 c4, .int .i64 c5, .int .i64 c6, .int .i64 c7, .int .i64 c8, .int .i64 c9] 23)).alloc (.cells (vc (List.replicate 4 (0, 0))).toArray 57)).alloc (.cells (madeCells #[.bool false, .slice none 0 0] (N * 2)) 76)).alloc (.cells #[.slice (some ⟨w.heap.size + 1, 0, none⟩) 4 4] 53)).alloc (.cells #[.int .i64 c0, .int .i64 (N : Int), .int .i64 c2, .int .i64 q, .int .i64 c4, .int .i64 c5, .int .i64 c6, .int .i64 c7, .int .i64 c8, .int .i64 c9, .slice (some ⟨w.heap.size + 1 + 1, 0, none⟩) N N, .slice (some ⟨w.heap.size + 1 + 1 + 1, 0, none⟩) 1 1] 50)).drew) none := by
  obtain ⟨o1, o2, o3, o4⟩ := al5 w (.cells #[.int .i64 c0, .int .i64 (N : Int), .int .i64 c2, .int .i64 q, .int .i64 c4, .int .i64 c5, .int .i64 c6, .int .i64 c7, .int .i64 c8, .int .i64 c9] 23) (.cells (vc (List.replicate 4 (0, 0))).toArray 57) (.cells (madeCells #[.bool false, .slice none 0 0] (N * 2)) 76) (.cells #[.slice (some ⟨w.heap.size + 1, 0, none⟩) 4 4] 53) (.cells #[.int .i64 c0, .int .i64 (N : Int), .int .i64 c2, .int .i64 q, .int .i64 c4, .int .i64 c5, .int .i64 c6, .int .i64 c7, .int .i64 c8, .int .i64 c9, .slice (some ⟨w.heap.size + 1 + 1, 0, none⟩) N N, .slice (some ⟨w.heap.size + 1 + 1 + 1, 0, none⟩) 1 1] 50)
  obtain ⟨K, k1, k2⟩ := newG (B := w.heap.size) (cf := fun i => [c0, (N : Int), c2, q, c4, c5, c6, c7, c8, c9].getD i 0) hN hN8 q1 q2 rfl o4 rfl ten_at rfl rfl o2 o1 o3 (by omega) (by omega) (by omega) (by omega)
  exact ⟨K, k1, k2, (((((grown_alloc _ _).trans (grown_alloc _ _)).trans (grown_alloc _ _)).trans (grown_alloc _ _)).trans (grown_alloc _ _)).trans (gr.grown_drew _ _)⟩
theorem newT3 (w : World) (c0 c2 q c4 c5 c6 c7 c8 c9 : Int) (N : Nat) (hN : 0 < N) (hN8 : N ≤ 8) (q1 : 1 ≤ q) (q2 : q ≤ 16) :
    ∃ K, Gw ((((((w.alloc (.cells #[.int .i64 c0, .int .i64 (N : Int), .int .i64 c2, .int .i64 q, .int .i64 c4, .int .i64 c5, .int .i64 c6, .int .i64 c7, .int .i64 c8, .int .i64 c9] 23)).alloc (.cells (vc (List.replicate 4 (0, 0))).toArray 57)).alloc (.cells #[.slice (some ⟨w.heap.size + 1, 0, none⟩) 4 4] 53)).alloc (.cells (madeCells #[.bool false, .slice none 0 0] (N * 2)) 76)).alloc (.cells #[.int .i64 c0, .int .i64 (N : Int), .int .i64 c2, .int .i64 q, .int .i64 c4, .int .i64 c5, .int .i64 c6, .int .i64 c7, .int .i64 c8, .int .i64 c9, .slice (some ⟨w.heap.size + 1 + 1 + 1, 0, none⟩) N N, .slice (some ⟨w.heap.size + 1 + 1, 0, none⟩) 1 1] 50)).drew) K (w.heap.size + 1 + 1 + 1 + 1) (fun i => [c0, (N : Int), c2, q, c4, c5, c6, c7, c8, c9].getD i 0) (g0 N q) ∧ (∀ k, k ∈ K → w.heap.size ≤ k) ∧ w.grownBy ((((((w.alloc (.cells #[.int .i64 c0, .int .i64 (N : Int), .int .i64 c2, .int .i64 q, .int .i64 c4, .int .i64 c5, .int .i64 c6, .int .i64 c7, .int .i64 c8, .int .i64 c9] 23)).alloc (.cells (vc (List.replicate 4 (0, 0))).toArray 57)).alloc (.cells #[.slice (some ⟨w.heap.size + 1, 0, none⟩) 4 4] 53)).alloc (.cells (madeCells #[.bool false, .slice none 0 0] (N * 2)) 76)).alloc (.cells #[.int .i64 c0, .int .i64 (N : Int), .int .i64 c2, .int .i64 q, .int .i64 c4, .int .i64 c5, .int .i64 c6, .int .i64 c7, .int .i64 c8, .int .i64 c9, .slice (some ⟨w.heap.size + 1 + 1 + 1, 0, none⟩) N N, .slice (some ⟨w.heap.size + 1 + 1, 0, none⟩) 1 1] 50)).drew) none := by
  obtain ⟨o1, o2, o3, o4⟩ := al5 w (.cells #[.int .i64 c0, .int .i64 (N : Int), .int .i64 c2, .int .i64 q, .int .i64 c4, .int .i64 c5, .int .i64 c6, .int .i64 c7, .int .i64 c8, .int .i64 c9] 23) (.cells (vc (List.replicate 4 (0, 0))).toArray 57) (.cells #[.slice (some ⟨w.heap.size + 1, 0, none⟩) 4 4] 53) (.cells (madeCells #[.bool false, .slice none 0 0] (N * 2)) 76) (.cells #[.int .i64 c0, .int .i64 (N : Int), .int .i64 c2, .int .i64 q, .int .i64 c4, .int .i64 c5, .int .i64 c6, .int .i64 c7, .int .i64 c8, .int .i64 c9, .slice (some ⟨w.heap.size + 1 + 1 + 1, 0, none⟩) N N, .slice (some ⟨w.heap.size + 1 + 1, 0, none⟩) 1 1] 50)
  obtain ⟨K, k1, k2⟩ := newG (B := w.heap.size) (cf := fun i => [c0, (N : Int), c2, q, c4, c5, c6, c7, c8, c9].getD i 0) hN hN8 q1 q2 rfl o4 rfl ten_at rfl rfl o3 o1 o2 (by omega) (by omega) (by omega) (by omega)
  exact ⟨K, k1, k2, (((((grown_alloc _ _).trans (grown_alloc _ _)).trans (grown_alloc _ _)).trans (grown_alloc _ _)).trans (grown_alloc _ _)).trans (gr.grown_drew _ _)⟩
theorem New_any (w : World) (c0 c2 q c4 c5 c6 c7 c8 c9 : Int) (N : Nat) (hN : 0 < N) (hN8 : N ≤ 8) (q1 : 1 ≤ q) (q2 : q ≤ 16) : Calls Tryd.prog 9 #[.agg #[.int .i64 c0, .int .i64 (N : Int), .int .i64 c2, .int .i64 q, .int .i64 c4, .int .i64 c5, .int .i64 c6, .int .i64 c7, .int .i64 c8, .int .i64 c9]] w
    fun e w' => ∃ g K, e = .returned (.pointer (some ⟨g, 0, none⟩)) ∧ Gw w' K g (fun i => [c0, (N : Int), c2, q, c4, c5, c6, c7, c8, c9].getD i 0) (g0 N q) ∧ (∀ k, k ∈ K → w.heap.size ≤ k) ∧ w.grownBy w' none := by
  have mkT := make_ths N (by omega)
  have mkV : ∀ W, (Instr.makeSlice 53 (.int .i64 4) (.int .i64 4)).run Tryd.prog W = .ok (.slice (some ⟨W.heap.size, 0, none⟩) 4 4) (W.alloc (.cells (vc (List.replicate 4 (0, 0))).toArray 57)) := fun W => make_vas 4 (by omega) W
  obtain ⟨ct, hct⟩ : ∃ ct, madeCells #[Value.bool false, .slice none 0 0] (N * 2) = ct := ⟨_, rfl⟩
  obtain ⟨cv, hcv⟩ : ∃ cv, (vc (List.replicate 4 (0, 0))).toArray = cv := ⟨_, rfl⟩
  rw [hct] at mkT
  rw [hcv] at mkV
  have CT := Lib.hid hct
  have CV := Lib.hid hcv
  clear hct hcv
  go_enter Tryd.func9, Tryd.ntmps9
  go_wp2
  go_region
  all_goals go_wp2
  all_goals
    go_ret
    first
      | (obtain ⟨K, hK⟩ := newT1 w c0 c2 q c4 c5 c6 c7 c8 c9 N hN hN8 q1 q2; rw [CT.out, CV.out] at hK; exact ⟨_, K, rfl, hK⟩)
      | (obtain ⟨K, hK⟩ := newT2 w c0 c2 q c4 c5 c6 c7 c8 c9 N hN hN8 q1 q2; rw [CT.out, CV.out] at hK; exact ⟨_, K, rfl, hK⟩)
      | (obtain ⟨K, hK⟩ := newT3 w c0 c2 q c4 c5 c6 c7 c8 c9 N hN hN8 q1 q2; rw [CT.out, CV.out] at hK; exact ⟨_, K, rfl, hK⟩)
end Go.Proofs.YtfhebjkoojodiaaDoor.gp
