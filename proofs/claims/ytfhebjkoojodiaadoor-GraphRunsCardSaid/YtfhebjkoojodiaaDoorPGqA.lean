/- Texts that this claim stands on. -/
import Derived.Test.YtfhebjkoojodiaaDoorPGpO
namespace Go.Proofs.YtfhebjkoojodiaaDoor.gq
open Go.ChangeShapes Go.WideShapes Go.ChangeAt Go.RowKit gen va cd gp
set_option linter.unusedVariables false
set_option maxHeartbeats 1000000
set_option maxRecDepth 100000
theorem within_any (n a b : Int) (w : World) : Calls Tryd.prog 52 #[.int .i64 n, .int .i64 a, .int .i64 b] w fun e w' => e = .returned (.bool (decide (a ≤ n) && decide (n ≤ b))) ∧ w.grownBy w' none := by
  cases h1 : decide (a ≤ n) with
  | true =>
    cases h2 : decide (n ≤ b) with
    | true =>
      go_enter Tryd.func52, Tryd.ntmps52
      go_wp2
      go_ret
      exact ⟨rfl, World.grownBy.refl _ _⟩
    | false =>
      go_enter Tryd.func52, Tryd.ntmps52
      go_wp2
      go_ret
      exact ⟨rfl, World.grownBy.refl _ _⟩
  | false =>
    go_enter Tryd.func52, Tryd.ntmps52
    go_wp2
    go_ret
    exact ⟨rfl, World.grownBy.refl _ _⟩
theorem wwithin_any (n a b : Int) (w : World) : Calls Tryd.prog 72 #[.int .i64 n, .int .i64 a, .int .i64 b] w fun e w' => e = .returned (.bool (decide (a ≤ n) && decide (n < b))) ∧ w.grownBy w' none := by
  cases h1 : decide (a ≤ n) with
  | true =>
    cases h2 : decide (n < b) with
    | true =>
      go_enter Tryd.func72, Tryd.ntmps72
      go_wp2
      go_ret
      exact ⟨rfl, World.grownBy.refl _ _⟩
    | false =>
      go_enter Tryd.func72, Tryd.ntmps72
      go_wp2
      go_ret
      exact ⟨rfl, World.grownBy.refl _ _⟩
  | false =>
    go_enter Tryd.func72, Tryd.ntmps72
    go_wp2
    go_ret
    exact ⟨rfl, World.grownBy.refl _ _⟩
theorem reference_any (n : Int) (w : World) : Calls Tryd.prog 34 #[.int .i64 n] w fun e w' => e = .returned (.agg #[.int .i64 2, .int .i64 n]) ∧ w.grownBy w' none := by
  go_enter Tryd.func34, Tryd.ntmps34
  go_wp2
  refine bodyPost_ret (v := .agg #[.int .i64 2, .int .i64 n]) (by simp [results, Tryd.results34, go_sem]) rfl ⟨rfl, ?_⟩
  exact grown_alloc _ _
def nk (n : Int) : Bool := decide (-1099511627776 ≤ n) && decide (n < 1099511627776)
theorem within_as {n : Int} {b : Bool} (w : World) (hb : nk n = b) : Calls Tryd.prog 72 #[.int .i64 n, .int .i64 (-1099511627776), .int .i64 1099511627776] w fun e w' => e = .returned (.bool b) ∧ w.grownBy w' none := by
  subst hb
  exact wwithin_any n _ _ w
theorem wCheck_any (n : Int) (w : World) {b : Bool} (hb : nk n = b) : Calls Tryd.prog 70 #[.agg #[.int .i64 1, .int .i64 n]] w fun e w' => e = .returned (.int .i64 (if b = true then 0 else 4)) ∧ w.grownBy w' none := by
  have G0 := Lib.hid (grown_alloc w (.cells #[.int .i64 1, .int .i64 n] 57))
  have WI := Lib.hid (fun W => within_as (n := n) W hb)
  clear hb
  cases b with
  | true =>
    go_enter Tryd.func70, Tryd.ntmps70
    go_wp2_with (first | (go_at_call 72; (with_reducible refine (WI.out _).mono ?_); rintro e w1 ⟨rfl, hg⟩; have G1 := Lib.hid (G0.out.trans hg); clear hg))
    go_ret
    exact ⟨rfl, G1.out⟩
  | false =>
    go_enter Tryd.func70, Tryd.ntmps70
    go_wp2_with (first | (go_at_call 72; (with_reducible refine (WI.out _).mono ?_); rintro e w1 ⟨rfl, hg⟩; have G1 := Lib.hid (G0.out.trans hg); clear hg))
    go_ret
    exact ⟨rfl, G1.out⟩
theorem known_any (n : Int) (w : World) (hb : nk n = true) : Calls Tryd.prog 71 #[.agg #[.int .i64 1, .int .i64 n]] w fun e w' => e = .returned (.tuple #[.agg #[.int .i64 1, .int .i64 n], .bool true]) ∧ w.grownBy w' none := by
  obtain ⟨w0, hw0⟩ : ∃ w0, w0 = (w.alloc (.cells #[.int .i64 1, .int .i64 n] 57)).alloc (.cells #[.int .i64 0, .int .i64 0] 57) := ⟨_, rfl⟩
  have G0 := Lib.hid (show w.grownBy w0 none by rw [hw0]; exact (grown_alloc _ _).trans (grown_alloc _ _))
  have A0 : w0.cell? ⟨w.heap.size, 0, none⟩ = some (.int .i64 1) ∧ w0.cell? ⟨w.heap.size, 1, none⟩ = some (.int .i64 n) ∧ w0.cell? ⟨w.heap.size + 1, 0, none⟩ = some (.int .i64 0) ∧ w0.cell? ⟨w.heap.size + 1, 1, none⟩ = some (.int .i64 0) := by rw [hw0]; simp [go_sem]
  have F0 : ∀ j, w0.frozen? ⟨w.heap.size + 1, j, none⟩ = false := fun j => by rw [hw0]; simp [go_sem]
  have AZ := Lib.hid A0
  have FZ := Lib.hid F0
  have z0 : w0.heap.size = w.heap.size + 2 := by rw [hw0]; simp
  have CH := Lib.hid (fun W => wCheck_any n W hb)
  have HW := Lib.hid hw0
  clear hw0 A0 F0 hb
  go_enter Tryd.func71, Tryd.ntmps71
  go_wp2_with (first | (rw [← HW.out]; go_at_call 70; (with_reducible refine (CH.out _).mono ?_); rintro e w1 ⟨rfl, hg⟩; have G1 := Lib.hid (G0.out.trans hg); obtain ⟨a0, a1, a2, a3⟩ := AZ.out; have b0 := hg.cell a0 (by simp); have b1 := hg.cell a1 (by simp); have b2 := hg.cell a2 (by simp); have b3 := hg.cell a3 (by simp); have f0 := gr.Gr.frozen (L := []) (.new hg) (FZ.out 0) (by rw [z0]; simp) (by simp); have f1 := gr.Gr.frozen (L := []) (.new hg) (FZ.out 1) (by rw [z0]; simp) (by simp); clear hg))
  refine bodyPost_ret (v := .tuple #[.agg #[.int .i64 1, .int .i64 n], .bool true]) (by simp [results, Tryd.results71, go_sem, *]) rfl ⟨rfl, ?_⟩
  exact li.grown_new G1.out (gp.set2 _ _ _ _) (Nat.le_succ _)
theorem Number_any (n : Int) (w : World) (hb : nk n = true) : Calls Tryd.prog 68 #[.int .i64 n] w fun e w' => e = .returned (.agg #[.int .i64 1, .int .i64 n]) ∧ w.grownBy w' none := by
  have G0 := Lib.hid (grown_alloc w (.cells #[.int .i64 0, .int .i64 0] 57))
  have c0 : (w.alloc (.cells #[.int .i64 0, .int .i64 0] 57)).cell? ⟨w.heap.size, 0, none⟩ = some (.int .i64 0) := by simp [go_sem]
  have c1 : (w.alloc (.cells #[.int .i64 0, .int .i64 0] 57)).cell? ⟨w.heap.size, 1, none⟩ = some (.int .i64 0) := by simp [go_sem]
  have f0 : ∀ j, (w.alloc (.cells #[.int .i64 0, .int .i64 0] 57)).frozen? ⟨w.heap.size, j, none⟩ = false := fun j => by simp [go_sem]
  have C0 := Lib.hid c0
  have C1 := Lib.hid c1
  have F0 := Lib.hid f0
  have CH := Lib.hid (fun W => known_any n W hb)
  clear c0 c1 f0 hb
  go_enter Tryd.func68, Tryd.ntmps68
  go_wp2_with (first | (go_at_call 71; (with_reducible refine (CH.out _).mono ?_); rintro e w1 ⟨rfl, hg⟩; have G1 := Lib.hid (G0.out.trans hg); have b0 := hg.cell C0.out (by simp); have b1 := hg.cell C1.out (by simp); have z1 := gr.Gr.frozen (L := []) (.new hg) (F0.out 0) (by simp) (by simp); have z2 := gr.Gr.frozen (L := []) (.new hg) (F0.out 1) (by simp) (by simp); have s1 := hg.size; have ha := grown_alloc w1 (.cells #[.int .i64 1, .int .i64 n] 57); have b2 := ha.cell b0 (by simp); have b3 := ha.cell b1 (by simp); have z3 := gr.Gr.frozen (L := []) (.new ha) z1 (by have q := s1; simp at q; show w.heap.size < w1.heap.size; omega) (by simp); have z4 := gr.Gr.frozen (L := []) (.new ha) z2 (by have q := s1; simp at q; show w.heap.size < w1.heap.size; omega) (by simp); clear hg ha))
  refine bodyPost_ret (v := .agg #[.int .i64 1, .int .i64 n]) (by simp [results, Tryd.results68, go_sem, *]) rfl ⟨rfl, ?_⟩
  exact li.grown_new (G1.out.trans (grown_alloc _ _)) (gp.set2 _ _ _ _) (Nat.le_refl _)
section
variable {k t i f j c n : Int}
def tk (n : Int) : Bool := decide (1 ≤ n) && decide (n ≤ 64)
theorem within_tk {n : Int} {b : Bool} (w : World) (hb : tk n = b) : Calls Tryd.prog 52 #[.int .i64 n, .int .i64 1, .int .i64 64] w fun e w' => e = .returned (.bool b) ∧ w.grownBy w' none := by
  subst hb
  exact within_any n 1 64 w
theorem ticks_any (w : World) {b : Bool} (hb : tk n = b) : Calls Tryd.prog 38 #[.agg #[.int .i64 k, .int .i64 t, .int .i64 i, .int .i64 f, .int .i64 j, .int .i64 c, .int .i64 n]] w fun e w' => e = .returned (.int .i64 (if b = true then 0 else 4)) ∧ w.grownBy w' none := by
  have G0 := Lib.hid (grown_alloc w (.cells #[.int .i64 k, .int .i64 t, .int .i64 i, .int .i64 f, .int .i64 j, .int .i64 c, .int .i64 n] 39))
  have WI := Lib.hid (fun W => within_tk W hb)
  clear hb
  cases b with
  | true =>
    go_enter Tryd.func38, Tryd.ntmps38
    go_wp2_with (first | (go_at_call 52; (with_reducible refine (WI.out _).mono ?_); rintro e w1 ⟨rfl, hg⟩; have G1 := Lib.hid (G0.out.trans hg); clear hg))
    go_ret
    exact ⟨rfl, G1.out⟩
  | false =>
    go_enter Tryd.func38, Tryd.ntmps38
    go_wp2_with (first | (go_at_call 52; (with_reducible refine (WI.out _).mono ?_); rintro e w1 ⟨rfl, hg⟩; have G1 := Lib.hid (G0.out.trans hg); clear hg))
    go_ret
    exact ⟨rfl, G1.out⟩
def ck (q c : Int) : Bool := decide (1 ≤ c) && decide (c ≤ q)
theorem cost_any {w : World} {g : Nat} {q : Int} (hq : w.cell? ⟨g, 0, none⟩ = some (.int .i64 q)) {b : Bool} (hb : ck q c = b) : Calls Tryd.prog 62 #[.pointer (some ⟨g, 0, none⟩), .agg #[.int .i64 k, .int .i64 t, .int .i64 i, .int .i64 f, .int .i64 j, .int .i64 c, .int .i64 n]] w fun e w' => e = .returned (.int .i64 (if b = true then 0 else 4)) ∧ w.grownBy w' none := by
  have G0 := Lib.hid (grown_alloc w (.cells #[.int .i64 k, .int .i64 t, .int .i64 i, .int .i64 f, .int .i64 j, .int .i64 c, .int .i64 n] 39))
  have x0 := G0.out.cell hq (by simp)
  have s5 : (w.alloc (.cells #[.int .i64 k, .int .i64 t, .int .i64 i, .int .i64 f, .int .i64 j, .int .i64 c, .int .i64 n] 39)).cell? ⟨w.heap.size, 5, none⟩ = some (.int .i64 c) := by simp [go_sem]
  by_cases h1 : c < 1
  · have d1 : decide (c < 1) = true := decide_eq_true h1
    obtain rfl : b = false := by rw [← hb]; unfold ck; simp; omega
    clear hb
    go_enter Tryd.func62, Tryd.ntmps62
    go_wp2
    go_quiet (fail)
    go_wp2
    go_ret
    exact ⟨rfl, G0.out.trans (by first | exact li.grown_drewN _ _ _ | exact drew2 _ _ _ | exact drew3 _ _ _ _ | exact World.grownBy.refl _ _)⟩
  · have d1 : decide (c < 1) = false := decide_eq_false h1
    by_cases h2 : q < c
    · have d2 : decide (q < c) = true := decide_eq_true h2
      obtain rfl : b = false := by rw [← hb]; unfold ck; simp; omega
      clear hb
      go_enter Tryd.func62, Tryd.ntmps62
      go_wp2
      go_quiet (fail)
      go_wp2
      go_ret
      exact ⟨rfl, G0.out.trans (by first | exact li.grown_drewN _ _ _ | exact drew2 _ _ _ | exact drew3 _ _ _ _ | exact World.grownBy.refl _ _)⟩
    · have d2 : decide (q < c) = false := decide_eq_false h2
      obtain rfl : b = true := by rw [← hb]; unfold ck; simp; omega
      clear hb
      go_enter Tryd.func62, Tryd.ntmps62
      go_wp2
      go_quiet (fail)
      go_wp2
      go_ret
      exact ⟨rfl, G0.out.trans (by first | exact li.grown_drewN _ _ _ | exact drew2 _ _ _ | exact drew3 _ _ _ _ | exact World.grownBy.refl _ _)⟩
theorem ahead_any {w : World} {g : Nat} {q : Int} (no : Int) (hq : w.cell? ⟨g, 0, none⟩ = some (.int .i64 q)) {b1 b2 : Bool} (h1 : tk n = b1) (h2 : ck q c = b2) : Calls Tryd.prog 59 #[.pointer (some ⟨g, 0, none⟩), .agg #[.int .i64 k, .int .i64 t, .int .i64 i, .int .i64 f, .int .i64 j, .int .i64 c, .int .i64 n], .int .i64 no] w
    fun e w' => e = .returned (.int .i64 (if b1 = true then (if b2 = true then no else 4) else 4)) ∧ w.grownBy w' none := by
  have G0 := Lib.hid (grown_alloc w (.cells #[.int .i64 k, .int .i64 t, .int .i64 i, .int .i64 f, .int .i64 j, .int .i64 c, .int .i64 n] 39))
  have S0 := Lib.hid (Sv.new w 39 k t i f j c n)
  have TI := Lib.hid (fun W => ticks_any (k := k) (t := t) (i := i) (f := f) (j := j) (c := c) W h1)
  have CO := Lib.hid (fun W (hg : w.grownBy W none) => cost_any (k := k) (t := t) (i := i) (f := f) (j := j) (n := n) (hg.cell hq (by simp)) h2)
  clear h1 h2 hq
  cases b1 with
  | false =>
    go_enter Tryd.func59, Tryd.ntmps59
    go_wp2_with (first | (go_at_call 38; (with_reducible refine (TI.out _).mono ?_); rintro e w1 ⟨rfl, hg⟩; have G1 := Lib.hid (G0.out.trans hg); clear hg))
    go_ret
    exact ⟨rfl, G1.out⟩
  | true =>
    cases b2 with
    | false =>
      go_enter Tryd.func59, Tryd.ntmps59
      go_wp2_with (first | (go_at_call 38; (with_reducible refine (TI.out _).mono ?_); rintro e w1 ⟨rfl, hg⟩; have G1 := Lib.hid (G0.out.trans hg); obtain ⟨s0, s1, s2, s3, s4, s5, s6⟩ := S0.out.made hg; clear hg) | (go_at_call 62; (with_reducible refine (CO.out _ G1.out).mono ?_); rintro e w2 ⟨rfl, hg⟩; have G2 := Lib.hid (G1.out.trans hg); clear hg))
      go_ret
      exact ⟨rfl, G2.out⟩
    | true =>
      go_enter Tryd.func59, Tryd.ntmps59
      go_wp2_with (first | (go_at_call 38; (with_reducible refine (TI.out _).mono ?_); rintro e w1 ⟨rfl, hg⟩; have G1 := Lib.hid (G0.out.trans hg); obtain ⟨s0, s1, s2, s3, s4, s5, s6⟩ := S0.out.made hg; clear hg) | (go_at_call 62; (with_reducible refine (CO.out _ G1.out).mono ?_); rintro e w2 ⟨rfl, hg⟩; have G2 := Lib.hid (G1.out.trans hg); clear hg))
      go_ret
      exact ⟨rfl, G2.out⟩
end
end Go.Proofs.YtfhebjkoojodiaaDoor.gq
