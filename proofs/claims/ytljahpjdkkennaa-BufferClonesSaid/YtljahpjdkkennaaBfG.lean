/- The statement's own step: the ways that change something; each step. -/
import Derived.Test.YtljahpjdkkennaaBfF
namespace Go.Proofs.Ytljahpjdkkennaa.bf
open Go.ChangeShapes Go.WideShapes Go.ChangeAt Go.RowKit gen li
set_option linter.unusedVariables false
set_option maxHeartbeats 8000000
set_option maxRecDepth 100000

/-- A list copied onto no list. -/
theorem append_from {w : World} {ops : Array Oper} {rest : List Oper} {o : Oper} {a : Act} {Q : Exit → Act → World → Prop} (hgd : o.guard = none) (s x : Operand) (ho : o.op = .call { callee := .builtin .append, args := #[s, x], argTypes := #[32, 32] })
    (hs : a.eval s = nl) (A : Option Addr) (m c : Nat) (hx : a.eval x = .slice A m c) (l : List Int) (hm : m = l.length) (hr : Li w (.slice A m c) l) (hl : m ≤ 1048576)
    (h : ∀ A' N' c' w', N' = m → w'.ownsRow w.heap.size 3 1 (.slice A' N' c') l.length (ints l) → w.grownBy w' none → wpList Try.prog ops Q rest (a.put o.dst (.slice A' N' c')) w') : wpList Try.prog ops Q (o :: rest) a w := by
  obtain ⟨i0, hi, hz0, hz1, hz2⟩ := info_parts info_int
  refine wpList_append_rd hgd s x 32 ho w.heap.size 3 i0 (.int .i64 0) 8 Try.underlying32 hi hz0 hz1 hz2 rfl nl 0 [] hs (World.ownsRow_nil _ _ _ _) A m c w.heap.size l hx (hr.rd hm) (by unfold maxLen; omega) (by omega) (Nat.le_refl _) (fun A' c' w' h1 h2 h3 => ?_)
  subst hm
  rw [List.nil_append, Nat.zero_add] at h1
  exact h A' _ c' w' (Nat.zero_add _) (by rw [Nat.zero_add]; exact h1) h3
/-- A number appended to a list of one's own. -/
theorem append_int {w : World} {ops : Array Oper} {rest : List Oper} {o : Oper} {a : Act} {Q : Exit → Act → World → Prop} (hgd : o.guard = none) (s x : Operand) (ho : o.op = .call { callee := .builtin .append, args := #[s, x], argTypes := #[32, 32] })
    (base : Nat) (v : Value) (xs : List Int) (hs : a.eval s = v) (hown : w.ownsRow base 3 1 v xs.length (ints xs)) (b : Nat) (z : Int) (hx : a.eval x = .slice (some ⟨b, 0, none⟩) 1 1)
    (hz : w.cell? ⟨b, 0, none⟩ = some (.int .i64 z)) (hm : xs.length ≤ 1048576) (hbase : base ≤ w.heap.size)
    (h : ∀ A' N' c' w', N' = (xs ++ [z]).length → w'.ownsRow base 3 1 (.slice A' N' c') (xs ++ [z]).length (ints (xs ++ [z])) → w.grownBy w' v.ownBlock → wpList Try.prog ops Q rest (a.put o.dst (.slice A' N' c')) w') : wpList Try.prog ops Q (o :: rest) a w := by
  obtain ⟨i0, hi, hz0, hz1, hz2⟩ := info_parts info_int
  refine wpList_append_rd hgd s x 32 ho base 3 i0 (.int .i64 0) 8 Try.underlying32 hi hz0 hz1 hz2 rfl v xs.length xs hs hown (some ⟨b, 0, none⟩) 1 1 w.heap.size [z] hx
    ⟨rfl, fun e => (by cases e), fun ad e i hi => ?_⟩ (by unfold maxLen; omega) (by omega) hbase (fun A' c' w' h1 h2 h3 => ?_)
  · injection e with e
    subst e
    obtain rfl : i = 0 := by omega
    exact ⟨World.block_lt_of_cell? _ _ hz, hz⟩
  · exact h A' (xs.length + 1) c' w' (by simp) (by rw [List.length_append]; exact h1) h3
theorem Gd.fresh' (w : World) {k : Nat} (h : k ≤ 8) (n : Nat) (hn : w.heap.size = n) : Gd (w.alloc (.cells (List.replicate k nl).toArray 32)) [n] (.slice (some ⟨n, 0, none⟩) k k) (List.replicate k []) := by
  subst hn
  exact Gd.fresh w h
/-- The table was made ahead of what was written. -/
theorem Sp.clear_a {w W Y : World} {K0 J0 K J K4 : List Nat} {o t a : Int} {vl : Value} {l : List Int} {p : Addr} {u : Value} {g n : Nat} {M M2 : Value} {lp lm lm2 : List (List Int)} (h : Sp w K0 J0 o t a vl l p u K4 J g M lp lm W)
    (hd : Gd Y [n] M2 lm2) (hg : Gr K Y W) (hK : ∀ q, q ∈ K4 → q ∈ K) (hl : ∀ q, q ∈ K → q < w.heap.size) (hn : w.heap.size ≤ n) : Sp w K0 J0 o t a vl l p u K4 [n] g M2 lp lm2 W :=
  h.tab (hd.gr hg (fun q hq hq2 => by rw [List.mem_singleton] at hq; subst hq; have := hl _ hq2; omega)) (fun q hq => by rw [List.mem_singleton] at hq; subst hq; exact .inr hn) (fun q hq hq2 => by rw [List.mem_singleton] at hq2; subst hq2; have := hl _ (hK _ hq); omega)
/-- The table was made behind what was written. -/
theorem Sp.clear_b {w W W2 : World} {K0 J0 J K4 : List Nat} {o t a : Int} {vl : Value} {l : List Int} {p : Addr} {u : Value} {g : Nat} {M M2 : Value} {lp lm lm2 : List (List Int)} (h : Sp w K0 J0 o t a vl l p u K4 J g M lp lm W)
    (hg : W.grownBy W2 none) (hd : Gd W2 [W.heap.size] M2 lm2) : Sp w K0 J0 o t a vl l p u K4 [W.heap.size] g M2 lp lm2 W2 :=
  (h.new hg).tab hd (fun q hq => by rw [List.mem_singleton] at hq; subst hq; exact .inr h.gr.size) (fun q hq hq2 => by rw [List.mem_singleton] at hq2; subst hq2; have := h.bf.lt _ hq; omega)
section
variable {w : World} {K J : List Nat} {g : Nat} {A : Option Addr} {N c : Nat} {ls : List (List Int)}
theorem step_put_yes (hb : Bf w K g ls) (hd : Gd w J (.slice A N c) ls) (ho : ∀ q, q ∈ K → q ∉ J) (hN : N = ls.length) (k : Nat) (hk : k < N) (a : Int) (ha : 0 ≤ a) (ha2 : a < 2048) (ha3 : a ∉ ls.getD k []) :
    Calls Try.prog 19 #[.pointer (some ⟨g, 0, none⟩), .slice A N c, .agg #[.int .i64 1, .int .i64 (k : Int), .int .i64 a]] w (StA K J g w) := by
  have HN := Lib.hid hN
  have h8 : N ≤ 8 := by rw [hN]; exact hb.ok.1
  have PT := Lib.hid (fun W (h : Bf W K g ls) => Put_yes h k (by rw [← hN]; exact hk) a ha ha2 ha3)
  have WL := Lib.hid ((hb.ok.2 k).put ha ha2 ha3)
  have ST := Lib.hid (fun W (h : Gd W J (.slice A N c) ls) A1 m1 c1 (hl : Li W (.slice A1 m1 c1) (ls.getD k [] ++ [a])) => set_any h hN hl k (by rw [← hN]; exact hk) WL.out)
  have NL := Lib.hid (show (ls.set k (ls.getD k [] ++ [a])).length = N by rw [List.length_set, hN])
  obtain ⟨b, A1, c1, rfl, d1, l1, j1⟩ := hd.at_ (i := k) (by omega)
  obtain ⟨us, hi, hj⟩ := id hd
  have hbj : b ∈ J := by rw [hj]; exact js_own rfl
  have S0 := Lib.hid (Sp.begin (o := 1) (t := k) (a := a) hb hd ho l1 j1 d1 hbj)
  have IA := fun W (hg : w.grownBy W none) => In_any (by have := hb.ok.le k; omega) ((l1.new hg).rd rfl) a
  rw [show decide (a ∈ ls.getD k []) = false from decide_eq_false ha3] at IA
  have IN := Lib.hid IA
  have hm := hb.ok.le k
  clear IA hb hd ho hN ha3 l1 j1 hbj hi hj
  generalize ls.getD k [] = l at *
  obtain ⟨m, hml⟩ : ∃ m, m = l.length := ⟨_, rfl⟩
  rw [← hml] at d1 IN hm S0
  have ML := Lib.hid hml
  have dl := World.block_lt_of_cell? _ _ d1
  dsimp only at dl
  clear hml
  have k0 : (0 : Int) ≤ (k : Int) := by omega
  have k1 : (k : Int) < (N : Int) := by omega
  have t1 : decide ((0 : Int) ≤ (k : Int)) = true := decide_eq_true k0
  have t2 : decide ((k : Int) < (N : Int)) = true := decide_eq_true k1
  have a1' : decide (a < 0) = false := decide_eq_false (by omega)
  have a2' : decide (2047 < a) = false := decide_eq_false (by omega)
  go_enter Try.func19, Try.ntmps19
  go_wp2
  go_quiet (first | (go_at_call 24; refine Calls.quiet_of_same (IN.out _ (by first | exact World.grownBy_alloc _ _ _ | exact (World.grownBy_alloc _ _ _).trans (li.grown_drewN _ _ _) | exact (World.grownBy_alloc _ _ _).trans (grown_drew _ _)))))
  go_wp2_with (first
    | (refine append_from rfl (.tmp 53) (.tmp 58) rfl rfl A1 m c1 rfl l ML.out ((S0.out.new (li.grown_drewN _ _ _)).li) (by omega) ?_; intro A2 N2 c2 w2 hn2 own2 gr2; have HN2 := Lib.hid hn2; have O2 := Lib.hid own2; have S2 := Lib.hid ((S0.out.new (li.grown_drewN _ _ _)).new gr2); have G2 := Lib.hid gr2; obtain ⟨b0, b1, b2⟩ := S2.out.f; have lt2 := S2.out.lt; clear hn2 own2 gr2)
    | ((refine append_int rfl (.tmp 60) (.tmp 63) rfl _ (.slice A2 N2 c2) l (by rfl) (O2.out.alloc _) w2.heap.size a rfl (by go_simp) (by have := ML.out; omega) (by have := G2.out.size; simp; omega) ?_; intro A3 N3 c3 w3 hn3 own3 gr3; have HN3 := Lib.hid hn3; have G3 := Lib.hid (li.grown_own (G2.out.trans (World.grownBy_alloc _ _ _)) (O2.out.alloc _) gr3 (Nat.le_refl _)); have S3 := Lib.hid ((S0.out.new (li.grown_drewN _ _ _)).made G3.out (own_mono own3 (Nat.zero_le _)) (fun q e => (own_lt own3 q e).1)); obtain ⟨b0, b1, b2⟩ := S3.out.f; have lt3 := S3.out.lt; clear hn3 own3 gr3)))
  go_region_held3 (fun W => W.cell? ⟨w.heap.size, 1, none⟩ = some (.int .i64 (k : Int)) ∧ W.cell? ⟨w.heap.size, 2, none⟩ = some (.int .i64 a)) (first | exact ⟨b1, b2⟩ | exact ⟨e1, e2⟩ | exact ⟨f1, f2⟩ | go_keep) (first
    | (have mark := S4; go_at_call 11; (with_reducible refine (PT.out _ (show Sp w K J 1 k a (.slice A3 N3 c3) (l ++ [a]) ⟨b, k, none⟩ (.slice A1 m c1) K J4 g (.slice A4 N4 c4) ls (ls.set k (l ++ [a])) _ from by first | exact S4.out | exact S4.out.new (grown_drew _ _) | exact S4.out.new (li.grown_drewN _ _ _)).bf).mono ?_); rintro r w5 ⟨rfl, K5, hk5, hb5, hg5⟩; have S5 := Lib.hid ((show Sp w K J 1 k a (.slice A3 N3 c3) (l ++ [a]) ⟨b, k, none⟩ (.slice A1 m c1) K J4 g (.slice A4 N4 c4) ls (ls.set k (l ++ [a])) _ from by first | exact S4.out | exact S4.out.new (grown_drew _ _) | exact S4.out.new (li.grown_drewN _ _ _)).write hb5 hk5 hg5); obtain ⟨f0, f1, f2⟩ := S5.out.f; have lt5 := S5.out.lt; clear hk5 hb5 hg5)
    | (go_at_call 29; (with_reducible refine (ST.out _ (show Sp w K J 1 k a (.slice A3 N3 c3) (l ++ [a]) ⟨b, k, none⟩ (.slice A1 m c1) K J g (.slice (some ⟨b, 0, none⟩) N c) ls ls _ from by first | exact S3.out | exact S3.out.new (grown_drew _ _) | exact S3.out.new (li.grown_drewN _ _ _)).gd A3 N3 c3 (show Sp w K J 1 k a (.slice A3 N3 c3) (l ++ [a]) ⟨b, k, none⟩ (.slice A1 m c1) K J g (.slice (some ⟨b, 0, none⟩) N c) ls ls _ from by first | exact S3.out | exact S3.out.new (grown_drew _ _) | exact S3.out.new (li.grown_drewN _ _ _)).li).mono ?_); rintro r w4 ha4; obtain ⟨A4, N4, c4, J4, rfl, hN4, hS4, hg4⟩ := (show Sp w K J 1 k a (.slice A3 N3 c3) (l ++ [a]) ⟨b, k, none⟩ (.slice A1 m c1) K J g (.slice (some ⟨b, 0, none⟩) N c) ls ls _ from by first | exact S3.out | exact S3.out.new (grown_drew _ _) | exact S3.out.new (li.grown_drewN _ _ _)).set ha4 S3.out.lv; have S4 := Lib.hid hS4; have HN4 := Lib.hid hN4; obtain ⟨e0, e1, e2⟩ := S4.out.f; have lt4 := S4.out.lt; clear ha4 hN4 hS4 hg4))
  go_wp2
  go_ret2
  first | exact S5.out.fin HN4.out | exact (S5.out.new (grown_drew _ _)).fin HN4.out | exact (S5.out.new (li.grown_drewN _ _ _)).fin HN4.out
theorem step_take_in (hb : Bf w K g ls) (hd : Gd w J (.slice A N c) ls) (ho : ∀ q, q ∈ K → q ∉ J) (hN : N = ls.length) (k : Nat) (hk : k < N) (a : Int) :
    Calls Try.prog 19 #[.pointer (some ⟨g, 0, none⟩), .slice A N c, .agg #[.int .i64 2, .int .i64 (k : Int), .int .i64 a]] w (StA K J g w) := by
  have h8 : N ≤ 8 := by rw [hN]; exact hb.ok.1
  have PT := Lib.hid (fun W (h : Bf W K g ls) => Take_in h k (by rw [← hN]; exact hk))
  have ST := Lib.hid (fun W (h : Gd W J (.slice A N c) ls) => (show Calls Try.prog 29 #[.slice A N c, .int .i64 (k : Int), .slice none 0 0] W (SetA J nl (ls.set k []) W) from set_any h hN (Li.nil W) k (by rw [← hN]; exact hk) Wl.nil))
  obtain ⟨b, A1, c1, rfl, d1, l1, j1⟩ := hd.at_ (i := k) (by omega)
  obtain ⟨us, hi, hj⟩ := id hd
  have hbj : b ∈ J := by rw [hj]; exact js_own rfl
  have S0 := Lib.hid (Sp.begin (o := 2) (t := k) (a := a) hb hd ho l1 j1 d1 hbj)
  have hm := hb.ok.le k
  clear hb hd ho hN l1 j1 hbj hi hj
  generalize ls.getD k [] = l at *
  obtain ⟨m, hml⟩ : ∃ m, m = l.length := ⟨_, rfl⟩
  rw [← hml] at d1 hm S0
  have ML := Lib.hid hml
  have dl := World.block_lt_of_cell? _ _ d1
  dsimp only at dl
  clear hml
  have k0 : (0 : Int) ≤ (k : Int) := by omega
  have k1 : (k : Int) < (N : Int) := by omega
  have t1 : decide ((0 : Int) ≤ (k : Int)) = true := decide_eq_true k0
  have t2 : decide ((k : Int) < (N : Int)) = true := decide_eq_true k1
  obtain ⟨b0, b1, b2⟩ := S0.out.f
  have bc := S0.out.ce
  go_enter Try.func19, Try.ntmps19
  go_wp2
  go_region_held3 (fun W => W.cell? ⟨w.heap.size, 1, none⟩ = some (.int .i64 (k : Int)) ∧ W.cell? ⟨b, k, none⟩ = some (.slice A1 m c1)) (first | exact ⟨b1, bc⟩ | exact ⟨e1, ec⟩ | exact ⟨f1, fc⟩ | go_keep) (first
    | (have mark := S5; go_at_call 13; (with_reducible refine (Ints_true l A5 A1 N5 m c5 c1 _ _ _ (by have := HN5.out; have := ML.out; omega) (HN5.out.trans ML.out.symm) ((show Li _ (.slice A5 N5 c5) l from by first | exact L5.out | exact L5.out.new (grown_drew _ _) | exact L5.out.new (li.grown_drewN _ _ _)).rd HN5.out) ((show Sp w K J 2 k a (.slice A1 m c1) l ⟨b, k, none⟩ (.slice A1 m c1) K5 J4 g (.slice A4 N4 c4) (ls.set k []) (ls.set k []) _ from by first | exact S5.out | exact S5.out.new (grown_drew _ _) | exact S5.out.new (li.grown_drewN _ _ _)).li.rd ML.out)).mono ?_); rintro r w6 ⟨rfl, q6, rfl⟩)
    | (have mark := S4; go_at_call 12; (with_reducible refine (PT.out _ (show Sp w K J 2 k a (.slice A1 m c1) l ⟨b, k, none⟩ (.slice A1 m c1) K J4 g (.slice A4 N4 c4) ls (ls.set k []) _ from by first | exact S4.out | exact S4.out.new (grown_drew _ _) | exact S4.out.new (li.grown_drewN _ _ _)).bf).mono ?_); rintro r w5 ⟨A5, N5, c5, K5, rfl, hn5, hl5, hk5, hx5, hb5, hg5⟩; have S5 := Lib.hid ((show Sp w K J 2 k a (.slice A1 m c1) l ⟨b, k, none⟩ (.slice A1 m c1) K J4 g (.slice A4 N4 c4) ls (ls.set k []) _ from by first | exact S4.out | exact S4.out.new (grown_drew _ _) | exact S4.out.new (li.grown_drewN _ _ _)).write hb5 (fun q h => .inl (hk5 q h)) (hg5.mono hk5)); have HN5 := Lib.hid hn5; have L5 := Lib.hid hl5; obtain ⟨f0, f1, f2⟩ := S5.out.f; have fc := S5.out.ce; have lt5 := S5.out.lt; clear hn5 hl5 hk5 hx5 hb5 hg5)
    | (go_at_call 29; (with_reducible refine (ST.out _ (show Sp w K J 2 k a (.slice A1 m c1) l ⟨b, k, none⟩ (.slice A1 m c1) K J g (.slice (some ⟨b, 0, none⟩) N c) ls ls _ from by first | exact S0.out | exact S0.out.new (grown_drew _ _) | exact S0.out.new (li.grown_drewN _ _ _)).gd).mono ?_); rintro r w4 ha4; obtain ⟨A4, N4, c4, J4, rfl, hN4, hS4, hg4⟩ := (show Sp w K J 2 k a (.slice A1 m c1) l ⟨b, k, none⟩ (.slice A1 m c1) K J g (.slice (some ⟨b, 0, none⟩) N c) ls ls _ from by first | exact S0.out | exact S0.out.new (grown_drew _ _) | exact S0.out.new (li.grown_drewN _ _ _)).set ha4 (fun q e => by cases e); have S4 := Lib.hid hS4; have HN4 := Lib.hid hN4; obtain ⟨e0, e1, e2⟩ := S4.out.f; have ec := S4.out.ce; have lt4 := S4.out.lt; clear ha4 hN4 hS4 hg4))
  go_wp2
  go_ret2
  first | exact S5.out.fin HN4.out | exact (S5.out.new (grown_drew _ _)).fin HN4.out | exact (S5.out.new (li.grown_drewN _ _ _)).fin HN4.out
theorem step_clear (hb : Bf w K g ls) (hd : Gd w J (.slice A N c) ls) (ho : ∀ q, q ∈ K → q ∉ J) (hN : N = ls.length) (t a : Int) :
    Calls Try.prog 19 #[.pointer (some ⟨g, 0, none⟩), .slice A N c, .agg #[.int .i64 3, .int .i64 t, .int .i64 a]] w (StA K J g w) := by
  have h8 : N ≤ 8 := by rw [hN]; exact hb.ok.1
  have S0 := Lib.hid (Sp.start (o := 3) (t := t) (a := a) hb hd ho)
  have CL := Lib.hid (fun W (h : Bf W K g ls) => (show Calls Try.prog 15 #[.pointer (some ⟨g, 0, none⟩)] W (fun r w' => ∃ K', r = .returned (.int .i64 (tot ls : Int)) ∧ (∀ q, q ∈ K' → q ∈ K) ∧ Bf w' K' g (List.replicate N []) ∧ Gr K W w') from by rw [hN]; exact Clear_any h))
  have SU := Lib.hid (fun W (h : Gd W J (.slice A N c) ls) => sum_any h hN)
  have mk := make_lists N h8
  have FS := Lib.hid (fun W n (hn : W.heap.size = n) => Gd.fresh' W h8 n hn)
  have KL := Lib.hid hb.lt
  have HR := Lib.hid (show N = (List.replicate N ([] : List Int)).length by simp)
  generalize (List.replicate N nl).toArray = cs at mk FS
  generalize tot ls = s at *
  clear hb hd ho hN
  obtain ⟨b0, b1, b2⟩ := S0.out.f
  by_cases h1 : t < 0
  · have t1 : decide ((0 : Int) ≤ t) = false := decide_eq_false (by omega)
    clear h1
    go_enter Try.func19, Try.ntmps19
    go_wp2
    go_region_held3 (fun W => W.cell? ⟨w.heap.size, 0, none⟩ = some (.int .i64 3)) (first | exact b0 | exact e0 | go_keep) (first
      | (have mark := S4; go_at_call 20; (with_reducible refine (SU.out _ (show Sp w K J 3 t a nl [] ⟨w.heap.size, 0, none⟩ (.int .i64 3) K4 J g (.slice A N c) (List.replicate N []) ls _ from by first | exact S4.out | exact S4.out.new (grown_drew _ _) | exact S4.out.new (World.grownBy_alloc _ _ _) | exact S4.out.new ((grown_drew _ _).trans (World.grownBy_alloc _ _ _)) | exact S4.out.new (li.grown_drewN _ _ _) | exact S4.out.new ((li.grown_drewN _ _ _).trans (World.grownBy_alloc _ _ _))).gd).mono ?_); rintro r w6 ⟨rfl, rfl⟩)
      | (go_at_call 15; (with_reducible refine (CL.out _ (show Sp w K J 3 t a nl [] ⟨w.heap.size, 0, none⟩ (.int .i64 3) K J g (.slice A N c) ls ls _ from by first | exact S0.out | exact S0.out.new (grown_drew _ _) | exact S0.out.new (World.grownBy_alloc _ _ _) | exact S0.out.new ((grown_drew _ _).trans (World.grownBy_alloc _ _ _)) | exact S0.out.new (li.grown_drewN _ _ _) | exact S0.out.new ((li.grown_drewN _ _ _).trans (World.grownBy_alloc _ _ _))).bf).mono ?_); rintro r w4 ⟨K4, rfl, hk4, hb4, hg4⟩; have S4 := Lib.hid ((show Sp w K J 3 t a nl [] ⟨w.heap.size, 0, none⟩ (.int .i64 3) K J g (.slice A N c) ls ls _ from by first | exact S0.out | exact S0.out.new (grown_drew _ _) | exact S0.out.new (World.grownBy_alloc _ _ _) | exact S0.out.new ((grown_drew _ _).trans (World.grownBy_alloc _ _ _)) | exact S0.out.new (li.grown_drewN _ _ _) | exact S0.out.new ((li.grown_drewN _ _ _).trans (World.grownBy_alloc _ _ _))).write hb4 (fun q h => .inl (hk4 q h)) hg4); have G4 := Lib.hid hg4; have HK4 := Lib.hid hk4; obtain ⟨e0, e1, e2⟩ := S4.out.f; have lt4 := S4.out.lt; clear hk4 hb4 hg4))
    all_goals go_wp2
    all_goals go_ret2
    all_goals first
      | exact (Sp.clear_a S4.out ((FS.out _ _ (by simp)).new (grown_drew _ none)) G4.out HK4.out KL.out (by omega)).fin HR.out
      | exact (Sp.clear_a S4.out (FS.out _ _ (by simp)) G4.out HK4.out KL.out (by omega)).fin HR.out
      | exact (Sp.clear_b S4.out (World.grownBy_alloc _ _ none) (FS.out _ _ rfl)).fin HR.out
  · have t1 : decide ((0 : Int) ≤ t) = true := decide_eq_true (by omega)
    by_cases h2 : t < N
    · have t2 : decide (t < (N : Int)) = true := decide_eq_true h2
      clear h1 h2
      go_enter Try.func19, Try.ntmps19
      go_wp2
      go_region_held3 (fun W => W.cell? ⟨w.heap.size, 0, none⟩ = some (.int .i64 3)) (first | exact b0 | exact e0 | go_keep) (first
        | (have mark := S4; go_at_call 20; (with_reducible refine (SU.out _ (show Sp w K J 3 t a nl [] ⟨w.heap.size, 0, none⟩ (.int .i64 3) K4 J g (.slice A N c) (List.replicate N []) ls _ from by first | exact S4.out | exact S4.out.new (grown_drew _ _) | exact S4.out.new (World.grownBy_alloc _ _ _) | exact S4.out.new ((grown_drew _ _).trans (World.grownBy_alloc _ _ _)) | exact S4.out.new (li.grown_drewN _ _ _) | exact S4.out.new ((li.grown_drewN _ _ _).trans (World.grownBy_alloc _ _ _))).gd).mono ?_); rintro r w6 ⟨rfl, rfl⟩)
        | (go_at_call 15; (with_reducible refine (CL.out _ (show Sp w K J 3 t a nl [] ⟨w.heap.size, 0, none⟩ (.int .i64 3) K J g (.slice A N c) ls ls _ from by first | exact S0.out | exact S0.out.new (grown_drew _ _) | exact S0.out.new (World.grownBy_alloc _ _ _) | exact S0.out.new ((grown_drew _ _).trans (World.grownBy_alloc _ _ _)) | exact S0.out.new (li.grown_drewN _ _ _) | exact S0.out.new ((li.grown_drewN _ _ _).trans (World.grownBy_alloc _ _ _))).bf).mono ?_); rintro r w4 ⟨K4, rfl, hk4, hb4, hg4⟩; have S4 := Lib.hid ((show Sp w K J 3 t a nl [] ⟨w.heap.size, 0, none⟩ (.int .i64 3) K J g (.slice A N c) ls ls _ from by first | exact S0.out | exact S0.out.new (grown_drew _ _) | exact S0.out.new (World.grownBy_alloc _ _ _) | exact S0.out.new ((grown_drew _ _).trans (World.grownBy_alloc _ _ _)) | exact S0.out.new (li.grown_drewN _ _ _) | exact S0.out.new ((li.grown_drewN _ _ _).trans (World.grownBy_alloc _ _ _))).write hb4 (fun q h => .inl (hk4 q h)) hg4); have G4 := Lib.hid hg4; have HK4 := Lib.hid hk4; obtain ⟨e0, e1, e2⟩ := S4.out.f; have lt4 := S4.out.lt; clear hk4 hb4 hg4))
      all_goals go_wp2
      all_goals go_ret2
      all_goals first
        | exact (Sp.clear_a S4.out ((FS.out _ _ (by simp)).new (grown_drew _ none)) G4.out HK4.out KL.out (by omega)).fin HR.out
        | exact (Sp.clear_a S4.out (FS.out _ _ (by simp)) G4.out HK4.out KL.out (by omega)).fin HR.out
        | exact (Sp.clear_b S4.out (World.grownBy_alloc _ _ none) (FS.out _ _ rfl)).fin HR.out
    · have t2 : decide (t < (N : Int)) = false := decide_eq_false h2
      clear h1 h2
      go_enter Try.func19, Try.ntmps19
      go_wp2
      go_region_held3 (fun W => W.cell? ⟨w.heap.size, 0, none⟩ = some (.int .i64 3)) (first | exact b0 | exact e0 | go_keep) (first
        | (have mark := S4; go_at_call 20; (with_reducible refine (SU.out _ (show Sp w K J 3 t a nl [] ⟨w.heap.size, 0, none⟩ (.int .i64 3) K4 J g (.slice A N c) (List.replicate N []) ls _ from by first | exact S4.out | exact S4.out.new (grown_drew _ _) | exact S4.out.new (World.grownBy_alloc _ _ _) | exact S4.out.new ((grown_drew _ _).trans (World.grownBy_alloc _ _ _)) | exact S4.out.new (li.grown_drewN _ _ _) | exact S4.out.new ((li.grown_drewN _ _ _).trans (World.grownBy_alloc _ _ _))).gd).mono ?_); rintro r w6 ⟨rfl, rfl⟩)
        | (go_at_call 15; (with_reducible refine (CL.out _ (show Sp w K J 3 t a nl [] ⟨w.heap.size, 0, none⟩ (.int .i64 3) K J g (.slice A N c) ls ls _ from by first | exact S0.out | exact S0.out.new (grown_drew _ _) | exact S0.out.new (World.grownBy_alloc _ _ _) | exact S0.out.new ((grown_drew _ _).trans (World.grownBy_alloc _ _ _)) | exact S0.out.new (li.grown_drewN _ _ _) | exact S0.out.new ((li.grown_drewN _ _ _).trans (World.grownBy_alloc _ _ _))).bf).mono ?_); rintro r w4 ⟨K4, rfl, hk4, hb4, hg4⟩; have S4 := Lib.hid ((show Sp w K J 3 t a nl [] ⟨w.heap.size, 0, none⟩ (.int .i64 3) K J g (.slice A N c) ls ls _ from by first | exact S0.out | exact S0.out.new (grown_drew _ _) | exact S0.out.new (World.grownBy_alloc _ _ _) | exact S0.out.new ((grown_drew _ _).trans (World.grownBy_alloc _ _ _)) | exact S0.out.new (li.grown_drewN _ _ _) | exact S0.out.new ((li.grown_drewN _ _ _).trans (World.grownBy_alloc _ _ _))).write hb4 (fun q h => .inl (hk4 q h)) hg4); have G4 := Lib.hid hg4; have HK4 := Lib.hid hk4; obtain ⟨e0, e1, e2⟩ := S4.out.f; have lt4 := S4.out.lt; clear hk4 hb4 hg4))
      all_goals go_wp2
      all_goals go_ret2
      all_goals first
        | exact (Sp.clear_a S4.out ((FS.out _ _ (by simp)).new (grown_drew _ none)) G4.out HK4.out KL.out (by omega)).fin HR.out
        | exact (Sp.clear_a S4.out (FS.out _ _ (by simp)) G4.out HK4.out KL.out (by omega)).fin HR.out
        | exact (Sp.clear_b S4.out (World.grownBy_alloc _ _ none) (FS.out _ _ rfl)).fin HR.out
end
end Go.Proofs.Ytljahpjdkkennaa.bf
