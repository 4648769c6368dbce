/- The walk of BufferClones. -/
import Derived.Test.YtljahpjdkkennaaBfI
namespace Go.Proofs.Ytljahpjdkkennaa.bf
open Go.ChangeShapes Go.WideShapes Go.ChangeAt Go.RowKit gen li
set_option linter.unusedVariables false
set_option maxHeartbeats 16000000
set_option maxRecDepth 100000
section
variable {w W W2 : World} {K J K1 K2 K3 J3 : List Nat} {g g2 : Nat} {M M3 : Value} {ls ls3 : List (List Int)}
/-- One list of a table, where it is read, also behind what is written elsewhere. -/
theorem Gd.at' {A : Option Addr} {N c i : Nat} (h : Gd w J (.slice A N c) ls) (hi : i < ls.length) :
    ∃ b A1 c1, A = some ⟨b, 0, none⟩ ∧ ∀ (L : List Nat) W, Gr L w W → (∀ q, q ∈ L → q ∉ J) → W.cell? ⟨b, i, none⟩ = some (.slice A1 (ls.getD i []).length c1) ∧ Li W (.slice A1 (ls.getD i []).length c1) (ls.getD i []) := by
  obtain ⟨us, h, rfl⟩ := h
  obtain ⟨b, rfl, hc⟩ := h.at_ hi
  obtain ⟨A1, c1, e1⟩ := (h.each i hi).shape
  have hl := h.each i hi
  have hj := fun q => js_at (M := .slice (some ⟨b, 0, none⟩) N c) (b := q) (show i < us.length by rw [h.len]; exact hi)
  rw [e1] at hc hl hj
  exact ⟨b, A1, c1, rfl, fun L W hg hL => ⟨hg.cell hc (fun hq => hL b hq (js_own rfl)), hl.gr hg (fun q e hq => hL q hq (hj q e))⟩⟩
/-- Two buffers and a table, alike and apart. -/
structure Cs (w : World) (K1 K2 : List Nat) (g1 g2 : Nat) (J : List Nat) (M : Value) (l1 l2 lm : List (List Int)) (W : World) : Prop where
  a1 : Al w K1 g1 l1 W
  a2 : Al w K2 g2 l2 W
  gd : Gd W J M lm
  o1 : ∀ q, q ∈ K1 → q ∉ J
  o2 : ∀ q, q ∈ K2 → q ∉ J
  k : ∀ q, q ∈ K2 → q ∉ K1
theorem Cs.new {g1 : Nat} {l1 l2 lm : List (List Int)} (h : Cs w K1 K2 g1 g2 J M l1 l2 lm W) (hg : W.grownBy W2 none) : Cs w K1 K2 g1 g2 J M l1 l2 lm W2 := ⟨h.a1.new hg, h.a2.new hg, h.gd.new hg, h.o1, h.o2, h.k⟩
/-- One was written, with a table of its own. -/
theorem Cs.first {g1 : Nat} {l1 l2 lm : List (List Int)} (h : Cs w K1 K2 g1 g2 J M l1 l2 lm W) (hr : Rn W K1 J K3 J3 g1 M3 ls3 W2) : Al w K2 g2 l2 W2 ∧ Gd W2 J M lm :=
  ⟨⟨h.a2.bf.gr hr.gr h.k, h.a2.le, Gr.grown h.a2.grown hr.gr h.a1.le⟩, h.gd.gr hr.gr (fun q hq hq2 => h.o1 q hq2 hq)⟩
end
theorem BufferClones_any (n : Int) (D1 : Option Addr) (l1 c1 : Nat) (f1 : Nat → Nat → Int) (D2 : Option Addr) (l2 c2 : Nat) (f2 : Nat → Nat → Int) (D3 : Option Addr) (l3 c3 : Nat) (f3 : Nat → Nat → Int) (w : World) (hc1 : l1 ≤ c1) (hm1 : c1 ≤ maxLen) (ho1 : Rws w w.heap.size D1 l1 3 f1)
    (hc2 : l2 ≤ c2) (hm2 : c2 ≤ maxLen) (ho2 : Rws w w.heap.size D2 l2 3 f2) (hc3 : l3 ≤ c3) (hm3 : c3 ≤ maxLen) (ho3 : Rws w w.heap.size D3 l3 3 f3) :
    Calls Try.prog 5 #[.int .i64 n, .slice D1 l1 c1, .slice D2 l2 c2, .slice D3 l3 c3] w fun e w' => e = .returned (.bool true) ∧ w.grownBy w' none := by
  obtain ⟨k, hk, h8⟩ := near_nat n 8
  have NW := Lib.hid (fun W (hg : w.grownBy W none) => (New_any n k hk h8 W).mono (fun r w' (h : NewA _ W r w') => (show NewA (List.replicate k []) w r w' from by
    obtain ⟨g, K, e, hb, hK, hg2⟩ := h
    exact ⟨g, K, e, hb, fun q hq => Nat.le_trans hg.size (hK q hq), hg.trans hg2⟩)))
  have FW1 := Lib.hid (fun w => few_any D1 l1 c1 w hc1 hm1 ho1.some)
  have FW2 := Lib.hid (fun w => few_any D2 l2 c2 w hc2 hm2 ho2.some)
  have FW3 := Lib.hid (fun w => few_any D3 l3 c3 w hc3 hm3 ho3.some)
  have mk := make_lists k h8
  have FS := Lib.hid (fun W n (hn : W.heap.size = n) => Gd.fresh' W h8 n hn)
  have RB := Lib.hid (fun w1 K g (h : Al w K g (List.replicate k []) w1) W n l2 c4 hg hd hn hl1 hl2 => run_begin (D := D1) (W := W) (n := n) (l2 := l2) (c4 := c4) h8 h ho1 hg hd hn hl1 hl2)
  have RR2 := Lib.hid (fun W K J g A N c ls (h : Al w K g ls W) (hd : Gd W J (.slice A N c) ls) (ho : ∀ q, q ∈ K → q ∉ J) (hN : N = ls.length) l c4 (hl1 : l ≤ 60) (hl2 : l ≤ l2) => run_any (D := D2) (c2 := c4) h.bf hd ho hN ((ho2.less hl2).kept h.grown (by simp)) h.le hl1)
  have RR3 := Lib.hid (fun W K J g A N c ls (h : Al w K g ls W) (hd : Gd W J (.slice A N c) ls) (ho : ∀ q, q ∈ K → q ∉ J) (hN : N = ls.length) l c4 (hl1 : l ≤ 60) (hl2 : l ≤ l3) => run_any (D := D3) (c2 := c4) h.bf hd ho hN ((ho3.less hl2).kept h.grown (by simp)) h.le hl1)
  have NR := Lib.hid (fun w => (show Calls Try.prog 9 #[.int .i64 n, .int .i64 0, .int .i64 8] w (fun e w' => e = .returned (.int .i64 (k : Int)) ∧ w = w') from hk ▸ Near_any n 0 8 w))
  clear ho1 hc1 hm1 ho2 hc2 hm2 ho3 hc3 hm3 hk
  generalize (List.replicate k nl).toArray = cs at mk FS
  go_enter Try.func5, Try.ntmps5
  go_wp2_with (first
    | (go_at_call 6; (with_reducible refine (alive_any _).mono ?_); rintro r w1 ⟨rfl, hg⟩; have G1 := Lib.hid hg; clear hg)
    | (go_at_call 8; (with_reducible refine (NW.out _ G1.out).mono ?_); rintro r w2 ⟨g, K, rfl, hb, hk, hg⟩; have S2 := Lib.hid (show Al w K g (List.replicate k []) w2 from ⟨hb, hk, hg⟩); clear hb hk hg))
  go_region_held3 (fun W => True) (trivial) (first
    | (have mark := L2; go_at_call 7; (with_reducible refine (RB.out _ _ _ S2.out _ _ _ _ (by first | exact World.grownBy_alloc _ _ _ | exact (World.grownBy_alloc _ _ _).trans (grown_drew _ _)) (by first | exact FS.out _ _ rfl | exact (FS.out _ _ (by simp)).new (grown_drew _ none)) (by simp) L2.out.1 L2.out.2).mono ?_); rintro r w3 ⟨A3, N3, c3, ls3, K3, J3, rfl, hN3, hR3⟩; have S3 := Lib.hid ((S2.out.new (by first | exact World.grownBy_alloc _ _ _ | exact (World.grownBy_alloc _ _ _).trans (grown_drew _ _))).write hR3.bf hR3.kk hR3.gr); have D3 := Lib.hid hR3.gd; have O3 := Lib.hid hR3.off; have HN3 := Lib.hid hN3; clear hR3 hN3)
    | (go_at_call 10; (with_reducible refine (FW1.out _).mono ?_); rintro r w' ⟨⟨l2', c4, hl1, hl2, rfl⟩, hw⟩; subst hw; have L2 := Lib.hid (⟨hl1, hl2⟩ : l2' ≤ 60 ∧ l2' ≤ l1); clear hl1 hl2)
    | (go_at_call 9; (with_reducible refine (NR.out _).mono ?_); rintro r w' ⟨rfl, hw⟩; subst hw))
  all_goals
    go_wp2_with (first
      | (have mark := L5; go_at_call 7; (with_reducible refine (RR3.out _ K2 J3 g2 A3 N3 c3 ls3 S5.out.1 S5.out.2 S4.out.o2 HN3.out _ _ L5.out.1 L5.out.2).mono ?_); rintro r w6 ⟨A6, N6, c6, ls6, K6, J6, rfl, hN6, hR6⟩; have S6 := Lib.hid (S5.out.1.write hR6.bf hR6.kk hR6.gr); have D6 := Lib.hid hR6.gd; have O6 := Lib.hid hR6.off; have HN6 := Lib.hid hN6; clear hR6 hN6)
      | (have mark := L4; go_at_call 7; (with_reducible refine (RR2.out _ K3 J3 g A3 N3 c3 ls3 S4.out.a1 S4.out.gd S4.out.o1 HN3.out _ _ L4.out.1 L4.out.2).mono ?_); rintro r w5 ⟨A5, N5, c5, ls5, K5, J5, rfl, hN5, hR5⟩; have S5 := Lib.hid (S4.out.first hR5); clear hR5 hN5)
      | (go_at_call 10; (with_reducible refine (FW2.out _).mono ?_); rintro r w' ⟨⟨m4, e4, hl1, hl2, rfl⟩, hw⟩; subst hw; have L4 := Lib.hid (⟨hl1, hl2⟩ : m4 ≤ 60 ∧ m4 ≤ l2); clear hl1 hl2)
      | (go_at_call 10; (with_reducible refine (FW3.out _).mono ?_); rintro r w' ⟨⟨m5, e5, hl1, hl2, rfl⟩, hw⟩; subst hw; have L5 := Lib.hid (⟨hl1, hl2⟩ : m5 ≤ 60 ∧ m5 ≤ l3); clear hl1 hl2)
      | (go_at_call 17; (with_reducible refine (Clone_any S3.out.bf).mono ?_); rintro r w4 ⟨g2, K2, rfl, hb4, hk4, hg4⟩; have S4 := Lib.hid (show Cs w K3 K2 g g2 J3 (.slice A3 N3 c3) ls3 ls3 ls3 w4 from ⟨S3.out.new hg4, ⟨hb4, fun q hq => Nat.le_trans S3.out.grown.size (hk4 q hq), S3.out.grown.trans hg4⟩, D3.out.new hg4, O3.out, fun q hq hq2 => (by have := D3.out.lt q hq2; have := hk4 q hq; omega), fun q hq hq2 => (by have := S3.out.bf.lt q hq2; have := hk4 q hq; omega)⟩); clear hb4 hk4 hg4))
    go_loopw [17] (fun i wr => ∃ (j : Nat) (K' : List Nat), j ≤ N6 ∧ i = .int .i64 j ∧ Al w K' g2 (cl ls6 j) wr ∧ Gd wr J6 (.slice A6 N6 c6) ls6 ∧ (∀ q, q ∈ K' → q ∉ J6)) (fun i _ => N6 - (intOf i).toNat)
    case atStart => exact ⟨0, K6, Nat.zero_le _, rfl, by rw [cl_zero]; exact S6.out, D6.out, O6.out⟩
    case round =>
      clear S6 D6 O6
      obtain ⟨j, K', hj, rfl, hS, hD, hO⟩ := hrel
      by_cases hlt : j < N6
      · have hjl : j < ls6.length := by rw [← HN6.out]; exact hlt
        have n8 : N6 ≤ 8 := by rw [HN6.out]; exact hD.ok.1
        obtain ⟨b, A7, c7, rfl, hce⟩ := hD.at' hjl
        have S := Lib.hid hS
        have D := Lib.hid hD
        have O := Lib.hid hO
        have CE := Lib.hid hce
        have TA := Lib.hid (Take_in hS.bf j (by rw [cl_length (Nat.le_of_lt hjl)]; exact hjl))
        rw [cl_at, cl_set hjl] at TA
        have hm := hD.ok.le j
        clear hS hD hO hce hjl
        generalize ls6.getD j [] = l at *
        obtain ⟨m, hml⟩ : ∃ m, m = l.length := ⟨_, rfl⟩
        rw [← hml] at CE hm
        have ML := Lib.hid hml
        clear hml
        have j0 : (0 : Int) ≤ (j : Int) := by omega
        have j1 : (j : Int) < (N6 : Int) := by omega
        go_wp2_with (first
          | (go_at_call 12; (with_reducible refine TA.out.mono ?_); rintro r w8 ⟨A8, N8, c8, K8, rfl, hN8, hl8, hk8, _, hb8, hg8⟩; have S8 := Lib.hid (S.out.write hb8 (fun q h => .inl (hk8 q h)) (hg8.mono hk8)); have D8 := Lib.hid (D.out.gr hg8 (fun q hq hq2 => O.out q (hk8 q hq2) hq)); have O8 := Lib.hid (fun q hq => O.out q (hk8 q hq)); obtain ⟨e8, li8⟩ := CE.out _ _ hg8 O8.out; have TI := Lib.hid (Ints_true l A8 A7 N8 m c8 c7 _ _ _ (by have := ML.out; omega) (hN8.trans ML.out.symm) (hl8.rd hN8) (li8.rd ML.out)); clear hN8 hl8 hk8 hb8 hg8 li8)
          | (go_at_call 13; (with_reducible refine TI.out.mono ?_); rintro r w9 ⟨rfl, q9, rfl⟩))
        go_roundw
        case rel => exact ⟨j + 1, K8, by omega, by go_num, S8.out.new (li.grown_drewN _ q9 none), D8.out.new (li.grown_drewN _ q9 none), O8.out⟩
        case measure => simp [intOf]; omega
      · obtain rfl : j = N6 := by omega
        have hS2 := hS
        rw [HN6.out, cl_all] at hS2
        have S := Lib.hid hS2
        have ODD := Lib.hid (show Nb (wr.alloc (.cells #[.slice none 0 0] 41)) (some ⟨wr.heap.size, 0, none⟩) from .inr ⟨_, rfl, by go_simp⟩)
        have EK := Lib.hid (fun W (hg : wr.grownBy W none) => (show Calls Try.prog 16 #[.pointer (some ⟨g2, 0, none⟩)] W (fun r w' => r = .returned (.bool true) ∧ W = w') from by have := Empty_any (hS2.bf.new hg); rw [tot_rep] at this; exact this))
        clear hS hS2 hD hO
        go_wp2_with (first
            | (go_at_call 16; (with_reducible refine (EK.out _ (World.grownBy_alloc _ _ _)).mono ?_); rintro r w' ⟨rfl, hw⟩; subst hw)
            | (have mark := ODD; go_at_call 11; (with_reducible refine (Put_nb (Nb.nil _) 0 0).mono ?_); rintro r w' ⟨rfl, hw⟩; subst hw)
            | (have mark := ODD; go_at_call 11; (with_reducible refine (Put_nb ODD.out 0 0).mono ?_); rintro r w' ⟨rfl, hw⟩; subst hw)
            | (have mark := ODD; go_at_call 12; (with_reducible refine (Take_nb (Nb.nil _) 0).mono ?_); rintro r w' ⟨rfl, hw⟩; subst hw)
            | (have mark := ODD; go_at_call 12; (with_reducible refine (Take_nb ODD.out 0).mono ?_); rintro r w' ⟨rfl, hw⟩; subst hw)
            | (have mark := ODD; go_at_call 18; (with_reducible refine (Len_nb (Nb.nil _) 0).mono ?_); rintro r w' ⟨rfl, hw⟩; subst hw)
            | (have mark := ODD; go_at_call 18; (with_reducible refine (Len_nb ODD.out 0).mono ?_); rintro r w' ⟨rfl, hw⟩; subst hw)
            | (have mark := ODD; go_at_call 16; (with_reducible refine (Empty_nb (Nb.nil _)).mono ?_); rintro r w' ⟨rfl, hw⟩; subst hw)
            | (have mark := ODD; go_at_call 16; (with_reducible refine (Empty_nb ODD.out).mono ?_); rintro r w' ⟨rfl, hw⟩; subst hw)
            | (have mark := ODD; go_at_call 15; (with_reducible refine (Clear_nb (Nb.nil _)).mono ?_); rintro r w' ⟨rfl, hw⟩; subst hw)
            | (have mark := ODD; go_at_call 15; (with_reducible refine (Clear_nb ODD.out).mono ?_); rintro r w' ⟨rfl, hw⟩; subst hw)
            | (have mark := ODD; go_at_call 17; (with_reducible refine (Clone_nb (Nb.nil _)).mono ?_); rintro r w' ⟨rfl, hw⟩; subst hw)
            | (have mark := ODD; go_at_call 17; (with_reducible refine (Clone_nb ODD.out).mono ?_); rintro r w' ⟨rfl, hw⟩; subst hw))
        go_ret
        exact ⟨rfl, S.out.grown.trans (World.grownBy_alloc _ _ _)⟩
end Go.Proofs.Ytljahpjdkkennaa.bf
