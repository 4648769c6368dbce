/- Layer 16's New, Take, Clear, Clone; Clamp, slices.Clone. -/
import Derived.Test.YtljahpjdkkennaaBfC
namespace Go.Proofs.Ytljahpjdkkennaa.bf
open Go.ChangeShapes Go.WideShapes Go.ChangeAt Go.RowKit gen li
set_option linter.unusedVariables false
set_option maxHeartbeats 4000000
set_option maxRecDepth 100000

/-- The nearest number that may be. -/
def near (n a b : Int) : Int := if n < a then a else if b < n then b else n
theorem ret_int {a b : Int} (h : a = b) : Ending.returned (.int .i64 a) = .returned (.int .i64 b) := by rw [h]
theorem near_nat (n : Int) (b : Nat) : ∃ k : Nat, near n 0 b = k ∧ k ≤ b := by
  refine ⟨(near n 0 b).toNat, ?_, ?_⟩ <;> (unfold near; repeat' split) <;> omega
theorem Clamp_any (n a b : Int) (w : World) : Calls Try.prog 21 #[.int .i64 n, .int .i64 a, .int .i64 b] w fun e w' => e = .returned (.int .i64 (near n a b)) ∧ w = w' := by
  by_cases h : n < a
  · go_enter Try.func21, Try.ntmps21
    go_wp2
    go_ret
    exact ⟨by simp [near, h], rfl⟩
  by_cases h2 : b < n
  all_goals
    go_enter Try.func21, Try.ntmps21
    go_wp2
    go_ret
    exact ⟨ret_int (by unfold near; repeat' split
                       all_goals omega), rfl⟩
theorem info_list : (Try.prog.info? 32).map (fun i => (i.zero, i.size, i.bytes)) = some (some (.slice none 0 0), 1, 24) := by kernel_rfl
theorem madeCells_rep (z : Value) (n : Nat) : madeCells #[z] n = (List.replicate n z).toArray := by
  apply Array.ext'
  rw [toList_madeCells_one]
theorem make_lists (n : Nat) (hn : n ≤ 8) (w : World) :
    (Instr.makeSlice 24 (.int .i64 (n : Int)) (.int .i64 (n : Int))).run Try.prog w = .ok (.slice (some ⟨w.heap.size, 0, none⟩) n n) (w.alloc (.cells (List.replicate n nl).toArray 32)) := by
  obtain ⟨i0, hi, hz0, hz1, hz2⟩ := info_parts info_list
  have h := run_make (P := Try.prog) w 24 32 i0 _ Try.underlying24 hi hz0 .i64 .i64 n n (by omega) (Int.le_refl _) (by rw [hz2]; omega) (by omega)
  rw [h]
  simp only [Int.toNat_natCast, hz1, Nat.mul_one]
  rw [show (nl : Value).cells = #[nl] from rfl, madeCells_rep]
theorem rep_at {n i : Nat} : (List.replicate n nl).getD i nl = nl := by
  rw [List.getD_eq_getElem?_getD, List.getElem?_replicate]
  split <;> rfl
theorem lrep_at {n i : Nat} : (List.replicate n ([] : List Int)).getD i [] = [] := by
  rw [List.getD_eq_getElem?_getD, List.getElem?_replicate]
  split <;> rfl
theorem Bi.fresh (w : World) {k : Nat} (h : k ≤ 8) : Bi ((w.alloc (.cells (List.replicate k nl).toArray 32)).alloc (.cells #[.slice (some ⟨w.heap.size, 0, none⟩) k k] 41)) (w.heap.size + 1) w.heap.size (List.replicate k nl) (List.replicate k []) := by
  have hsz : (w.alloc (.cells (List.replicate k nl).toArray 32)).heap.size = w.heap.size + 1 := by simp
  refine ⟨?_, ?_, by simp, Ok.rep h, fun i hi => ?_, fun i j hi hj hij b e => ?_⟩
  · rw [← hsz, heap_alloc_new, List.length_replicate]
  · rw [Below.heap_alloc _ _ _ (by omega), heap_alloc_new]
  · rw [rep_at, lrep_at]
    exact Li.nil _
  · rw [rep_at] at e
    cases e
/-- Buffers that were made. -/
def NewA (ls : List (List Int)) (w : World) (r : Ending) (w' : World) : Prop := ∃ g K, r = .returned (.pointer (some ⟨g, 0, none⟩)) ∧ Bf w' K g ls ∧ (∀ q, q ∈ K → w.heap.size ≤ q) ∧ w.grownBy w' none
theorem ks_new {w : World} {k : Nat} : ∀ q, q ∈ ks (w.heap.size + 1) w.heap.size (List.replicate k nl) → w.heap.size ≤ q := fun q hq => by
  rcases ks_of hq with rfl | rfl | ⟨i, hi, e⟩
  · omega
  · exact Nat.le_refl _
  · rw [rep_at] at e
    cases e
theorem New_at (n : Int) (k : Nat) (hk : near n 0 8 = k) (h8 : k ≤ 8) (w : World) : Calls Try.prog 8 #[.int .i64 n] w fun r w' => r = .returned (.pointer (some ⟨w.heap.size + 1, 0, none⟩)) ∧ Bi w' (w.heap.size + 1) w.heap.size (List.replicate k nl) (List.replicate k []) ∧ w.grownBy w' none := by
  have HK := Lib.hid hk
  have mk := make_lists k h8
  have FR := Lib.hid (Bi.fresh w h8)
  have H8 := Lib.hid h8
  clear hk
  generalize (List.replicate k nl).toArray = cs at mk FR
  go_enter Try.func8, Try.ntmps8
  go_wp2_with (go_at_call 21; (with_reducible refine (Clamp_any _ _ _ _).mono ?_); rintro e w' ⟨rfl, rfl⟩; rw [HK.out])
  go_ret
  exact ⟨rfl, FR.out, (World.grownBy_alloc _ _ _).trans (World.grownBy_alloc _ _ _)⟩
theorem New_any (n : Int) (k : Nat) (hk : near n 0 8 = k) (h8 : k ≤ 8) (w : World) : Calls Try.prog 8 #[.int .i64 n] w (NewA (List.replicate k []) w) := by
  refine (New_at n k hk h8 w).mono ?_
  rintro r w' ⟨rfl, hb, hg⟩
  exact ⟨_, _, rfl, ⟨_, _, hb, rfl⟩, ks_new, hg⟩
/-! ### Take -/
/-- A list that is told, and let go of. -/
def TakeA (K : List Nat) (g : Nat) (l : List Int) (ls : List (List Int)) (w : World) (r : Ending) (w' : World) : Prop :=
  ∃ A N c K', r = .returned (.slice A N c) ∧ N = l.length ∧ Li w' (.slice A N c) l ∧ (∀ q, q ∈ K' → q ∈ K) ∧ (∀ q, (Value.slice A N c).ownBlock = some q → q ∉ K') ∧ Bf w' K' g ls ∧ Gr K' w w'
section
variable {w w' : World} {g R : Nat} {us : List Value} {ls : List (List Int)} {p : Option Addr} {K : List Nat}
theorem Take_nb (h : Nb w p) (t : Int) : Calls Try.prog 12 #[.pointer p, .int .i64 t] w fun r w' => r = .returned (.slice none 0 0) ∧ w = w' := by
  have HB := Lib.hid (has_nb h t)
  clear h
  go_enter Try.func12, Try.ntmps12
  go_wp2_with (go_at_call 22; (with_reducible refine HB.out.mono ?_); rintro r w' ⟨rfl, rfl⟩)
  go_ret
  exact ⟨rfl, rfl⟩
theorem Take_out (h : Bf w K g ls) (t : Int) (ht : t < 0 ∨ (ls.length : Int) ≤ t) : Calls Try.prog 12 #[.pointer (some ⟨g, 0, none⟩), .int .i64 t] w fun r w' => r = .returned (.slice none 0 0) ∧ w = w' := by
  obtain ⟨R, us, h, _⟩ := h
  have HA := has_any h t
  rw [hs_out ht] at HA
  have HB := Lib.hid HA
  clear h HA ht
  go_enter Try.func12, Try.ntmps12
  go_wp2_with (go_at_call 22; (with_reducible refine HB.out.mono ?_); rintro r w' ⟨rfl, rfl⟩)
  go_ret
  exact ⟨rfl, rfl⟩
theorem Bi.let_go (h : Bi w g R us ls) {k : Nat} (hk : k < ls.length) : ∀ q, (us.getD k nl).ownBlock = some q → q ∉ ks g R (us.set k nl) := fun q e hq => by
  obtain ⟨o1, o2⟩ := h.off hk
  rcases ks_of hq with rfl | rfl | ⟨i, hi, e2⟩
  · exact o1 e
  · exact o2 e
  · rw [List.length_set, h.len] at hi
    by_cases e' : k = i
    · subst e'
      rw [set_same nl (by rw [h.len]; exact hk)] at e2
      cases e2
    · rw [set_else nl e'] at e2
      exact h.apart k i hk hi e' q e e2
theorem ks_less {k : Nat} (h : k < us.length) : ∀ q, q ∈ ks g R (us.set k nl) → q ∈ ks g R us := fun q hq => by
  rcases ks_of hq with rfl | rfl | ⟨i, hi, e2⟩
  · simp [ks]
  · simp [ks]
  · rw [List.length_set] at hi
    by_cases e' : k = i
    · subst e'
      rw [set_same nl h] at e2
      cases e2
    · rw [set_else nl e'] at e2
      exact ks_at hi e2
theorem Take_in (h : Bf w K g ls) (k : Nat) (hk : k < ls.length) : Calls Try.prog 12 #[.pointer (some ⟨g, 0, none⟩), .int .i64 (k : Int)] w (TakeA K g (ls.getD k []) (ls.set k []) w) := by
  obtain ⟨R, us, h, rfl⟩ := h
  have HA := has_any h k
  rw [hs_in hk] at HA
  have c0 := h.c0
  have c1 := h.at_ hk
  obtain ⟨A, c, e⟩ := (h.each k hk).shape
  have HL := h.each k hk
  have h8 := h.ok.1
  have HP := Lib.hid (h.put hk (Li.nil w) (World.grownBy.refl _ _) (fun b e => by cases e) Wl.nil)
  have HX := h.let_go hk
  have HY := Lib.hid (ks_less (g := g) (R := R) (k := k) (us := us) (by rw [h.len]; exact hk))
  have HZ := Lib.hid ((h.each k hk).off h.row (fun cs z => by simp))
  have fz := h.free k
  have rlt := h.R_lt
  rw [e] at c1 HL HX HZ
  have HX := Lib.hid HX
  have HL := Lib.hid HL
  have HB := Lib.hid HA
  clear HA e h
  obtain ⟨m, hm⟩ : ∃ m, m = (ls.getD k []).length := ⟨_, rfl⟩
  rw [← hm] at c1 HL HX HZ
  have HM := Lib.hid hm
  clear hm
  generalize ls.length = n at *
  have k0 : (0 : Int) ≤ (k : Int) := by omega
  have k1 : (k : Int) < (n : Int) := by omega
  go_enter Try.func12, Try.ntmps12
  go_wp2_with (go_at_call 22; (with_reducible refine HB.out.mono ?_); rintro r w' ⟨rfl, rfl⟩)
  go_ret
  exact ⟨A, m, c, _, rfl, HM.out, HL.out.kept (grown_set _ _ _ _) (.inr HZ.out), HY.out, HX.out, ⟨R, _, HP.out, rfl⟩, .one (grown_set _ _ _ _) (by simp [ks])⟩
/-! ### Clear -/
/-- The lists while they are cleared: the first k are empty. -/
def cl (ls : List (List Int)) (k : Nat) : List (List Int) := List.replicate k [] ++ ls.drop k
theorem cl_zero (ls : List (List Int)) : cl ls 0 = ls := by simp [cl]
theorem cl_all (ls : List (List Int)) : cl ls ls.length = List.replicate ls.length [] := by simp [cl]
theorem cl_length {ls : List (List Int)} {k : Nat} (h : k ≤ ls.length) : (cl ls k).length = ls.length := by simp [cl]; omega
theorem cl_at {ls : List (List Int)} {k : Nat} : (cl ls k).getD k [] = ls.getD k [] := by
  unfold cl
  rw [List.getD_eq_getElem?_getD, List.getElem?_append_right (by simp)]
  simp [List.getD_eq_getElem?_getD]
theorem cl_set {ls : List (List Int)} {k : Nat} (h : k < ls.length) : (cl ls k).set k [] = cl ls (k + 1) := by
  unfold cl
  rw [List.set_append_right _ _ (by simp), List.length_replicate, Nat.sub_self, List.drop_eq_getElem_cons h, List.set_cons_zero, List.replicate_succ', List.append_assoc]
  rfl
theorem Clear_nb (h : Nb w p) : Calls Try.prog 15 #[.pointer p] w fun r w' => r = .returned (.int .i64 0) ∧ w = w' := by
  have HA := Lib.hid (all_nb h)
  clear h
  go_enter Try.func15, Try.ntmps15
  go_wp2_with (go_at_call 25; (with_reducible refine HA.out.mono ?_); rintro r w' ⟨rfl, hw⟩; subst hw)
  go_loopw [3, 8] (fun s i wr => s = .int .i64 0 ∧ i = .int .i64 0 ∧ wr = w) (fun _ i _ => 0)
  case atStart => exact ⟨rfl, rfl, rfl⟩
  case round =>
    obtain ⟨rfl, rfl, rfl⟩ := hrel
    go_wp2
    go_ret
    exact ⟨rfl, rfl⟩
/-- All are empty then. -/
def ClearA (K : List Nat) (g : Nat) (ls : List (List Int)) (w : World) (r : Ending) (w' : World) : Prop :=
  ∃ K', r = .returned (.int .i64 (tot ls : Int)) ∧ (∀ q, q ∈ K' → q ∈ K) ∧ Bf w' K' g (List.replicate ls.length []) ∧ Gr K w w'
theorem Clear_any (h : Bf w K g ls) : Calls Try.prog 15 #[.pointer (some ⟨g, 0, none⟩)] w (ClearA K g ls w) := by
  have hok := h.ok
  have H := Lib.hid h
  obtain ⟨R, us, hb, _⟩ := h
  have HA := Lib.hid (all_any hb)
  obtain ⟨n, hn⟩ : ∃ n, n = ls.length := ⟨_, rfl⟩
  rw [← hn] at HA
  have h8 : n ≤ 8 := by rw [hn]; exact hok.1
  have HN := Lib.hid hn
  have OK := Lib.hid hok
  clear hb hn hok
  go_enter Try.func15, Try.ntmps15
  go_wp2_with (go_at_call 25; (with_reducible refine HA.out.mono ?_); rintro r w' ⟨rfl, hw⟩; subst hw)
  go_loopw [3, 8] (fun s i wr => ∃ (k : Nat) (K' : List Nat), k ≤ n ∧ i = .int .i64 k ∧ s = .int .i64 (tot (ls.take k) : Int) ∧ (∀ q, q ∈ K' → q ∈ K) ∧ Bf wr K' g (cl ls k) ∧ Gr K w wr) (fun _ i _ => n - (intOf i).toNat)
  case atStart => exact ⟨0, K, Nat.zero_le _, rfl, by simp [tot], fun _ h => h, by rw [cl_zero]; exact H.out, Gr.refl _ _⟩
  case round =>
    obtain ⟨k, K', hk, rfl, rfl, hK, hb, hg⟩ := hrel
    have HK := Lib.hid hK
    have HB := Lib.hid hb
    have HG := Lib.hid hg
    clear hK hb hg
    by_cases hlt : k < n
    · have hkl : k < ls.length := by rw [← HN.out]; exact hlt
      have HKL := Lib.hid hkl
      have TA := Lib.hid (Take_in HB.out k (by rw [cl_length (Nat.le_of_lt hkl)]; exact hkl))
      rw [cl_at, cl_set hkl] at TA
      have t1 := tot_le OK.out k (by omega)
      have l1 := OK.out.le k
      have T2 := Lib.hid (tot_more hkl)
      clear hkl
      generalize tot (ls.take k) = s at *
      generalize hl : ls.getD k [] = l at *
      obtain ⟨m, hm⟩ : ∃ m, m = l.length := ⟨_, rfl⟩
      rw [← hm] at T2 l1
      have HM := Lib.hid hm
      clear hl hm
      go_wp2_with (go_at_call 12; (with_reducible refine TA.out.mono ?_); rintro r w2 ⟨A, N, c, K2, rfl, hN, _, hK2, _, hb2, hg2⟩; obtain rfl : N = m := hN.trans HM.out.symm; have HB2 := Lib.hid hb2; have HK2 := Lib.hid hK2; have HG2 := Lib.hid hg2; clear hN hK2 hb2 hg2)
      go_roundw
      case rel => exact ⟨k + 1, K2, by omega, by go_num, by rw [T2.out]; go_num, fun q h => HK.out q (HK2.out q h), HB2.out, HG.out.trans (HG2.out.mono (fun q h => HK.out q (HK2.out q h)))⟩
      case measure => simp [intOf]; omega
    · obtain rfl : k = n := by omega
      go_wp2
      go_ret
      have hb := HB.out
      have hn := HN.out
      subst hn
      rw [cl_all] at hb
      exact ⟨K', by rw [tot_all (Nat.le_refl _)]; rfl, HK.out, hb, HG.out⟩
/-! ### slices.Clone, Clone -/
theorem eql_nil : ∀ (w : World) (a : Option Addr) (n c : Nat), (binOp .eql 32 (.slice a n c) (.slice none 0 0)).run Try.prog w = .ok (.bool a.isNone) w := fun w a n c => Lib.run_eql_slice_nil w _ _ a n c 0 0 Try.underlying32
theorem eql_nil2 : ∀ (w : World) (a : Option Addr) (n c : Nat), (binOp .eql 24 (.slice a n c) (.slice none 0 0)).run Try.prog w = .ok (.bool a.isNone) w := fun w a n c => Lib.run_eql_slice_nil w _ _ a n c 0 0 Try.underlying24
theorem sclone_any {v : Value} {l : List Int} (h : Li w v l) (hm : l.length ≤ 4194304) : Calls Try.prog 28 #[v] w (ListAns l w) := by
  obtain ⟨A, c, rfl⟩ := h.shape
  have Q := eql_nil
  have H := Lib.hid (h.rd rfl)
  obtain ⟨m, hm2⟩ : ∃ m, m = l.length := ⟨_, rfl⟩
  rw [← hm2] at H hm
  rw [← hm2]
  have HM := Lib.hid hm2
  clear h hm2
  rcases A with _ | A
  · obtain ⟨rfl, rfl⟩ := H.out.2.1 rfl
    have hl : l = [] := List.eq_nil_of_length_eq_zero HM.out.symm
    subst hl
    go_enter Try.func28, Try.ntmps28
    go_wp2
    go_ret
    exact ⟨none, 0, rfl, World.ownsRow_nil _ _ _ _, World.grownBy.refl _ _⟩
  · obtain ⟨i0, hi, hz0, hz1, hz2⟩ := info_parts info_int
    have E : Hid (i0.zero = some (.int .i64 0) ∧ i0.size = 1 ∧ i0.bytes = 8 ∧ Try.prog.info? 3 = some i0) := ⟨hz0, hz1, hz2, hi⟩
    clear hi hz0 hz1 hz2
    have O := Lib.hid (World.ownsRow_lit (base := w.heap.size) (e := 3) (size := 1) w #[] 0 (Nat.le_refl _) (by simp [maxLen]) rfl)
    have G := Lib.hid (World.grownBy_alloc w (.cells #[] 3) none)
    go_enter Try.func28, Try.ntmps28
    go_wp2_with (refine wpList_append_rd rfl (.tmp 5) (.tmp 6) 32 rfl w.heap.size 3 i0 (.int .i64 0) 8 Try.underlying32 E.out.2.2.2 E.out.1 E.out.2.1 E.out.2.2.1 rfl _ 0 [] rfl O.out (some A) m c w.heap.size l rfl (H.out.below (grown_below G.out)) (by unfold maxLen; omega) (by omega) (by simp) ?_; intro A3 c3 w2 own1 rd1 gr1; have OWN1 := Lib.hid own1; have GR1 := Lib.hid gr1; clear own1 gr1 rd1)
    go_ret
    have hl := HM.out
    subst hl
    refine ⟨A3, c3, rfl, ?_, ?_⟩
    · have := OWN1.out
      simpa [ints] using this
    · exact grown_new (r := w.heap.size) G.out GR1.out (Nat.le_refl _)
/-- A list that was cloned: its row is new. -/
def ClA (l : List Int) (w : World) (r : Ending) (w' : World) : Prop := ∃ A N c, r = .returned (.slice A N c) ∧ Li w' (.slice A N c) l ∧ (∀ b, (Value.slice A N c).ownBlock = some b → w.heap.size ≤ b) ∧ w.grownBy w' none
theorem sclone_from {v : Value} {l : List Int} {W : World} (h : Li w v l) (hm : l.length ≤ 4194304) (hg : w.grownBy W none) : Calls Try.prog 28 #[v] W (ClA l w) := by
  refine (sclone_any (h.new hg) hm).mono ?_
  rintro r w' ⟨A, c, rfl, ho, h2⟩
  exact ⟨A, l.length, c, rfl, own_mono ho (Nat.zero_le _), fun b e => Nat.le_trans hg.size (own_lt ho b e).1, hg.trans h2⟩
theorem Clone_nb (h : Nb w p) : Calls Try.prog 17 #[.pointer p] w fun r w' => r = .returned (.pointer none) ∧ w = w' := by
  have HA := Lib.hid (all_nb h)
  have Q := eql_nil2
  clear h
  go_enter Try.func17, Try.ntmps17
  go_wp2_with (go_at_call 25; (with_reducible refine HA.out.mono ?_); rintro r w' ⟨rfl, hw⟩; subst hw)
  go_ret
  exact ⟨rfl, rfl⟩
/-- The lists while they are cloned: the first k are there. -/
def cp (ls : List (List Int)) (k : Nat) : List (List Int) := ls.take k ++ List.replicate (ls.length - k) []
theorem cp_zero (ls : List (List Int)) : cp ls 0 = List.replicate ls.length [] := by simp [cp]
theorem cp_all (ls : List (List Int)) : cp ls ls.length = ls := by simp [cp]
theorem cp_length {ls : List (List Int)} {k : Nat} (h : k ≤ ls.length) : (cp ls k).length = ls.length := by simp [cp]; omega
theorem cp_set {ls : List (List Int)} {k : Nat} (h : k < ls.length) : (cp ls k).set k (ls.getD k []) = cp ls (k + 1) := by
  unfold cp
  rw [List.set_append_right _ _ (by simp; omega), List.length_take, Nat.min_eq_left (Nat.le_of_lt h), Nat.sub_self, take_more h, List.append_assoc]
  congr 1
  rw [show ls.length - k = ls.length - (k + 1) + 1 by omega, List.replicate_succ]
  rfl
theorem Clone_any (h : Bf w K g ls) : Calls Try.prog 17 #[.pointer (some ⟨g, 0, none⟩)] w (NewA ls w) := by
  obtain ⟨R, us, h, rfl⟩ := h
  have H := Lib.hid h
  have HA := Lib.hid (all_any h)
  obtain ⟨n, hn⟩ : ∃ n, n = ls.length := ⟨_, rfl⟩
  have c0 := h.c0
  rw [← hn] at HA c0
  have h8 : n ≤ 8 := by rw [hn]; exact h.ok.1
  have HN := Lib.hid hn
  have OK := Lib.hid h.ok
  have NW := Lib.hid (New_at n n (by unfold near; repeat' split
                                     all_goals omega) h8 w)
  have Q := eql_nil2
  clear h hn
  go_enter Try.func17, Try.ntmps17
  go_wp2_with (first
    | (go_at_call 25; (with_reducible refine HA.out.mono ?_); rintro r w' ⟨rfl, hw⟩; subst hw)
    | (go_at_call 8; (with_reducible refine NW.out.mono ?_); rintro r w2 ⟨rfl, hb2, hg2⟩; have B2 := Lib.hid hb2; have G2 := Lib.hid hg2; have c2 := hg2.cell c0 (by simp); clear hb2 hg2))
  go_loopw [20] (fun i wr => ∃ (k R' : Nat) (us' : List Value), k ≤ n ∧ i = .int .i64 k ∧ Bi wr (w.heap.size + 1) R' us' (cp ls k) ∧ (∀ q, q ∈ ks (w.heap.size + 1) R' us' → w.heap.size ≤ q) ∧ w.grownBy wr none) (fun i _ => n - (intOf i).toNat)
  case atStart => exact ⟨0, w.heap.size, List.replicate n nl, Nat.zero_le _, rfl, by rw [cp_zero, ← HN.out]; exact B2.out, ks_new, G2.out⟩
  case round =>
    obtain ⟨k, R', us', hk, rfl, hb, hK, hg⟩ := hrel
    have HB := Lib.hid hb
    have HK := Lib.hid hK
    have HG := Lib.hid hg
    by_cases hlt : k < n
    · have hkl : k < ls.length := by rw [← HN.out]; exact hlt
      have hcl := cp_length (Nat.le_of_lt hkl)
      have HW := H.out.new hg
      have d1 := HW.at_ hkl
      have SC := Lib.hid (fun W (hw : wr.grownBy W none) => sclone_from (HW.each k hkl) (by have := OK.out.le k; omega) hw)
      have e0 := hb.c0
      rw [hcl, ← HN.out] at e0
      have ER := Lib.hid (fun W (hw : wr.grownBy W none) => hb.far (k := k) (by rw [hcl]; exact hkl) (grown_any hw))
      rw [hcl, ← HN.out] at ER
      have PU := Lib.hid (fun W v (hl : Li W v (ls.getD k [])) (hw : wr.grownBy W none) (hv : ∀ b, v.ownBlock = some b → wr.heap.size ≤ b) => (⟨hb.put (by rw [hcl]; exact hkl) hl (grown_any hw) (fun b e => .inr (hv b e)) (OK.out.2 k), hb.put_ks (by rw [hcl]; exact hkl) (fun b e => .inr (hv b e))⟩ : Bi (W.setCell ⟨R', k, none⟩ v) (w.heap.size + 1) R' (us'.set k v) ((cp ls k).set k (ls.getD k [])) ∧ _))
      rw [cp_set hkl] at PU
      have RW := Lib.hid (show w.heap.size ≤ R' from hK R' (by simp [ks]))
      have glt := hb.g_lt
      have rlt := hb.R_lt
      have n1 : ¬ (w.heap.size + 1 = R') := hb.ne
      have n2 : ¬ (R' = w.heap.size + 1) := fun e => n1 e.symm
      obtain ⟨A, c, e⟩ := (H.out.each k hkl).shape
      rw [e] at d1 SC
      clear hb hK hg HW hcl hkl e
      generalize ls.getD k [] = l at *
      generalize l.length = m at *
      have k0 : (0 : Int) ≤ (k : Int) := by omega
      have k1 : (k : Int) < (n : Int) := by omega
      go_wp2
      go_region_held3 (fun W => W.cell? ⟨w.heap.size + 1, 0, none⟩ = some (.slice (some ⟨R', 0, none⟩) n n)) (first | exact f0 | go_keep) (first
        | (go_at_call 28; (with_reducible refine (SC.out _ (by first | exact World.grownBy.refl _ _ | exact grown_drew _ _ | exact li.grown_drewN _ _ _)).mono ?_); rintro r w3 ⟨A3, N3, c3, rfl, hl3, hv3, hg3⟩; have L3 := Lib.hid hl3; have V3 := Lib.hid hv3; have G3 := Lib.hid hg3; obtain ⟨f0, f1, f2⟩ := ER.out _ hg3; have rlt3 : R' < w3.heap.size := World.block_lt_of_cell? _ _ f1; clear hl3 hv3 hg3))
      go_wp2
      go_roundw
      case rel =>
        obtain ⟨p1, p2⟩ := PU.out w3 (.slice A3 N3 c3) L3.out G3.out V3.out
        exact ⟨k + 1, R', _, by omega, by go_num, p1, fun q h => (p2 q h).elim (HK.out q) (Nat.le_trans HG.out.size), li.grown_new (HG.out.trans G3.out) (grown_set _ _ _ _) RW.out⟩
      case measure => simp [intOf]; omega
    · obtain rfl : k = n := by omega
      go_wp2
      go_ret
      have hn := HN.out
      subst hn
      rw [cp_all] at hb
      exact ⟨_, _, rfl, ⟨R', us', hb, rfl⟩, hK, hg⟩
end
end Go.Proofs.Ytljahpjdkkennaa.bf
