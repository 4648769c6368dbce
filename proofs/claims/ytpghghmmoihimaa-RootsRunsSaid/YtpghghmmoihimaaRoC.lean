/- What layer 14's All, Refs, Clear and Clone do; the statement's own list of references. -/
import Derived.Test.YtpghghmmoihimaaRoB
import Derived.Laws.CopyOwn
namespace Go.Proofs.Ytpghghmmoihimaa.ro
open Go.ChangeShapes Go.WideShapes Go.ChangeAt Go.RowKit gen li va wd
set_option linter.unusedVariables false
set_option maxHeartbeats 4000000
set_option maxRecDepth 100000

/-- A number appended to a list of one's own. -/
theorem append_int {w : World} {ops : Array Oper} {rest : List Oper} {o : Oper} {a : Act} {Q : Exit → Act → World → Prop} (hgd : o.guard = none) (s x : Operand) (ho : o.op = .call { callee := .builtin .append, args := #[s, x], argTypes := #[43, 43] })
    (base : Nat) (v : Value) (xs : List Int) (hs : a.eval s = v) (hown : w.ownsRow base 3 1 v xs.length (ints xs)) (b : Nat) (z : Int) (hx : a.eval x = .slice (some ⟨b, 0, none⟩) 1 1)
    (hz : w.cell? ⟨b, 0, none⟩ = some (.int .i64 z)) (hm : xs.length ≤ 1048576) (hbase : base ≤ w.heap.size)
    (h : ∀ A' N' c' w', N' = (xs ++ [z]).length → w'.ownsRow base 3 1 (.slice A' N' c') (xs ++ [z]).length (ints (xs ++ [z])) → w.grownBy w' v.ownBlock → wpList Try.prog ops Q rest (a.put o.dst (.slice A' N' c')) w') : wpList Try.prog ops Q (o :: rest) a w := by
  obtain ⟨i0, hi, hz0, hz1, hz2⟩ := info_parts info_int
  refine wpList_append_rd hgd s x 43 ho base 3 i0 (.int .i64 0) 8 Try.underlying43 hi hz0 hz1 hz2 rfl v xs.length xs hs hown (some ⟨b, 0, none⟩) 1 1 w.heap.size [z] hx
    ⟨rfl, fun e => (by cases e), fun ad e i hi => ?_⟩ (by unfold maxLen; omega) (by omega) hbase (fun A' c' w' h1 h2 h3 => ?_)
  · injection e with e
    subst e
    obtain rfl : i = 0 := by omega
    exact ⟨World.block_lt_of_cell? _ _ hz, hz⟩
  · exact h A' (xs.length + 1) c' w' (by simp) (by rw [List.length_append]; exact h1) h3
theorem ints_shape {w : World} {base n : Nat} {v : Value} {xs : List Int} {t : TypeId} (h : w.ownsRow base t 1 v n (ints xs)) : ∃ A c, v = .slice A n c ∧ n ≤ c ∧ c ≤ maxLen := by
  rcases h.2 with ⟨rfl, rfl⟩ | ⟨g, cap, cur, rfl, _, _, h1, h2, _⟩
  · exact ⟨none, 0, rfl, Nat.le_refl _, by unfold maxLen; omega⟩
  · exact ⟨_, _, rfl, h1, h2⟩

/-! ### slices.Index, slices.Contains -/
theorem Index_any {w : World} {A : Option Addr} {n c B : Nat} {xs : List Int} (hs : n ≤ 4194304) (h : Rd w B A n c xs) (z : Int) :
    Calls Try.prog 27 #[.slice A n c, .int .i64 z] w fun e w' => ∃ r : Int, e = .returned (.int .i64 r) ∧ decide (0 ≤ r) = decide (z ∈ xs) ∧ w' = w := by
  have H := Lib.hid h
  clear h
  go_enter Try.func27, Try.ntmps27
  go_wp2
  go_loopw [8] (fun i wr => ∃ k : Nat, k ≤ n ∧ i = .int .i64 k ∧ z ∉ xs.take k ∧ wr = w) (fun i _ => n - (intOf i).toNat)
  case atStart => exact ⟨0, Nat.zero_le _, rfl, by simp, rfl⟩
  case round =>
    obtain ⟨k, hk, rfl, hz, hw⟩ := hrel
    subst hw
    have HZ := Lib.hid hz
    clear hz
    by_cases hlt : k < n
    · obtain ⟨b1, o1, rfl, g1⟩ := H.out.at_ hlt
      have HM := Lib.hid (li.getD_mem (xs := xs) (k := k) (by rw [H.out.1]; exact hlt) 0)
      have HT := Lib.hid (li.take_more (xs := xs) (k := k) (by rw [H.out.1]; exact hlt) 0)
      generalize xs.getD k 0 = x at g1 HM HT
      by_cases he : z = x
      · subst he
        go_wp2
        go_ret
        exact ⟨k, rfl, by rw [decide_eq_true HM.out]; simp, rfl⟩
      · have he1 : (z == x) = false := by simpa using he
        have HE := Lib.hid he
        clear he
        go_wp2
        go_roundw
        case rel => exact ⟨k + 1, by omega, by go_num, by rw [HT.out, List.mem_append]; exact fun h => h.elim HZ.out (fun h => HE.out (by simpa using h : z = x)), trivial⟩
        case measure => simp [intOf]; omega
    · obtain rfl : k = n := by omega
      go_wp2
      go_ret
      have hz := HZ.out
      rw [List.take_of_length_le (by rw [H.out.1]; omega)] at hz
      exact ⟨-1, rfl, by rw [decide_eq_false hz]; rfl, rfl⟩
theorem Contains_any {w : World} {A : Option Addr} {n c B : Nat} {xs : List Int} (hs : n ≤ 4194304) (h : Rd w B A n c xs) (z : Int) :
    Calls Try.prog 23 #[.slice A n c, .int .i64 z] w fun e w' => e = .returned (.bool (decide (z ∈ xs))) ∧ w' = w := by
  have H := Lib.hid (Index_any hs h z)
  clear h
  generalize decide (z ∈ xs) = b at *
  go_enter Try.func23, Try.ntmps23
  go_wp2_with (go_at_call 27; (with_reducible refine H.out.mono ?_); rintro e w' ⟨r, rfl, hr, rfl⟩; subst hr)
  all_goals
    go_ret
    exact ⟨by simp [*], rfl⟩

/-! ### Refs -/
def rfA (a : List Int) (x : Va) : List Int := if x.1 = 2 ∧ x.2 ∉ a then a ++ [x.2] else a
/-- The addresses of all references, each once. -/
def rf (m : List Va) : List Int := m.foldl rfA []
theorem rf_more {m : List Va} {k : Nat} (h : k < m.length) : rf (m.take (k + 1)) = rfA (rf (m.take k)) (m.getD k (0, 0)) := by
  rw [va.take_more h]
  unfold rf
  rw [List.foldl_append]
  rfl
theorem rf_fold_length : ∀ (m : List Va) (a : List Int), (m.foldl rfA a).length ≤ a.length + m.length
  | [], a => by simp
  | x :: m, a => by
    have h1 := rf_fold_length m (rfA a x)
    have h2 : (rfA a x).length ≤ a.length + 1 := by unfold rfA; split <;> simp
    rw [List.foldl_cons, List.length_cons]
    omega
theorem rf_length (m : List Va) : (rf m).length ≤ m.length := by
  have := rf_fold_length m []
  simpa [rf] using this
theorem rfA_no1 {a : List Int} {x : Va} (h : x.1 ≠ 2) : rfA a x = a := by unfold rfA; rw [if_neg (fun e => h e.1)]
theorem rfA_no2 {a : List Int} {x : Va} (h : x.2 ∈ a) : rfA a x = a := by unfold rfA; rw [if_neg (fun e => e.2 h)]
theorem rfA_yes {a : List Int} {x : Va} (h : x.1 = 2) (h2 : x.2 ∉ a) : rfA a x = a ++ [x.2] := by unfold rfA; rw [if_pos ⟨h, h2⟩]
section
variable {w w' : World} {g : Nat} {m : List Va}
theorem Refs_any (h : Rt w g m) : Calls Try.prog 17 #[.pointer (some ⟨g, 0, none⟩)] w (ListAns (rf m) w) := by
  have HH := Lib.hid (held_any h)
  have l16 := h.2
  have H := Lib.hid h
  obtain ⟨n, hn⟩ : ∃ n, m.length = n := ⟨_, rfl⟩
  have HN := Lib.hid hn
  rw [hn] at HH l16
  clear h hn
  go_enter Try.func17, Try.ntmps17
  go_wp2_with (go_at_call 21; (with_reducible refine HH.out.mono ?_); rintro e w' ⟨rfl, q, rfl⟩)
  go_loopw [3, 10] (fun v i wr => ∃ (k N : Nat) (A' : Option Addr) (c' : Nat), k ≤ n ∧ i = .int .i64 k ∧ v = .slice A' N c' ∧ N = (rf (m.take k)).length ∧ wr.ownsRow w.heap.size 3 1 (.slice A' N c') (rf (m.take k)).length (ints (rf (m.take k))) ∧ w.grownBy wr none) (fun _ i _ => n - (intOf i).toNat)
  case atStart => exact ⟨0, 0, none, 0, Nat.zero_le _, rfl, rfl, rfl, World.ownsRow_nil _ _ _ _, li.grown_drewN _ _ _⟩
  case round =>
    obtain ⟨k, N, A', c', hk, rfl, rfl, hm, ho, hg⟩ := hrel
    have HM := Lib.hid hm
    have HO := Lib.hid ho
    have HG := Lib.hid hg
    have R := Lib.hid (H.out.new hg)
    have LT := R.out.lt
    clear hm ho hg
    by_cases hlt : k < n
    · have hk' : k < m.length := by rw [HN.out]; exact hlt
      obtain ⟨e0, e1⟩ := R.out.at_ hk'
      have HF := Lib.hid (rf_more hk')
      have HL := Lib.hid (show N ≤ 16 by rw [HM.out]; exact Nat.le_trans (rf_length _) (by rw [List.length_take, HN.out]; omega))
      clear hk'
      generalize m.getD k (0, 0) = x at e0 e1 HF
      obtain ⟨x1, x2⟩ := x
      dsimp only at e0 e1
      by_cases h1 : x1 = 2
      · have t1 : (x1 == 2) = true := by simpa using h1
        by_cases h2 : x2 ∈ rf (m.take k)
        · have t2 : decide (x2 ∈ rf (m.take k)) = true := decide_eq_true h2
          have FF := Lib.hid (show rf (m.take (k + 1)) = rf (m.take k) by rw [HF.out, rfA_no2 h2])
          clear h1 h2
          go_wp2_with (go_at_call 23; (with_reducible refine (Contains_any (xs := rf (m.take k)) (by have := HL.out; omega) (rd_own (by have := HO.out.alloc (.cells #[.int .i64 x1, .int .i64 x2] 29); rwa [← HM.out] at this)) _).mono ?_); rintro e w' ⟨rfl, rfl⟩)
          go_roundw
          case rel => exact ⟨k + 1, N, A', c', by omega, by go_num, rfl, by rw [FF.out]; exact HM.out, by rw [FF.out]; exact HO.out.alloc _, HG.out.trans (World.grownBy_alloc _ _ _)⟩
          case measure => simp [intOf]; omega
        · have t2 : decide (x2 ∈ rf (m.take k)) = false := decide_eq_false h2
          have FF := Lib.hid (show rf (m.take (k + 1)) = rf (m.take k) ++ [x2] by rw [HF.out, rfA_yes h1 h2])
          have HS := Lib.hid (HG.out.size)
          clear h1 h2
          go_wp2_with (first
            | (go_at_call 23; (with_reducible refine (Contains_any (xs := rf (m.take k)) (by have := HL.out; omega) (rd_own (by have := HO.out.alloc (.cells #[.int .i64 x1, .int .i64 x2] 29); rwa [← HM.out] at this)) _).mono ?_); rintro e w' ⟨rfl, rfl⟩)
            | (refine append_int rfl (.tmp 25) (.tmp 27) rfl w.heap.size (.slice A' N c') (rf (m.take k)) rfl ((HO.out.alloc _).alloc _) _ x2 rfl (by go_simp) (by have := HL.out; have := HM.out; omega) (by have := HS.out; simp; omega) ?_; intro A3 N3 c3 w2 hn3 own1 gr1; have HN3 := Lib.hid hn3; have OWN1 := Lib.hid own1; have GR1 := Lib.hid gr1; clear hn3 own1 gr1))
          go_roundw
          case rel => exact ⟨k + 1, N3, A3, c3, by omega, by go_num, rfl, by rw [FF.out]; exact HN3.out, by rw [FF.out]; exact OWN1.out, grown_own ((HG.out.trans (World.grownBy_alloc _ _ _)).trans (World.grownBy_alloc _ _ _)) ((HO.out.alloc _).alloc _) GR1.out (Nat.le_refl _)⟩
          case measure => simp [intOf]; omega
      · have t1 : (x1 == 2) = false := by simpa using h1
        have FF := Lib.hid (show rf (m.take (k + 1)) = rf (m.take k) by rw [HF.out, rfA_no1 h1])
        clear h1
        go_wp2
        go_roundw
        case rel => exact ⟨k + 1, N, A', c', by omega, by go_num, rfl, by rw [FF.out]; exact HM.out, by rw [FF.out]; exact HO.out.alloc _, HG.out.trans (World.grownBy_alloc _ _ _)⟩
        case measure => simp [intOf]; omega
    · obtain rfl : k = n := by omega
      go_wp2
      go_ret
      have hm := HM.out
      have ho := HO.out
      rw [List.take_of_length_le (by rw [HN.out]; omega)] at hm ho
      subst hm
      exact ⟨A', c', rfl, ho, HG.out⟩
theorem Refs_nil (w : World) : Calls Try.prog 17 #[.pointer none] w fun e w' => e = .returned (.slice none 0 0) ∧ w = w' := by
  go_enter Try.func17, Try.ntmps17
  go_wp2_with (go_at_call 21; (with_reducible refine (held_nil _).mono ?_); rintro e w' ⟨rfl, rfl⟩)
  go_loopw [3, 10] (fun v i wr => v = .slice none 0 0 ∧ i = .int .i64 0 ∧ wr = w) (fun _ i _ => 0)
  case atStart => exact ⟨rfl, rfl, rfl⟩
  case round =>
    obtain ⟨rfl, rfl, rfl⟩ := hrel
    go_wp2
    go_ret
    exact ⟨rfl, rfl⟩
theorem refs_any {A : Option Addr} {n c B : Nat} (hs : n ≤ 4096) (h : Rv w B A n c m) : Calls Try.prog 20 #[.slice A n c] w (ListAns (rf m) w) := by
  have H := Lib.hid h
  have HN := Lib.hid h.1
  clear h
  go_enter Try.func20, Try.ntmps20
  go_wp2
  go_loopw [3, 4] (fun v i wr => ∃ (k N : Nat) (A' : Option Addr) (c' : Nat), k ≤ n ∧ i = .int .i64 k ∧ v = .slice A' N c' ∧ N = (rf (m.take k)).length ∧ wr.ownsRow w.heap.size 3 1 (.slice A' N c') (rf (m.take k)).length (ints (rf (m.take k))) ∧ w.grownBy wr none) (fun _ i _ => n - (intOf i).toNat)
  case atStart => exact ⟨0, 0, none, 0, Nat.zero_le _, rfl, rfl, rfl, World.ownsRow_nil _ _ _ _, World.grownBy.refl _ _⟩
  case round =>
    obtain ⟨k, N, A', c', hk, rfl, rfl, hm, ho, hg⟩ := hrel
    have HM := Lib.hid hm
    have HO := Lib.hid ho
    have HG := Lib.hid hg
    have R := Lib.hid (H.out.made hg)
    clear hm ho hg
    by_cases hlt : k < n
    · have hk' : k < m.length := by rw [HN.out]; exact hlt
      obtain ⟨b, o, rfl, e0, e1⟩ := R.out.at_ hlt
      have HF := Lib.hid (rf_more hk')
      have HL := Lib.hid (show N ≤ 4096 by rw [HM.out]; exact Nat.le_trans (rf_length _) (by rw [List.length_take, HN.out]; omega))
      have LT := World.block_lt_of_cell? _ _ e0
      have l1 : (0 : Int) ≤ (k : Int) := by omega
      have l2 : (k : Int) < n := by omega
      clear hk'
      generalize m.getD k (0, 0) = x at e0 e1 HF
      obtain ⟨x1, x2⟩ := x
      dsimp only at e0 e1 LT
      by_cases h1 : x1 = 2
      · have t1 : (x1 == 2) = true := by simpa using h1
        by_cases h2 : x2 ∈ rf (m.take k)
        · have t2 : decide (x2 ∈ rf (m.take k)) = true := decide_eq_true h2
          have FF := Lib.hid (show rf (m.take (k + 1)) = rf (m.take k) by rw [HF.out, rfA_no2 h2])
          clear h1 h2
          go_wp2_with (go_at_call 25; (with_reducible refine (In_any (xs := rf (m.take k)) (by have := HL.out; omega) (rd_own (by have := HO.out; rwa [← HM.out] at this)) _).mono ?_); rintro e w' ⟨rfl, rfl⟩)
          go_roundw
          case rel => exact ⟨k + 1, N, A', c', by omega, by go_num, rfl, by rw [FF.out]; exact HM.out, by rw [FF.out]; exact HO.out, HG.out⟩
          case measure => simp [intOf]; omega
        · have t2 : decide (x2 ∈ rf (m.take k)) = false := decide_eq_false h2
          have FF := Lib.hid (show rf (m.take (k + 1)) = rf (m.take k) ++ [x2] by rw [HF.out, rfA_yes h1 h2])
          have HS := Lib.hid (HG.out.size)
          clear h1 h2
          go_wp2_with (first
            | (go_at_call 25; (with_reducible refine (In_any (xs := rf (m.take k)) (by have := HL.out; omega) (rd_own (by have := HO.out; rwa [← HM.out] at this)) _).mono ?_); rintro e w' ⟨rfl, rfl⟩)
            | (refine append_int rfl (.tmp 27) (.tmp 33) rfl w.heap.size (.slice A' N c') (rf (m.take k)) rfl (HO.out.alloc _) _ x2 rfl (by go_simp) (by have := HL.out; have := HM.out; omega) (by have := HS.out; simp; omega) ?_; intro A3 N3 c3 w2 hn3 own1 gr1; have HN3 := Lib.hid hn3; have OWN1 := Lib.hid own1; have GR1 := Lib.hid gr1; clear hn3 own1 gr1))
          go_roundw
          case rel => exact ⟨k + 1, N3, A3, c3, by omega, by go_num, rfl, by rw [FF.out]; exact HN3.out, by rw [FF.out]; exact OWN1.out, grown_own (HG.out.trans (World.grownBy_alloc _ _ _)) (HO.out.alloc _) GR1.out (Nat.le_refl _)⟩
          case measure => simp [intOf]; omega
      · have t1 : (x1 == 2) = false := by simpa using h1
        have FF := Lib.hid (show rf (m.take (k + 1)) = rf (m.take k) by rw [HF.out, rfA_no1 h1])
        clear h1
        go_wp2
        go_roundw
        case rel => exact ⟨k + 1, N, A', c', by omega, by go_num, rfl, by rw [FF.out]; exact HM.out, by rw [FF.out]; exact HO.out, HG.out⟩
        case measure => simp [intOf]; omega
    · obtain rfl : k = n := by omega
      go_wp2
      go_ret
      have hm := HM.out
      have ho := HO.out
      rw [List.take_of_length_le (by rw [HN.out]; omega)] at hm ho
      subst hm
      exact ⟨A', c', rfl, ho, HG.out⟩

/-! ### Clear, Clone -/
theorem info_roots : (Try.prog.info? 32).map (·.size) = some 33 := by kernel_rfl
theorem Clear_nil (w : World) : Calls Try.prog 11 #[.pointer none] w fun e w' => e = .returned (.tuple #[]) ∧ w = w' := by
  go_enter Try.func11, Try.ntmps11
  go_wp2
  go_end0
  exact ⟨rfl, rfl⟩
theorem rc_size (h : m.length ≤ 16) : (rc m).toArray.size = 33 := by rw [List.size_toArray]; exact rc_length h
theorem rc_one (m : List Va) : (rc m).toArray.all (·.oneCell') = true := by
  rw [Array.all_eq_true_iff_forall_mem]
  intro v hv
  simp only [List.mem_toArray, rc, List.mem_cons, List.mem_append] at hv
  rcases hv with rfl | hv | hv
  · rfl
  · exact vc_one m v hv
  · rw [List.eq_of_mem_replicate hv]; rfl
theorem Clear_any (h : Rt w g m) : Calls Try.prog 11 #[.pointer (some ⟨g, 0, none⟩)] w fun e w' => e = .returned (.tuple #[]) ∧ Rt w' g [] ∧ w.grownBy w' (some g) := by
  have H := Lib.hid h
  clear h
  go_enter Try.func11, Try.ntmps11
  go_wp2_with (refine wpList_store_row rfl 32 (.tmp 6) (.tmp 5) rfl g (rc []).toArray rfl (by kernel_rfl) 32 _ H.out.1 (by rw [rc_size (by simp)]; exact info_roots) (by rw [rc_size H.out.2, rc_size (by simp)]) (rc_one _) ?_)
  go_end0
  refine ⟨rfl, ⟨setRow_heap w g _ _ _ _ H.out.1, by simp⟩, ⟨rfl, rfl, rfl, by simp [World.setRow], fun k _ hk => setRow_other w g k _ (fun e => hk (by simp [e]))⟩⟩
theorem Clone_nil (w : World) : Calls Try.prog 9 #[.pointer none] w fun e w' => e = .returned (.pointer none) ∧ w = w' := by
  go_enter Try.func9, Try.ntmps9
  go_wp2
  go_ret
  exact ⟨rfl, rfl⟩
/-- Roots that were made. -/
def NewAns (m : List Va) (w : World) (e : Ending) (w' : World) : Prop := ∃ g, e = .returned (.pointer (some ⟨g, 0, none⟩)) ∧ Rt w' g m ∧ w.heap.size ≤ g ∧ w.grownBy w' none
theorem Clone_any (h : Rt w g m) : Calls Try.prog 9 #[.pointer (some ⟨g, 0, none⟩)] w (NewAns m w) := by
  have H := Lib.hid h
  have S := Lib.hid (rc_size h.2)
  have O := Lib.hid (rc_one m)
  have H1 := Lib.hid h.1
  clear h
  generalize (rc m).toArray = cs at S O H1
  go_enter Try.func9, Try.ntmps9
  go_wp2_with (first
    | (refine wpList_load_row rfl 32 (.tmp 7) rfl g rfl 32 cs (0, 0) _ H1.out Try.underlying32 rfl (by rw [S.out]; exact info_roots) ?_)
    | (refine wpList_store_row rfl 32 (.tmp 3) (.tmp 8) rfl w.heap.size cs rfl rfl _ _ (heap_alloc_new _ _) (by rw [S.out]; exact info_roots) (by rw [S.out]; rfl) O.out ?_))
  go_ret
  refine ⟨w.heap.size, rfl, ⟨?_, H.out.2⟩, Nat.le_refl _, ?_⟩
  · have := H.out.1.symm.trans H1.out
    injection this with this
    injection this with this
    rw [this]
    exact setRow_heap _ _ _ _ _ _ (heap_alloc_new _ _)
  · exact ⟨rfl, rfl, rfl, by simp [World.setRow], fun k hk _ => (setRow_other _ _ k _ (by omega)).trans (heap_alloc_old w _ hk)⟩
end
end Go.Proofs.Ytpghghmmoihimaa.ro
