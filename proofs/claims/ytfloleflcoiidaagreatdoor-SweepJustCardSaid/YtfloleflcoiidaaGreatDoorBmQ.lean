/- Joined: BmL, BmE, BmF, BmG, BmT. -/
import Derived.Test.YtfloleflcoiidaaGreatDoorBmX
import Derived.Test.YtfloleflcoiidaaGreatDoorGnQ
import Derived.Laws.AppendOwnNone
import Derived.Deep.RegionHeld3
import Derived.Deep.RegionHeldLaw
import Derived.Deep.RegionLaw
import Derived.Deep.RegionWith
import Derived.Deep.DeepCutAuto
import Derived.Lib.LaidTab
/- Lists of numbers in memory: those of the call's own, and what the law's own small functions do with them. -/
namespace Go.Proofs.YtfloleflcoiidaaGreatDoor.bm
open Go.ChangeShapes Go.WideShapes Go.ChangeAt Go.RowKit gen
set_option linter.unusedVariables false

def ints (xs : List Int) : List Value := xs.map (Value.int .i64)
theorem ints_length (xs : List Int) : (ints xs).length = xs.length := by simp [ints]
/-- A list of the call's own: nil, or a row that is not r. -/
def Lst (w : World) (r : Nat) (v : Value) (xs : List Int) : Prop := w.ownsRow 0 3 1 v xs.length (ints xs) ∧ v.ownBlock ≠ some r
theorem Lst.kept {w w' : World} {r : Nat} {v : Value} {xs : List Int} {row : Option Nat} (h : Lst w r v xs) (hg : w.grownBy w' row) (hr : v.ownBlock = none ∨ v.ownBlock ≠ row) : Lst w' r v xs :=
  ⟨h.1.kept hg hr, h.2⟩
theorem Lst.grown {w w' : World} {r : Nat} {v : Value} {xs : List Int} (h : Lst w r v xs) (hg : w.grownBy w' (some r)) : Lst w' r v xs := h.kept hg (.inr h.2)
theorem Lst.made {w w' : World} {r : Nat} {v : Value} {xs : List Int} (h : Lst w r v xs) (hg : w.grownBy w' none) : Lst w' r v xs := h.kept hg (by cases v.ownBlock <;> simp)
theorem Lst.rd {w : World} {r : Nat} {v : Value} {xs : List Int} (h : Lst w r v xs) : ∃ A c, v = .slice A xs.length c ∧ Rd w w.heap.size A xs.length c xs := Rd.of_own h.1
theorem Lst.drewN {w : World} {r : Nat} {v : Value} {xs : List Int} (h : Lst w r v xs) (n : Nat) : Lst (w.drewN n) r v xs := h
theorem Lst.rd' {w : World} {r m c : Nat} {A : Option Addr} {xs : List Int} (h : Lst w r (.slice A m c) xs) (hm : xs.length = m) : Rd w w.heap.size A m c xs := by
  subst hm
  obtain ⟨A', c', e, hr⟩ := h.rd
  injection e with h1 h2 h3
  subst h1 h3
  exact hr
theorem Lst.nil (w : World) (r : Nat) : Lst w r (.slice none 0 0) [] := ⟨World.ownsRow_nil _ _ _ _, by simp [Value.ownBlock]⟩
theorem own_lst {w : World} {r base m : Nat} {v : Value} {ys : List Int} (h : w.ownsRow base 3 1 v m (ys.map (Value.int .i64))) (hn : ys.length = m) (hr : r < base) : Lst w r v ys := by
  subst hn
  refine ⟨⟨h.1, ?_⟩, fun e => ?_⟩
  · rcases h.2 with h2 | ⟨g, cap, cur, h1, h2, h3⟩
    · exact .inl h2
    · exact .inr ⟨g, cap, cur, h1, Nat.zero_le _, h3⟩
  · have := own_base h _ e
    omega
theorem rd_own {w : World} {base n c : Nat} {A : Option Addr} {xs : List Int} (h : w.ownsRow base 3 1 (.slice A n c) n (ints xs)) : Rd w w.heap.size A n c xs := by
  obtain ⟨A', c', e, hr⟩ := Rd.of_own h
  injection e with h1 h2 h3
  subst h1 h3
  exact hr
theorem grown_below {a w : World} (h : a.grownBy w none) : Below a.heap.size a w := ⟨h.os, h.tape, h.output, h.size, fun k hk => h.block k hk (by simp)⟩
/-- A row that was made on the way counts as new. -/
theorem grown_new {a b c : World} {r : Nat} (h : a.grownBy b none) (k : b.grownBy c (some r)) (hr : a.heap.size ≤ r) : a.grownBy c none :=
  h.andThen k (fun j hj => .inl (by cases hj; exact hr))
theorem grown_then {a b c : World} {row : Option Nat} (h : a.grownBy b none) (k : b.grownBy c row) : a.grownBy c row :=
  ⟨k.os.trans h.os, k.tape.trans h.tape, k.output.trans h.output, Nat.le_trans h.size k.size, fun i hi hne => (k.block i (Nat.lt_of_lt_of_le hi h.size) hne).trans (h.block i hi (by simp))⟩
theorem grown_more {a b c : World} {row : Option Nat} (h : a.grownBy b row) (k : b.grownBy c none) : a.grownBy c row :=
  ⟨k.os.trans h.os, k.tape.trans h.tape, k.output.trans h.output, Nat.le_trans h.size k.size, fun i hi hne => (k.block i (Nat.lt_of_lt_of_le hi h.size) (by simp)).trans (h.block i hi hne)⟩
/-- What is appended to the call's own row leaves all else. -/
theorem grown_own {a b c : World} {base n : Nat} {v : Value} {xs : List Value} {t : TypeId} (h : a.grownBy b none) (ho : b.ownsRow base t 1 v n xs) (k : b.grownBy c v.ownBlock) (hr : a.heap.size ≤ base) : a.grownBy c none :=
  h.andThen k (fun j hj => .inl (Nat.le_trans hr (own_base ho j hj)))
/-- A list that was made. -/
def ListAns (xs : List Int) (w : World) (e : Ending) (w' : World) : Prop := ∃ A c, e = .returned (.slice A xs.length c) ∧ w'.ownsRow w.heap.size 3 1 (.slice A xs.length c) xs.length (ints xs) ∧ w.grownBy w' none
theorem info_int : (Tryz.prog.info? 3).map (fun i => (i.zero, i.size, i.bytes)) = some (some (.int .i64 0), 1, 8) := by kernel_rfl
theorem Rd.one (w : World) (x : Int) (t : TypeId) : Rd (w.alloc (.cells #[.int .i64 x] t)) (w.alloc (.cells #[.int .i64 x] t)).heap.size (some ⟨w.heap.size, 0, none⟩) 1 1 [x] := by
  refine ⟨rfl, fun e => (by cases e), fun ad e i hi => ?_⟩
  injection e with e
  subst e
  obtain rfl : i = 0 := by omega
  exact ⟨by simp, by simp [go_sem]⟩
theorem getD_mem {xs : List Int} {k : Nat} (h : k < xs.length) (d : Int) : xs.getD k d ∈ xs := by
  rw [List.getD_eq_getElem?_getD, List.getElem?_eq_getElem h]
  exact List.getElem_mem h
theorem take_more {xs : List Int} {k : Nat} (h : k < xs.length) (d : Int) : xs.take (k + 1) = xs.take k ++ [xs.getD k d] := by
  rw [List.take_succ_eq_append_getElem h, List.getD_eq_getElem?_getD, List.getElem?_eq_getElem h]
  rfl

/-! ### The law's own functions that read -/
theorem Ints_true (xs : List Int) (A B : Option Addr) (n m c d b b2 : Nat) (w : World) (hs : n ≤ 4194304) (hnm : n = m) (r1 : Rd w b A n c xs) (r2 : Rd w b2 B m d xs) :
    Calls Tryz.prog 15 #[.slice A n c, .slice B m d] w fun e w' => e = .returned (.bool true) ∧ Drew w w' := by
  subst hnm
  have R1 := Lib.hid r1
  have R2 := Lib.hid r2
  clear r1 r2
  go_enter Tryz.func15, Tryz.ntmps15
  go_wp2
  go_loopw [5] (fun i wr => ∃ k j : Nat, k ≤ n ∧ i = .int .i64 k ∧ wr = w.drewN j) (fun i _ => n - (intOf i).toNat)
  case atStart => exact ⟨0, 0, Nat.zero_le _, rfl, rfl⟩
  case round =>
    obtain ⟨k, j, hk, rfl, rfl⟩ := hrel
    by_cases hlt : k < n
    · obtain ⟨b1, o1, rfl, g1⟩ := R1.out.at_ hlt
      obtain ⟨b2, o2, rfl, g2⟩ := R2.out.at_ hlt
      generalize xs.getD k 0 = x at g1 g2
      have l1 : (0 : Int) ≤ (k : Int) := by omega
      have l2 : (k : Int) < n := by omega
      go_wp2
      go_quiet (fail)
      go_wp2
      go_roundw
      case rel => exact ⟨k + 1, _, by omega, by go_num, rfl⟩
      case measure => simp [intOf]; omega
    · go_wp2
      go_ret
      exact ⟨rfl, _, rfl⟩
theorem find_take {xs : List Int} {z : Int} {k : Nat} (hk : k < xs.length) (h : ∀ x ∈ xs.take k, ¬ z ≤ x) (hx : z ≤ xs.getD k 0) : nextOf xs z = xs.getD k 0 := by
  unfold nextOf
  conv => lhs; rw [← List.take_append_drop k xs]
  rw [List.find?_append, List.find?_eq_none.2 (fun x hx => by simpa using h x hx), List.drop_eq_getElem_cons hk]
  have e : xs.getD k 0 = xs[k] := by simp [hk]
  rw [e] at hx ⊢
  rw [List.find?_cons_of_pos (by simpa using hx)]
  rfl
end Go.Proofs.YtfloleflcoiidaaGreatDoor.bm

/- Lists that are made: without, Rising; All of a set; New, Clone. -/
namespace Go.Proofs.YtfloleflcoiidaaGreatDoor.bm
open Go.ChangeShapes Go.WideShapes Go.ChangeAt Go.RowKit gen
set_option linter.unusedVariables false

theorem filter_more {xs : List Int} {k : Nat} (hk : k < xs.length) (p : Int → Bool) : (xs.take (k + 1)).filter p = (xs.take k).filter p ++ if p (xs.getD k 0) then [xs.getD k 0] else [] := by
  rw [take_more hk 0, List.filter_append, List.filter_cons, List.filter_nil]
theorem grown_one {w wr w2 : World} {base n : Nat} {v : Value} {xs : List Value} {t : TypeId} {o : Obj} (hg : w.grownBy wr none) (ho : wr.ownsRow base t 1 v n xs) (hb : w.heap.size ≤ base) (h : (wr.alloc o).grownBy w2 v.ownBlock) : w.grownBy w2 none :=
  grown_own (hg.trans (World.grownBy_alloc wr o none)) (ho.alloc _) h hb
theorem rising_more {xs : List Int} {k : Nat} (hk : k < xs.length) : rising (xs.take (k + 1)) = ins (rising (xs.take k)) (xs.getD k 0) := by
  rw [take_more hk 0]
  unfold rising
  rw [List.foldl_append]
  rfl
theorem fold_length : ∀ (l out : List Int), (l.foldl ins out).length ≤ out.length + l.length
  | [], _ => by simp
  | x :: l, out => by
    have h1 := fold_length l (ins out x)
    have h2 := ins_length out x
    rw [List.foldl_cons, List.length_cons]
    omega
theorem rising_length (l : List Int) : (rising l).length ≤ l.length := by
  have := fold_length l []
  simpa [rising] using this
/-- The numbers ahead of the place at which one is put in. -/
theorem take_stop : ∀ {out : List Int} {x : Int} {a : Nat}, a ≤ out.length → (∀ y ∈ out.take a, y < x) → (a < out.length → ¬ out.getD a 0 < x) →
    out.takeWhile (fun y => decide (y < x)) = out.take a ∧ out.dropWhile (fun y => decide (y < x)) = out.drop a
  | [], x, a, ha, _, _ => by simp
  | y :: out, x, 0, ha, h1, h2 => by
    have : ¬ y < x := h2 (by simp)
    rw [List.takeWhile_cons_of_neg (by simpa using this), List.dropWhile_cons_of_neg (by simpa using this)]
    exact ⟨rfl, rfl⟩
  | y :: out, x, a + 1, ha, h1, h2 => by
    have hy : y < x := h1 y (by simp)
    rw [List.takeWhile_cons_of_pos (by simpa using hy), List.dropWhile_cons_of_pos (by simpa using hy)]
    obtain ⟨e1, e2⟩ := take_stop (out := out) (x := x) (a := a) (by simpa using ha) (fun z hz => h1 z (by rw [List.take_succ_cons]; exact List.mem_cons_of_mem _ hz)) (fun h => by have := h2 (by simpa using h); simpa using this)
    rw [e1, e2]
    exact ⟨rfl, rfl⟩
theorem ins_at {out : List Int} {x : Int} {a : Nat} (hx : x ∉ out) (ha : a ≤ out.length) (h1 : ∀ y ∈ out.take a, y < x) (h2 : a < out.length → ¬ out.getD a 0 < x) : ins out x = out.take a ++ x :: out.drop a := by
  obtain ⟨e1, e2⟩ := take_stop ha h1 h2
  unfold ins
  rw [if_neg hx, e1, e2]
theorem own_or {w : World} {base n c : Nat} {A : Option Addr} {t : TypeId} {xs : List Value} (h : w.ownsRow base t 1 (.slice A n c) n xs) : (A = none ∧ n = 0 ∧ c = 0) ∨ ∃ g, A = some ⟨g, 0, none⟩ ∧ n ≤ c ∧ c ≤ maxLen := by
  rcases h.2 with ⟨e, _⟩ | ⟨g, cap, cur, e, _, _, h1, h2, _⟩
  · injection e with e1 e2 e3
    exact .inl ⟨e1, e2, e3⟩
  · injection e with e1 e2 e3
    exact .inr ⟨g, e1, by omega, by omega⟩
theorem own_mono {w : World} {base base' n : Nat} {t : TypeId} {v : Value} {xs : List Value} (h : w.ownsRow base t 1 v n xs) (hb : base' ≤ base) : w.ownsRow base' t 1 v n xs := by
  refine ⟨h.1, ?_⟩
  rcases h.2 with h2 | ⟨g, cap, cur, h1, h2, h3⟩
  · exact .inl h2
  · exact .inr ⟨g, cap, cur, h1, Nat.le_trans hb h2, h3⟩
theorem Rd.take {w : World} {B n c a c' : Nat} {A : Option Addr} {xs : List Int} (h : Rd w B A n c xs) (ha : a ≤ n) (hc : A = none → c' = 0) : Rd w B A a c' (xs.take a) := by
  refine ⟨by rw [List.length_take, h.1]; omega, fun e => ⟨by have := (h.2.1 e).1; omega, hc e⟩, fun ad e i hi => ?_⟩
  have := h.2.2 ad e i (by omega)
  refine ⟨this.1, ?_⟩
  rw [this.2]
  simp [List.getD_eq_getElem?_getD, hi]
theorem Rd.drop {w : World} {B n c a m c' g : Nat} {A : Option Addr} {xs : List Int} (h : Rd w B (some ⟨g, 0, none⟩) n c xs) (ha : a + m = n) (hA : 0 < m → A = some ⟨g, a, none⟩) (hn : A = none → c' = 0) : Rd w B A m c' (xs.drop a) := by
  refine ⟨by rw [List.length_drop, h.1]; omega, fun e => ⟨?_, hn e⟩, fun ad e i hi => ?_⟩
  · rcases Nat.eq_zero_or_pos m with h0 | h0
    · exact h0
    · rw [hA h0] at e; cases e
  · have h0 := hA (by omega)
    rw [h0] at e
    injection e with e
    subst e
    have := h.2.2 _ rfl (a + i) (by omega)
    rw [Addr.add_lit, Nat.zero_add] at this
    rw [Addr.add_lit]
    refine ⟨this.1, ?_⟩
    rw [this.2]
    simp [List.getD_eq_getElem?_getD]
theorem Rd.none_of {w : World} {B n c a m c' : Nat} {A A' : Option Addr} {xs : List Int} (h : Rd w B A' n c xs) (ha : a + m = a) (hn : A = none → c' = 0) (hx : a = n := by rfl) : Rd w B A m c' (xs.drop a) := by
  obtain rfl : m = 0 := by omega
  subst hx
  refine ⟨by rw [List.length_drop, h.1]; omega, fun e => ⟨rfl, hn e⟩, fun ad e i hi => by omega⟩
end Go.Proofs.YtfloleflcoiidaaGreatDoor.bm

/- New, Clone and All of a set. -/
namespace Go.Proofs.YtfloleflcoiidaaGreatDoor.bm
open Go.ChangeShapes Go.WideShapes Go.ChangeAt Go.RowKit gen
set_option linter.unusedVariables false

/-- The nearest number that may be. -/
def near (n a b : Int) : Int := if n < a then a else if b < n then b else n
theorem ret_int {a b : Int} (h : a = b) : Ending.returned (.int .i64 a) = .returned (.int .i64 b) := by rw [h]
theorem Clamp_any (n a b : Int) (w : World) : Calls Tryz.prog 45 #[.int .i64 n, .int .i64 a, .int .i64 b] w fun e w' => e = .returned (.int .i64 (near n a b)) ∧ w = w' := by
  by_cases h : n < a
  · go_enter Tryz.func45, Tryz.ntmps45
    go_wp2
    go_ret
    exact ⟨by simp [near, h], rfl⟩
  by_cases h2 : b < n
  all_goals
    go_enter Tryz.func45, Tryz.ntmps45
    go_wp2
    go_ret
    exact ⟨ret_int (by unfold near; repeat' split
                       all_goals omega), rfl⟩
theorem Near_any (n a b : Int) (w : World) : Calls Tryz.prog 27 #[.int .i64 n, .int .i64 a, .int .i64 b] w fun e w' => e = .returned (.int .i64 (near n a b)) ∧ w = w' := by
  by_cases h : n < a
  · go_enter Tryz.func27, Tryz.ntmps27
    go_wp2
    go_ret
    exact ⟨by simp [near, h], rfl⟩
  by_cases h2 : b < n
  all_goals
    go_enter Tryz.func27, Tryz.ntmps27
    go_wp2
    go_ret
    exact ⟨ret_int (by unfold near; repeat' split
                       all_goals omega), rfl⟩
theorem near_nat (n : Int) (b : Nat) : ∃ k : Nat, near n 0 b = k ∧ k ≤ b := by
  refine ⟨(near n 0 b).toNat, ?_, ?_⟩ <;> (unfold near; repeat' split) <;> omega
/-- What New answers: a new set in a new block. -/
def NewAns (b : Bool) (n : Nat) (ws : List Nat) (w : World) (e : Ending) (w' : World) : Prop := ∃ g, e = .returned (.pointer (some ⟨g, 0, none⟩)) ∧ SetAt w' g b n ws ∧ w.heap.size ≤ g ∧ w.grownBy w' none
theorem zeros_cells (b : Bool) (n : Int) : (Value.bool b :: .int .i64 n :: vals zeros).toArray = #[.bool b, .int .i64 n, .int .u64 0, .int .u64 0, .int .u64 0, .int .u64 0, .int .u64 0, .int .u64 0, .int .u64 0, .int .u64 0, .int .u64 0, .int .u64 0, .int .u64 0, .int .u64 0, .int .u64 0, .int .u64 0, .int .u64 0, .int .u64 0, .int .u64 0, .int .u64 0, .int .u64 0, .int .u64 0, .int .u64 0, .int .u64 0, .int .u64 0, .int .u64 0, .int .u64 0, .int .u64 0, .int .u64 0, .int .u64 0, .int .u64 0, .int .u64 0, .int .u64 0, .int .u64 0] := rfl
theorem New_any (n : Int) (k : Nat) (hk : near n 0 2048 = k) (w : World) :
    Calls Tryz.prog 49 #[.int .i64 n] w (NewAns true k zeros w) := by
  have h2 : k ≤ 2048 := by unfold near at hk; repeat' split at hk
                           all_goals omega
  have HK := Lib.hid hk
  clear hk
  go_enter Tryz.func49, Tryz.ntmps49
  go_wp2_with (go_at_call 45; (with_reducible refine (Clamp_any _ _ _ _).mono ?_); rintro e w' ⟨rfl, rfl⟩; rw [HK.out])
  go_ret
  refine ⟨w.heap.size, rfl, ⟨?_, Fine.zeros h2⟩, Nat.le_refl _, World.grownBy_alloc _ _ _⟩
  rw [zeros_cells, heap_alloc_new]
section
variable {w : World} {g n : Nat} {b : Bool} {ws : List Nat}
theorem info_set : (Tryz.prog.info? 108).map (·.size) = some 34 := by kernel_rfl
theorem nums_nonneg (h : SetAt w g b n ws) : ∀ z ∈ nums ws, 0 ≤ z := fun z hz => (mem_nums_lt h.2 hz).1
theorem next_first (h : SetAt w g b n ws) : nextOf (nums ws) 0 = (nums ws).getD 0 (-1) := nextOf_first (nums_nonneg h)
theorem All_nil (w : World) : Calls Tryz.prog 37 #[.pointer none] w fun e w' => e = .returned (.slice none 0 0) ∧ w' = w := by
  go_enter Tryz.func37, Tryz.ntmps37
  go_wp2_with (go_at_call 66; (with_reducible refine (Next_nil _ _).mono ?_); rintro e w' ⟨rfl, hw⟩; subst hw)
  go_loopw [3, 4] (fun v i wr => v = .slice none 0 0 ∧ i = .int .i64 (-1) ∧ wr = w') (fun _ _ _ => 0)
  case atStart => exact ⟨rfl, rfl, rfl⟩
  case round =>
    obtain ⟨rfl, rfl, hw⟩ := hrel
    subst hw
    go_wp2
    go_ret
    exact ⟨rfl, rfl⟩
theorem All_yes (h : SetAt w g b n ws) (hT : Tab w) (hg0 : g ≠ 0) : Calls Tryz.prog 37 #[.pointer (some ⟨g, 0, none⟩)] w (ListAns (nums ws) w) := by
  obtain ⟨i0, hi, hz0, hz1, hz2⟩ := info_parts info_int
  have E : Hid (i0.zero = some (.int .i64 0) ∧ i0.size = 1 ∧ i0.bytes = 8 ∧ Tryz.prog.info? 3 = some i0) := ⟨hz0, hz1, hz2, hi⟩
  have H := Lib.hid h
  have HT := Lib.hid hT
  have P := Lib.hid (Next_any h hT 0)
  rw [next_first h] at P
  obtain ⟨xs, hxs⟩ : ∃ xs, xs = nums ws := ⟨_, rfl⟩
  have HU := Lib.hid (nums_up ws)
  have HN := Lib.hid (nums_nonneg h)
  have HL := Lib.hid (nums_length ws)
  have HA := Lib.hid (show ∀ (W : World) (k : Nat), SetAt W g b n ws → Tab W → k < xs.length → Calls Tryz.prog 66 #[.pointer (some ⟨g, 0, none⟩), .int .i64 (xs.getD k 0 + 1)] W fun e w' => e = .returned (.int .i64 (xs.getD (k + 1) (-1))) ∧ Drew W w' by
    intro W k hS hTW hk
    rw [hxs] at hk ⊢
    rw [← nextOf_at k (nums_up ws) hk]
    exact Next_any hS hTW _)
  rw [← hxs] at P HU HN HL ⊢
  have HB := Lib.hid (show ∀ k, k < xs.length → xs.getD k 0 < 2048 by
    intro k hk
    rw [hxs] at hk ⊢
    have := mem_nums_lt h.2 (getD_mem hk 0)
    have := h.2.2.2.2
    omega)
  clear hi hz0 hz1 hz2 h hT hxs
  have hl := HL.out
  go_enter Tryz.func37, Tryz.ntmps37
  go_wp2_with (go_at_call 66; (with_reducible refine P.out.mono ?_); rintro e w' ⟨rfl, d, rfl⟩)
  go_loopw [3, 4] (fun v i wr => ∃ (k : Nat) (A' : Option Addr) (c' : Nat), k ≤ xs.length ∧ i = .int .i64 (xs.getD k (-1)) ∧ v = .slice A' k c' ∧ wr.ownsRow w.heap.size 3 1 (.slice A' k c') k (ints (xs.take k)) ∧ w.grownBy wr none) (fun v _ _ => xs.length - (match v with | .slice _ k _ => k | _ => 0))
  case atStart => exact ⟨0, none, 0, Nat.zero_le _, rfl, rfl, World.ownsRow_nil _ _ _ _, grown_drewN _ _ _⟩
  case round =>
    obtain ⟨k, A', c', hk, rfl, rfl, ho, hg⟩ := hrel
    have HO := Lib.hid ho
    have HG := Lib.hid hg
    clear ho hg
    by_cases hlt : k < xs.length
    · have e0 : xs.getD k (-1) = xs.getD k 0 := by simp [List.getD_eq_getElem?_getD, hlt]
      have hm := HN.out _ (getD_mem hlt 0)
      have hb := HB.out k hlt
      have HM := Lib.hid (take_more hlt 0)
      have HC := Lib.hid (fun W h1 h2 => HA.out W k h1 h2 hlt)
      rw [e0]
      generalize xs.getD k 0 = x at hm hb HM HC
      obtain ⟨y, hy⟩ : ∃ y, xs.getD (k + 1) (-1) = y := ⟨_, rfl⟩
      rw [hy] at HC
      have HY := Lib.hid hy
      clear hy
      have e1 : (x == -1) = false := by simp; omega
      have e2 : (x != -1) = true := by simp; omega
      have e3 : IntKind.i64.wrap (x + 1) = x + 1 := IntWalk.i64_in _ (by omega)
      clear e0
      go_wp2_with (first
        | (refine wpList_append_rd rfl (.tmp 13) (.tmp 15) 31 rfl w.heap.size 3 i0 (.int .i64 0) 8 Tryz.underlying31 E.out.2.2.2 E.out.1 E.out.2.1 E.out.2.2.1 rfl _ k (xs.take k) rfl (HO.out.alloc _) (some ⟨wr.heap.size, 0, none⟩) 1 1 _ [x] rfl (Rd.one _ _ _) (by unfold maxLen; omega) (by omega) (by have := HG.out.size; simp; omega) ?_; intro A3 c3 w2 own1 rd1 gr1; have OWN1 := Lib.hid own1; have G1 := Lib.hid (grown_one HG.out HO.out (Nat.le_refl _) gr1); clear own1 gr1 rd1)
        | (go_at_call 66; (with_reducible refine (HC.out _ (H.out.kept G1.out (by simp)) (HT.out.kept G1.out (by simp))).mono ?_); rintro e w' ⟨rfl, d2, rfl⟩))
      go_roundw
      case rel => exact ⟨k + 1, A3, c3, by omega, by rw [HY.out], rfl, by rw [HM.out]; exact OWN1.out, grown_more G1.out (grown_drewN _ _ _)⟩
      case measure => simp; omega
    · obtain rfl : k = xs.length := by omega
      have e0 : xs.getD xs.length (-1) = -1 := by simp
      rw [e0]
      go_wp2
      go_ret
      have ho := HO.out
      rw [List.take_of_length_le (Nat.le_refl _)] at ho
      exact ⟨A', c', rfl, ho, HG.out⟩
end
end Go.Proofs.YtfloleflcoiidaaGreatDoor.bm

/- What a step of the law's own script on a set does. -/
namespace Go.Proofs.YtfloleflcoiidaaGreatDoor.bm
open Go.ChangeShapes Go.WideShapes Go.ChangeAt Go.RowKit gen
set_option linter.unusedVariables false
section
variable {w : World} {g n : Nat} {b : Bool} {ws : List Nat}
theorem mem_bit (h : SetAt w g b n ws) {z : Int} (h0 : 0 ≤ z) : z ∈ nums ws ↔ bit ws z.toNat = true := by
  rw [mem_nums h.2]
  exact ⟨fun h => h.2, fun h => ⟨h0, h⟩⟩
theorem Has_any (h : SetAt w g b n ws) (z : Int) : Calls Tryz.prog 53 #[.pointer (some ⟨g, 0, none⟩), .int .i64 z] w fun e w' => e = .returned (.bool (decide (z ∈ nums ws))) ∧ Drew w w' := by
  by_cases hi : 0 ≤ z ∧ z < n
  · obtain ⟨i, rfl⟩ : ∃ i : Nat, z = i := ⟨z.toNat, by omega⟩
    have hm := mem_bit h hi.1
    simp only [Int.toNat_natCast] at hm
    cases hb : bit ws i with
    | true => rw [decide_eq_true (hm.2 hb)]; exact Has_yes h i (by omega) hb
    | false => rw [decide_eq_false (fun hc => by rw [hm.1 hc] at hb; cases hb)]; exact Has_no h i (by omega) hb
  · rw [decide_eq_false (fun hc => hi (mem_nums_lt h.2 hc))]
    exact (Has_out _ z w (place_no h z hi)).mono fun _ _ ⟨h1, h2⟩ => ⟨h1, .same h2⟩
theorem Add_no (h : SetAt w g b n ws) (z : Int) (hz : ¬ (z ∉ nums ws ∧ 0 ≤ z ∧ z < n)) : Calls Tryz.prog 51 #[.pointer (some ⟨g, 0, none⟩), .int .i64 z] w fun e w' => e = .returned (.bool false) ∧ Drew w w' := by
  by_cases hi : 0 ≤ z ∧ z < n
  · obtain ⟨i, rfl⟩ : ∃ i : Nat, z = i := ⟨z.toNat, by omega⟩
    have hm := mem_bit h hi.1
    simp only [Int.toNat_natCast] at hm
    exact Add_in h i (by omega) (hm.1 (Decidable.byContradiction fun hc => hz ⟨hc, hi⟩))
  · exact (Add_out _ z w (place_no h z hi)).mono fun _ _ ⟨h1, h2⟩ => ⟨h1, .same h2⟩
/-- What a set that has changed answers. -/
def SetAns (r : Bool) (xs : List Int) (g : Nat) (b : Bool) (n : Nat) (w : World) (e : Ending) (w' : World) : Prop :=
  ∃ ws, e = .returned (.bool r) ∧ SetAt w' g b n ws ∧ nums ws = xs ∧ w.grownBy w' (some g)
theorem Add_ok (h : SetAt w g b n ws) (z : Int) (h1 : z ∉ nums ws) (h2 : 0 ≤ z) (h3 : z < n) : Calls Tryz.prog 51 #[.pointer (some ⟨g, 0, none⟩), .int .i64 z] w (SetAns true (rising (nums ws ++ [z])) g b n w) := by
  obtain ⟨i, rfl⟩ : ∃ i : Nat, z = i := ⟨z.toNat, by omega⟩
  have hm := mem_bit h h2
  simp only [Int.toNat_natCast] at hm
  refine (Add_yes h i (by omega) (by cases e : bit ws i with | false => rfl | true => exact absurd (hm.2 e) h1)).mono fun e w' ⟨he, hs, hg⟩ => ?_
  exact ⟨_, he, hs, (nums_put h.2 (by omega)).symm, hg⟩
theorem Remove_any (h : SetAt w g b n ws) (z : Int) : Calls Tryz.prog 106 #[.pointer (some ⟨g, 0, none⟩), .int .i64 z] w (SetAns (decide (z ∈ nums ws)) ((nums ws).filter fun y => decide (y ≠ z)) g b n w) := by
  have no : ∀ (e : Ending) (w' : World), z ∉ nums ws → (e = .returned (.bool false) ∧ Drew w w') → SetAns (decide (z ∈ nums ws)) ((nums ws).filter fun y => decide (y ≠ z)) g b n w e w' := by
    rintro e w' hz ⟨rfl, k, rfl⟩
    exact ⟨ws, by rw [decide_eq_false hz], h.drewN k, (filter_all hz).symm, grown_drewN _ _ _⟩
  by_cases hi : 0 ≤ z ∧ z < n
  · obtain ⟨i, rfl⟩ : ∃ i : Nat, z = i := ⟨z.toNat, by omega⟩
    have hm := mem_bit h hi.1
    simp only [Int.toNat_natCast] at hm
    cases hb : bit ws i with
    | true => exact (Remove_yes h i (by omega) hb).mono fun e w' ⟨he, hs, hg⟩ => ⟨_, by rw [he, decide_eq_true (hm.2 hb)], hs, (nums_cut h.2 (by omega)).symm, hg⟩
    | false => exact (Remove_no h i (by omega) hb).mono fun e w' he => no e w' (fun hc => by rw [hm.1 hc] at hb; cases hb) he
  · exact (Remove_out _ z w (place_no h z hi)).mono fun e w' ⟨h1, h2⟩ => no e w' (fun hc => hi (mem_nums_lt h.2 hc)) ⟨h1, .same h2⟩
end
theorem Rd.below' {w w' : World} {B n c : Nat} {A : Option Addr} {xs : List Int} (h : Rd w B A n c xs) (hb : Below B w w') (hs : B ≤ w'.heap.size) : Rd w' w'.heap.size A n c xs := by
  have h2 := h.below hb
  exact ⟨h2.1, h2.2.1, fun ad e i hi => ⟨Nat.lt_of_lt_of_le (h2.2.2 ad e i hi).1 hs, (h2.2.2 ad e i hi).2⟩⟩
theorem SetAt.heap {w w' : World} {g n : Nat} {b : Bool} {ws : List Nat} (h : SetAt w g b n ws) (hw : w'.heap = w.heap) : SetAt w' g b n ws := ⟨by rw [hw]; exact h.1, h.2⟩
theorem cell_heap {w w' : World} (hw : w'.heap = w.heap) (a : Addr) : w'.cell? a = w.cell? a := World.cell?_of_block (by rw [hw])
theorem Tab.heap {w w' : World} (h : Tab w) (hw : w'.heap = w.heap) : Tab w' := ⟨by rw [hw]; exact h.1, fun j hj => by rw [cell_heap hw]; exact h.2 j hj⟩
theorem Rd.heap {w w' : World} {B n c : Nat} {A : Option Addr} {xs : List Int} (h : Rd w B A n c xs) (hw : w'.heap = w.heap) : Rd w' B A n c xs := ⟨h.1, h.2.1, fun ad e i hi => ⟨(h.2.2 ad e i hi).1, by rw [cell_heap hw]; exact (h.2.2 ad e i hi).2⟩⟩
/-- The two cells of a call that lies at the head of block B. -/
def Pair (w : World) (B : Nat) (k z : Int) : Prop := w.cell? ⟨B, 0, none⟩ = some (.int .i64 k) ∧ w.cell? ⟨B, 1, none⟩ = some (.int .i64 z)
theorem Pair.new (w : World) (t : TypeId) (k z : Int) : Pair (w.alloc (.cells #[.int .i64 k, .int .i64 z] t)) w.heap.size k z := by
  unfold Pair
  refine ⟨?_, ?_⟩ <;> simp [go_sem]
theorem Pair.kept {w w' : World} {B : Nat} {k z : Int} {row : Option Nat} (h : Pair w B k z) (hg : w.grownBy w' row) (hr : some B ≠ row) : Pair w' B k z := ⟨hg.cell h.1 hr, hg.cell h.2 hr⟩
theorem pair_own {wr w2 : World} {B n : Nat} {v : Value} {xs : List Value} {t : TypeId} {o : Obj} {k z : Int} (h : Pair wr B k z) (ho : wr.ownsRow (B + 1) t 1 v n xs) (hg : (wr.alloc o).grownBy w2 v.ownBlock) : Pair w2 B k z :=
  (h.kept (World.grownBy_alloc wr o none) (by simp)).kept hg (fun e => by have := own_base ho B e.symm; omega)
/-- Where the list behind a step lies: in a new block, or where the one ahead lay. -/
def From (w : World) (v v' : Value) : Prop := ∀ q, v'.ownBlock = some q → w.heap.size ≤ q ∨ v.ownBlock = some q
theorem From.same (w : World) (v : Value) : From w v v := fun _ h => .inr h
theorem From.nil (w : World) (v : Value) : From w v (.slice none 0 0) := fun _ h => by cases h
theorem From.own {w w' : World} {v v' : Value} {base n : Nat} {t : TypeId} {xs : List Value} (h : w'.ownsRow base t 1 v' n xs) (hb : w.heap.size ≤ base) : From w v v' := fun q hq => .inl (Nat.le_trans hb (own_base h q hq))
theorem From.then {w w' : World} {v v' v'' : Value} (h : From w v v') (h' : From w' v' v'') (hs : w.heap.size ≤ w'.heap.size) : From w v v'' := fun q hq => by
  rcases h' q hq with h1 | h1
  · exact .inl (by omega)
  · exact h q h1
/-- What a step answers: a set and a list that agree. -/
def StepAns (g n : Nat) (v0 : Value) (w : World) (e : Ending) (w' : World) : Prop :=
  ∃ A c ws m, e = .returned (.tuple #[.slice A m c, .bool true]) ∧ (nums ws).length = m ∧ SetAt w' g true n ws ∧ Lst w' g (.slice A m c) (nums ws) ∧ w.grownBy w' (some g) ∧ From w v0 (.slice A m c)
theorem no_ways {z : Int} {n : Nat} {xs : List Int} {bz : Bool} (hz : ¬ (z ∉ xs ∧ 0 ≤ z ∧ z < n)) (hbz : decide (z ∈ xs) = bz) : bz = true ∨ bz = false ∧ (decide (z < 0) = true ∧ z < 0 ∨ ¬ z < 0 ∧ decide (z < (n : Int)) = false) := by
  cases bz
  · right
    have h1 := of_decide_eq_false hbz
    have h2 : ¬ (0 ≤ z ∧ z < n) := fun h' => hz ⟨h1, h'⟩
    refine ⟨rfl, ?_⟩
    by_cases h0 : z < 0
    · exact .inl ⟨decide_eq_true h0, h0⟩
    · exact .inr ⟨h0, decide_eq_false (by omega)⟩
  · exact .inl rfl
section
variable {w : World} {g n m c : Nat} {A : Option Addr} {ws : List Nat}
set_option maxHeartbeats 4000000
set_option maxRecDepth 100000
end
end Go.Proofs.YtfloleflcoiidaaGreatDoor.bm

/- The library's table, as a row lists it. -/
namespace Go.Proofs.YtfloleflcoiidaaGreatDoor.bm
open Go.RowKit
theorem gTab : Tryz.prog.globalNamed "math/bits.deBruijn64tab" = some 0 := by kernel_rfl
theorem gTabType : (Tryz.prog.globals[0]?).map (·.type) = some 149 := by kernel_rfl
theorem tab_cell (j : Nat) (hj : j < 64) : (Lib.deBruijn64tab.map fun n : Nat => (n : Int)).getD j 0 = (Lib.deBruijn64tab.getD j 0 : Nat) := by
  have h : j < Lib.deBruijn64tab.length := hj
  simp [List.getD_eq_getElem?_getD, h]
/-- Where the row's table is laid, the walks' table is. -/
theorem tab_of_laid {W : World} (h : laidMet Tryz.prog [("math/bits.deBruijn64tab", Rows.laid_math_bits_deBruijn64tab)] W) : Tab W := by
  have t := Lib.tabIs_of_head (k := .u8) (zs := Lib.deBruijn64tab.map fun n : Nat => (n : Int)) (rest := []) gTab gTabType Tryz.underlying149 Tryz.underlying5 (by kernel_rfl) (by kernel_rfl) h
  have c : ∀ j, j < 64 → W.cell? ⟨0, j, none⟩ = some (.int .u8 (Lib.deBruijn64tab.getD j 0 : Nat)) := fun j hj => by
    rw [← tab_cell j hj]
    exact t.cell gTab j (by rw [List.length_map]; exact hj)
  exact ⟨World.block_lt_of_cell? W _ (c 0 (by decide)), c⟩
end Go.Proofs.YtfloleflcoiidaaGreatDoor.bm
