/- Layer 4's functions that make memory: New, All, Clone. -/
import Derived.Test.YtkkoiglfimibjaaDoorMmC
import Derived.Lib.SliceRun
namespace Go.Proofs.YtkkoiglfimibjaaDoor.mm
open Go.ChangeShapes Go.WideShapes Go.ChangeAt Go.RowKit gen
set_option linter.unusedVariables false

/-- The nearest number that may be. -/
def near (n a b : Int) : Int := if n < a then a else if b < n then b else n
theorem ret_int {a b : Int} (h : a = b) : Ending.returned (.int .i64 a) = .returned (.int .i64 b) := by rw [h]
theorem eql_nil : ∀ (w : World) (a : Option Addr) (n c : Nat), (binOp .eql 90 (.slice a n c) (.slice none 0 0)).run Tryd.prog w = .ok (.bool a.isNone) w := fun w a n c => Lib.run_eql_slice_nil w _ _ a n c 0 0 Tryd.underlying90
theorem Clamp_any (n a b : Int) (w : World) : Calls Tryd.prog 70 #[.int .i64 n, .int .i64 a, .int .i64 b] w fun e w' => e = .returned (.int .i64 (near n a b)) ∧ w = w' := by
  by_cases h : n < a
  · go_enter Tryd.func70, Tryd.ntmps70
    go_wp2
    go_ret
    exact ⟨by simp [near, h], rfl⟩
  by_cases h2 : b < n
  all_goals
    go_enter Tryd.func70, Tryd.ntmps70
    go_wp2
    go_ret
    exact ⟨ret_int (by unfold near; repeat' split
                       all_goals omega), rfl⟩
theorem Near_any (n a b : Int) (w : World) : Calls Tryd.prog 7 #[.int .i64 n, .int .i64 a, .int .i64 b] w fun e w' => e = .returned (.int .i64 (near n a b)) ∧ w = w' := by
  by_cases h : n < a
  · go_enter Tryd.func7, Tryd.ntmps7
    go_wp2
    go_ret
    exact ⟨by simp [near, h], rfl⟩
  by_cases h2 : b < n
  all_goals
    go_enter Tryd.func7, Tryd.ntmps7
    go_wp2
    go_ret
    exact ⟨ret_int (by unfold near; repeat' split
                       all_goals omega), rfl⟩
theorem near_id (k : Nat) (h : k ≤ 2048) : near (k : Int) 0 2048 = k := by
  unfold near
  repeat' split
  all_goals omega
theorem near_nat (n : Int) (b : Nat) : ∃ k : Nat, near n 0 b = k ∧ k ≤ b := by
  refine ⟨(near n 0 b).toNat, ?_, ?_⟩ <;> (unfold near; repeat' split) <;> omega
theorem info2' : (Tryd.prog.info? 2).map (fun i => (i.zero, i.size, i.bytes)) = some (some (.int .i64 0), 1, 8) := by kernel_rfl
theorem make_words (n : Nat) (hn : n ≤ 2048) (w : World) :
    (Instr.makeSlice 90 (.int .i64 (n : Int)) (.int .i64 (n : Int))).run Tryd.prog w = .ok (.slice (some ⟨w.heap.size, 0, none⟩) n n) (w.alloc (.cells (ints (List.replicate n 0)).toArray 2)) := by
  obtain ⟨i0, hi, hz0, hz1, hz2⟩ := info_parts info2'
  have h := run_make (P := Tryd.prog) w 90 2 i0 _ Tryd.underlying90 hi hz0 .i64 .i64 n n (by omega) (Int.le_refl _) (by rw [hz2]; omega) (by omega)
  rw [h]
  simp only [Int.toNat_natCast, hz1, Nat.mul_one]
  have e : madeCells (Value.cells (.int .i64 0)) n = (ints (List.replicate n 0)).toArray := by
    apply Array.ext'
    rw [show Value.cells (.int .i64 0) = #[.int .i64 0] from rfl, toList_madeCells_one]
    simp [ints]
  rw [e]
/-- What New answers: a new object over a new row. -/
def NewAns (xs : List Int) (w : World) (e : Ending) (w' : World) : Prop := ∃ g r, e = .returned (.pointer (some ⟨g, 0, none⟩)) ∧ MemAt w' g r xs ∧ w.heap.size ≤ g ∧ w.heap.size ≤ r ∧ w.grownBy w' none
theorem New_any (n : Int) (k : Nat) (hk : near n 0 2048 = k) (w : World) :
    Calls Tryd.prog 32 #[.int .i64 n] w (NewAns (List.replicate k 0) w) := by
  have h2 : k ≤ 2048 := by unfold near at hk; repeat' split at hk
                           all_goals omega
  have HK := Lib.hid hk
  have mk := make_words k h2
  clear hk
  obtain ⟨cs, hcs⟩ : ∃ cs, cs = (ints (List.replicate k 0)).toArray := ⟨_, rfl⟩
  rw [← hcs] at mk
  have HC := Lib.hid hcs
  clear hcs
  go_enter Tryd.func32, Tryd.ntmps32
  go_wp2_with (go_at_call 70; (with_reducible refine (Clamp_any _ _ _ _).mono ?_); rintro e w' ⟨rfl, rfl⟩; rw [HK.out])
  go_ret
  have hs : (w.alloc (.cells cs 2)).heap.size = w.heap.size + 1 := by simp
  refine ⟨_, w.heap.size, rfl, ⟨?_, ?_, by simpa using h2⟩, by omega, Nat.le_refl _, (World.grownBy_alloc _ _ _).trans (World.grownBy_alloc _ _ _)⟩
  · rw [← hs, heap_alloc_new]
    simp
  · rw [Below.heap_alloc _ _ _ (by omega), heap_alloc_new, HC.out]
/-- A list that was made. -/
def ListAns (xs : List Int) (w : World) (e : Ending) (w' : World) : Prop := ∃ A c, e = .returned (.slice A xs.length c) ∧ w'.ownsRow w.heap.size 2 1 (.slice A xs.length c) xs.length (ints xs) ∧ w.grownBy w' none
theorem MemAt.rd {w : World} {g r : Nat} {xs : List Int} (h : MemAt w g r xs) {A : Addr} (hA : 0 < xs.length → A = ⟨r, 0, none⟩) : Rd w w.heap.size (some A) xs.length xs.length xs := by
  refine ⟨rfl, fun e => (by cases e), fun ad e i hi => ?_⟩
  injection e with e
  subst e
  obtain rfl := hA (by omega)
  refine ⟨h.lt.2, ?_⟩
  rw [Addr.add_lit, Nat.zero_add]
  exact h.word hi
theorem part_all {g r : Nat} {xs : List Int} {w : World} (h : MemAt w g r xs) :
    Calls Tryd.prog 93 #[.pointer (some ⟨g, 0, none⟩), .int .i64 0, .int .i64 xs.length] w fun e w' => PartAns r 0 xs.length e ∧ w = w' :=
  part_yes h 0 xs.length (by omega)
theorem Clone_nobody {p : Option Addr} {w : World} (h : Nobody w p) : Calls Tryd.prog 67 #[.pointer p] w fun e w' => e = .returned (.pointer none) ∧ w = w' := by
  have H := Lib.hid h
  clear h
  go_enter Tryd.func67, Tryd.ntmps67
  go_wp2_with (go_at_call 69; (with_reducible refine (made_nobody H.out).mono ?_); rintro e w' ⟨rfl, rfl⟩)
  go_ret
  exact ⟨rfl, rfl⟩
theorem Clone_yes {g r : Nat} {xs : List Int} {w : World} (h : MemAt w g r xs) : Calls Tryd.prog 67 #[.pointer (some ⟨g, 0, none⟩)] w (NewAns xs w) := by
  have hs := h.2.2
  have f0 := h.field
  obtain ⟨n, hn⟩ : ∃ n, n = xs.length := ⟨_, rfl⟩
  rw [← hn] at f0 hs
  have HN := Lib.hid hn
  have HK := Lib.hid (near_id xs.length h.2.2)
  have H := Lib.hid h
  clear h hn
  go_enter Tryd.func67, Tryd.ntmps67
  go_wp2_with (first
    | (go_at_call 69; (with_reducible refine (made_yes _ _ _ _ _ f0).mono ?_); rintro e w' ⟨rfl, rfl⟩)
    | (go_at_call 29; (with_reducible refine (Len_yes H.out).mono ?_); rintro e w' ⟨rfl, rfl⟩)
    | (go_at_call 32; (with_reducible refine (New_any _ _ HK.out _).mono ?_); rintro e w1 ⟨g1, r1, rfl, hm, hg1, hr1, hw⟩; have HM := Lib.hid hm; have HW := Lib.hid hw; have H1 := Lib.hid (H.out.kept HW.out (by simp) (by simp)); have f1 := hm.field; rw [List.length_replicate, ← HN.out] at f1; have f2 := H1.out.field; rw [← HN.out] at f2; clear hm hw))
  obtain ⟨cs, hcs⟩ : ∃ cs, cs = ints xs := ⟨_, rfl⟩
  obtain ⟨zs, hzs⟩ : ∃ zs, zs = ints (List.replicate xs.length 0) := ⟨_, rfl⟩
  have HC := Lib.hid hcs
  have HZ := Lib.hid hzs
  clear hcs hzs
  have HL := Lib.hid (show cs.length = n by rw [HC.out, ints_length, HN.out])
  have HLZ := Lib.hid (show zs.length = n by rw [HZ.out, ints_length, List.length_replicate, HN.out])
  have HS := Lib.hid (show ∀ W : World, (W.heap = w1.heap) → ∀ j v, cs[j]? = some v → W.cell? ((⟨r, 0, none⟩ : Addr).add j) = some v by
    intro W hW j v hv
    have hj : j < xs.length := by rw [← HN.out, ← HL.out]; exact (List.getElem?_eq_some_iff.1 hv).1
    have e : W.cell? ((⟨r, 0, none⟩ : Addr).add j) = w1.cell? ((⟨r, 0, none⟩ : Addr).add j) := World.cell?_of_block (by rw [hW])
    rw [HC.out] at hv
    rw [e, Addr.add_lit, Nat.zero_add, H1.out.word hj]
    simpa [ints, hj] using hv)
  have K1 := Lib.hid (show ∀ W : World, (w1.drew).grownBy W (some r1) → W.cell? ⟨g1, 0, none⟩ = some (.slice (some ⟨r1, 0, none⟩) n n) from fun W hW => (hW.cell_far ⟨g1, 0, none⟩ HM.out.lt.1 (by simpa using HM.out.ne)).trans f1)
  have K2 := Lib.hid (show ∀ W : World, (w1.drew).grownBy W (some r1) → W.cell? ⟨g, 0, none⟩ = some (.slice (some ⟨r, 0, none⟩) n n) from fun W hW => (hW.cell_far ⟨g, 0, none⟩ H1.out.lt.1 (by have := H.out.lt.1; simp; omega)).trans f2)
  go_region_held_law (fun w' => w'.cell? ⟨g1, 0, none⟩ = some (.slice (some ⟨r1, 0, none⟩) n n) ∧ w'.cell? ⟨g, 0, none⟩ = some (.slice (some ⟨r, 0, none⟩) n n)) (first | go_keep | exact ⟨K1.out _ hg2, K2.out _ hg2⟩)
    ((refine step_copy_row rfl (.tmp 13) (.tmp 17) 90 90 rfl 2 Tryd.underlying90 info2 (some ⟨r1, 0, none⟩) (some ⟨r, 0, none⟩) n n n n (by rfl) (by rfl) r1 0 zs 2 (by rw [HZ.out]; exact HM.out.2.1) cs (by rw [HL.out]; simp) (fun hp => ⟨rfl, _, rfl, HS.out _ rfl⟩) (by rw [HL.out, HLZ.out]; omega) (by rw [HC.out]; exact ints_one _) ?_; intro w2 h2 hg2))
  rename_i hh
  have HG2 := Lib.hid hg2
  clear hh hg2 f0 f1 f2
  go_wp2
  go_ret
  have hw1 : w.grownBy w2 none := grown_new (r := r1) HW.out ⟨HG2.out.os, HG2.out.tape, HG2.out.output, HG2.out.size, HG2.out.block⟩ hr1
  refine ⟨g1, r1, rfl, ⟨?_, ?_, H.out.2.2⟩, hg1, hr1, hw1⟩
  · refine (HG2.out.block g1 HM.out.lt.1 (by simpa using HM.out.ne)).trans ?_
    have := HM.out.1
    rw [List.length_replicate] at this
    exact this
  · rw [h2.out]
    have e : splice zs 0 cs = ints xs := by
      unfold splice
      rw [HL.out, Nat.zero_add, List.drop_of_length_le (by rw [HLZ.out]; omega), HC.out]
      simp
    rw [e]
end Go.Proofs.YtkkoiglfimibjaaDoor.mm
