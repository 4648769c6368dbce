/- Texts that this claim stands on. -/
import Derived.RegionTactic
import Derived.Deep.RegionLaw
import Derived.Deep.AppendLies
import Derived.Deep.RegionHeld3
import Derived.Deep.RegionHeldLaw
import Derived.Laws.Cover3
import Derived.Laws.CopyOwn
import Derived.Laws.OwnMore
import Derived.Lib.SliceRun
import Derived.Test.YtkgdcgmbapchcaaGreatDoorQGnQ
namespace Go.Proofs.YtkgdcgmbapchcaaGreatDoor.bf
open Go.ChangeShapes Go.WideShapes Go.ChangeAt Go.RowKit gen li
set_option linter.unusedVariables false
set_option maxHeartbeats 4000000
set_option maxRecDepth 100000
structure Gr (L : List Nat) (w w' : World) : Prop where
  os : w'.os = w.os
  tape : w'.tape = w.tape
  output : w'.output = w.output
  size : w.heap.size ≤ w'.heap.size
  block : ∀ k, k < w.heap.size → k ∉ L → w'.heap[k]? = w.heap[k]?
section
variable {L M : List Nat} {a b w w' w'' : World}
theorem Gr.refl (L : List Nat) (w : World) : Gr L w w := ⟨rfl, rfl, rfl, Nat.le_refl _, fun _ _ _ => rfl⟩
theorem Gr.trans (h : Gr L w w') (k : Gr L w' w'') : Gr L w w'' :=
  ⟨k.os.trans h.os, k.tape.trans h.tape, k.output.trans h.output, Nat.le_trans h.size k.size, fun i h1 h2 => (k.block i (Nat.lt_of_lt_of_le h1 h.size) h2).trans (h.block i h1 h2)⟩
theorem Gr.of {row : Option Nat} (h : w.grownBy w' row) (hr : ∀ q, row = some q → q ∈ L) : Gr L w w' :=
  ⟨h.os, h.tape, h.output, h.size, fun k h1 h2 => h.block k h1 (fun e => h2 (hr k e.symm))⟩
theorem Gr.new (h : w.grownBy w' none) : Gr L w w' := .of h (fun _ e => by cases e)
theorem Gr.one {q : Nat} (h : w.grownBy w' (some q)) (hq : q ∈ L) : Gr L w w' := .of h (fun _ e => by injection e with e; subst e; exact hq)
theorem Gr.mono (h : Gr L w w') (hL : ∀ k, k ∈ L → k ∈ M) : Gr M w w' := ⟨h.os, h.tape, h.output, h.size, fun k h1 h2 => h.block k h1 (fun e => h2 (hL k e))⟩
theorem Gr.heap (h : Gr L w w') {k : Nat} {o : Obj} (hk : w.heap[k]? = some o) (hn : k ∉ L) : w'.heap[k]? = some o := (h.block k (Array.getElem?_eq_some_iff.1 hk).1 hn).trans hk
theorem own_lt {base n : Nat} {v : Value} {t : TypeId} {l : List Value} (h : w.ownsRow base t 1 v n l) : ∀ q, v.ownBlock = some q → base ≤ q ∧ q < w.heap.size := fun q e => by
  rcases h.2 with ⟨rfl, _⟩ | ⟨g, cap, cur, rfl, hb, hg, _⟩
  · cases e
  · injection e with e
    subst e
    exact ⟨hb, (Array.getElem?_eq_some_iff.1 hg).1⟩
theorem own_gr {base n : Nat} {v : Value} {t : TypeId} {l : List Value} (h : w.ownsRow base t 1 v n l) (hg : Gr L w w') (hL : ∀ q, v.ownBlock = some q → q ∉ L) : w'.ownsRow base t 1 v n l := by
  refine ⟨h.1, ?_⟩
  rcases h.2 with ⟨rfl, e⟩ | ⟨g, cap, cur, rfl, hb, hk, h1, h2, h3, h4⟩
  · exact .inl ⟨rfl, e⟩
  · exact .inr ⟨g, cap, cur, rfl, hb, hg.heap hk (hL g rfl), h1, h2, h3, h4⟩
theorem ty_ne {a b : Nat} {x y : Array Value} {t u : TypeId} {f k : Nat × Nat} (h1 : w.heap[a]? = some (.cells x t f)) (h2 : w.heap[b]? = some (.cells y u k)) (h : t ≠ u) : a ≠ b := by
  rintro rfl
  have := h1.symm.trans h2
  injection this with this
  injection this with _ e _
  exact h e
theorem grown_set (w : World) (g o : Nat) (v : Value) : w.grownBy (w.setCell ⟨g, o, none⟩ v) (some g) := ⟨rfl, rfl, rfl, by simp, fun i _ hi => heap_setCell_other w ⟨g, o, none⟩ i _ (fun e => hi (by simp [e]))⟩
end
def Wl (l : List Int) : Prop := l.Nodup ∧ ∀ x ∈ l, 0 ≤ x ∧ x < 2048
theorem Wl.nil : Wl [] := ⟨List.nodup_nil, fun x h => by cases h⟩
theorem room : ∀ (n : Nat) (l : List Int), l.Nodup → (∀ x ∈ l, 0 ≤ x ∧ x < (n : Int)) → l.length ≤ n
  | 0, l, _, h => by
    cases l with
    | nil => simp
    | cons x l => have := h x (by simp); omega
  | n + 1, l, hn, h => by
    have h1 : (l.erase (n : Int)).Nodup := hn.erase _
    have h2 := room n (l.erase (n : Int)) h1 (fun x hx => by
      have a := h x (List.mem_of_mem_erase hx)
      have b : x ≠ (n : Int) := fun e => by subst e; exact (List.Nodup.not_mem_erase hn) hx
      omega)
    have h3 : l.length ≤ (l.erase (n : Int)).length + 1 := by
      rw [List.length_erase]
      split <;> omega
    omega
theorem Wl.room {l : List Int} (h : Wl l) : l.length ≤ 2048 := bf.room 2048 l h.1 (fun x hx => by have := h.2 x hx; omega)
def Ok (ls : List (List Int)) : Prop := ls.length ≤ 8 ∧ ∀ i, Wl (ls.getD i [])
theorem Ok.set {ls : List (List Int)} {l : List Int} (h : Ok ls) (k : Nat) (hl : Wl l) : Ok (ls.set k l) := by
  refine ⟨by simpa using h.1, fun i => ?_⟩
  rw [List.getD_eq_getElem?_getD, List.getElem?_set]
  split
  · split
    · exact hl
    · exact Wl.nil
  · rw [← List.getD_eq_getElem?_getD]
    exact h.2 i
theorem Ok.rep {k : Nat} (h : k ≤ 8) : Ok (List.replicate k []) := by
  refine ⟨by simpa using h, fun i => ?_⟩
  rw [List.getD_eq_getElem?_getD, List.getElem?_replicate]
  split <;> exact Wl.nil
theorem Ok.le {ls : List (List Int)} (h : Ok ls) (i : Nat) : (ls.getD i []).length ≤ 2048 := (h.2 i).room
def tot (ls : List (List Int)) : Nat := (ls.map List.length).sum
theorem take_more {ls : List (List Int)} {k : Nat} (h : k < ls.length) : ls.take (k + 1) = ls.take k ++ [ls.getD k []] := by
  rw [List.take_succ_eq_append_getElem h, List.getD_eq_getElem?_getD, List.getElem?_eq_getElem h]
  rfl
theorem tot_more {ls : List (List Int)} {k : Nat} (h : k < ls.length) : tot (ls.take (k + 1)) = tot (ls.take k) + (ls.getD k []).length := by
  rw [take_more h]
  simp [tot]
theorem tot_le {ls : List (List Int)} (h : Ok ls) : ∀ k, k ≤ ls.length → tot (ls.take k) ≤ 2048 * k
  | 0, _ => by simp [tot]
  | k + 1, hk => by
    have := tot_le h k (by omega)
    have h2 := h.le k
    rw [tot_more (by omega)]
    omega
theorem tot_all {ls : List (List Int)} {k : Nat} (h : ls.length ≤ k) : tot (ls.take k) = tot ls := by rw [List.take_of_length_le h]
theorem tot_zero {ls : List (List Int)} {k : Nat} (h : k < ls.length) (h1 : (ls.getD k []).length ≠ 0) : tot ls ≠ 0 := by
  have : ls = ls.take k ++ (ls.getD k [] :: ls.drop (k + 1)) := by
    rw [← List.singleton_append, ← List.append_assoc, ← take_more h, List.take_append_drop]
  rw [this]
  simp only [tot, List.map_append, List.sum_append, List.map_cons, List.sum_cons]
  omega
abbrev nl : Value := .slice none 0 0
def Li (w : World) (v : Value) (m : List Int) : Prop := w.ownsRow 0 3 1 v m.length (ints m)
section
variable {w w' : World} {v : Value} {m : List Int} {L : List Nat}
theorem Li.kept {row : Option Nat} (h : Li w v m) (hg : w.grownBy w' row) (hr : v.ownBlock = none ∨ v.ownBlock ≠ row) : Li w' v m := World.ownsRow.kept h hg hr
theorem Li.gr (h : Li w v m) (hg : Gr L w w') (hL : ∀ q, v.ownBlock = some q → q ∉ L) : Li w' v m := own_gr h hg hL
theorem Li.nil (w : World) : Li w nl [] := World.ownsRow_nil _ _ _ _
theorem Li.off {k : Nat} {o : Obj} (h : Li w v m) (hk : w.heap[k]? = some o) (hn : ∀ cs z, o ≠ .cells cs 3 z) : v.ownBlock ≠ some k := fun e => by
  rcases h.2 with ⟨rfl, _⟩ | ⟨g, cap, cur, rfl, _, hg, _⟩
  · cases e
  · injection e with e
    subst e
    rw [hg] at hk
    injection hk with hk
    exact hn _ _ hk.symm
theorem Li.lt (h : Li w v m) : ∀ q, v.ownBlock = some q → q < w.heap.size := fun q e => (own_lt h q e).2
theorem Li.shape (h : Li w v m) : ∃ A c, v = .slice A m.length c := by
  rcases h.2 with ⟨rfl, e⟩ | ⟨g, cap, cur, rfl, _⟩
  · rw [e]; exact ⟨none, 0, rfl⟩
  · exact ⟨_, _, rfl⟩
end
structure Bi (w : World) (g R : Nat) (us : List Value) (ls : List (List Int)) : Prop where
  box : w.heap[g]? = some (.cells #[.slice (some ⟨R, 0, none⟩) ls.length ls.length] 131 (0, 0))
  row : w.heap[R]? = some (.cells us.toArray 41 (0, 0))
  len : us.length = ls.length
  ok : Ok ls
  each : ∀ i, i < ls.length → Li w (us.getD i nl) (ls.getD i [])
  apart : ∀ i j, i < ls.length → j < ls.length → i ≠ j → ∀ b, (us.getD i nl).ownBlock = some b → (us.getD j nl).ownBlock ≠ some b
def ks (g R : Nat) (us : List Value) : List Nat := g :: R :: us.filterMap Value.ownBlock
theorem getD_mem' {us : List Value} {i : Nat} (h : i < us.length) : us.getD i nl ∈ us := by
  rw [List.getD_eq_getElem?_getD, List.getElem?_eq_getElem h]
  exact List.getElem_mem h
theorem ks_at {g R i b : Nat} {us : List Value} (h : i < us.length) (hb : (us.getD i nl).ownBlock = some b) : b ∈ ks g R us := by
  refine List.mem_cons_of_mem _ (List.mem_cons_of_mem _ (List.mem_filterMap.2 ⟨_, getD_mem' h, hb⟩))
theorem ks_of {g R b : Nat} {us : List Value} (h : b ∈ ks g R us) : b = g ∨ b = R ∨ ∃ i, i < us.length ∧ (us.getD i nl).ownBlock = some b := by
  rcases List.mem_cons.1 h with h | h
  · exact .inl h
  rcases List.mem_cons.1 h with h | h
  · exact .inr (.inl h)
  obtain ⟨u, hu, hb⟩ := List.mem_filterMap.1 h
  obtain ⟨i, hi, rfl⟩ := List.getElem_of_mem hu
  exact .inr (.inr ⟨i, hi, by rw [List.getD_eq_getElem?_getD, List.getElem?_eq_getElem hi]; exact hb⟩)
section
variable {w w' : World} {g R : Nat} {us : List Value} {ls : List (List Int)} {L : List Nat}
theorem Bi.g_lt (h : Bi w g R us ls) : g < w.heap.size := (Array.getElem?_eq_some_iff.1 h.box).1
theorem Bi.R_lt (h : Bi w g R us ls) : R < w.heap.size := (Array.getElem?_eq_some_iff.1 h.row).1
theorem Bi.lt (h : Bi w g R us ls) : ∀ k, k ∈ ks g R us → k < w.heap.size := fun k hk => by
  rcases ks_of hk with rfl | rfl | ⟨i, hi, hb⟩
  · exact h.g_lt
  · exact h.R_lt
  · exact (h.each i (by rw [← h.len]; exact hi)).lt _ hb
theorem Bi.gr (h : Bi w g R us ls) (hg : Gr L w w') (hL : ∀ k, k ∈ ks g R us → k ∉ L) : Bi w' g R us ls :=
  ⟨hg.heap h.box (hL _ (by simp [ks])), hg.heap h.row (hL _ (by simp [ks])), h.len, h.ok,
    fun i hi => (h.each i hi).gr hg (fun q e => hL q (ks_at (by rw [h.len]; exact hi) e)), h.apart⟩
theorem Bi.c0 (h : Bi w g R us ls) : w.cell? ⟨g, 0, none⟩ = some (.slice (some ⟨R, 0, none⟩) ls.length ls.length) := by rw [cell_of_row w g 0 _ _ _ h.box]; rfl
theorem Bi.at_ (h : Bi w g R us ls) {i : Nat} (hi : i < ls.length) : w.cell? ⟨R, i, none⟩ = some (us.getD i nl) := by
  rw [cell_of_row w R i _ _ _ h.row]
  have : i < us.length := by rw [h.len]; exact hi
  simp [List.getD_eq_getElem?_getD, this]
theorem Bi.free (h : Bi w g R us ls) (i : Nat) : w.frozen? ⟨R, i, none⟩ = false := frozen_of_row w R i _ _ h.row
theorem Bi.off (h : Bi w g R us ls) {i : Nat} (hi : i < ls.length) : (us.getD i nl).ownBlock ≠ some g ∧ (us.getD i nl).ownBlock ≠ some R :=
  ⟨(h.each i hi).off h.box (fun cs z => by simp), (h.each i hi).off h.row (fun cs z => by simp)⟩
theorem Bi.ne (h : Bi w g R us ls) : g ≠ R := ty_ne h.box h.row (by decide)
theorem set_same {us : List Value} {k : Nat} (v : Value) (h : k < us.length) : (us.set k v).getD k nl = v := by
  rw [List.getD_eq_getElem?_getD, List.getElem?_set]
  simp [h]
theorem set_else {us : List Value} {k i : Nat} (v : Value) (h : k ≠ i) : (us.set k v).getD i nl = us.getD i nl := by
  rw [List.getD_eq_getElem?_getD, List.getElem?_set, if_neg h, ← List.getD_eq_getElem?_getD]
theorem lset_same {ls : List (List Int)} {k : Nat} (v : List Int) (h : k < ls.length) : (ls.set k v).getD k [] = v := by
  rw [List.getD_eq_getElem?_getD, List.getElem?_set]
  simp [h]
theorem lset_else {ls : List (List Int)} {k i : Nat} (v : List Int) (h : k ≠ i) : (ls.set k v).getD i [] = ls.getD i [] := by
  rw [List.getD_eq_getElem?_getD, List.getElem?_set, if_neg h, ← List.getD_eq_getElem?_getD]
theorem Bi.put {W : World} (h : Bi w g R us ls) {k : Nat} (hk : k < ls.length) {v : Value} {l : List Int} (hl : Li W v l) (hg : w.grownBy W (us.getD k nl).ownBlock)
    (hb : ∀ b, v.ownBlock = some b → (us.getD k nl).ownBlock = some b ∨ w.heap.size ≤ b) (hw : Wl l) :
    Bi (W.setCell ⟨R, k, none⟩ v) g R (us.set k v) (ls.set k l) := by
  obtain ⟨o1, o2⟩ := h.off hk
  have e1 : W.heap[g]? = _ := (hg.block g h.g_lt (Ne.symm o1)).trans h.box
  have e2 : W.heap[R]? = _ := (hg.block R h.R_lt (Ne.symm o2)).trans h.row
  have e3 := heap_setCell_same W R k _ _ v e2
  have e4 : (W.setCell ⟨R, k, none⟩ v).heap[g]? = _ := (heap_setCell_other W ⟨R, k, none⟩ g v (fun e => h.ne (by simpa using e))).trans e1
  refine ⟨by rw [e4, List.length_set], by rw [e3, List.setIfInBounds_toArray], by simpa using h.len, h.ok.set k hw, fun i hi => ?_, fun i j hi hj hij b => ?_⟩
  · rw [List.length_set] at hi
    have GS := grown_set W R k v
    by_cases e : k = i
    · subst e
      rw [set_same v (by rw [h.len]; exact hk), lset_same l hk]
      exact hl.kept GS (.inr (hl.off e2 (fun cs z => by simp)))
    · rw [set_else v e, lset_else l e]
      have a := (h.each i hi).kept hg (by
        rcases hq : (us.getD i nl).ownBlock with _ | q
        · exact .inl rfl
        · exact .inr fun e' => h.apart i k hi hk (Ne.symm e) q hq e'.symm)
      exact a.kept GS (.inr (h.off hi).2)
  · rw [List.length_set] at hi hj
    have lt : ∀ i, i < ls.length → ∀ b, (us.getD i nl).ownBlock = some b → b < w.heap.size := fun i hi b e => (h.each i hi).lt b e
    by_cases e : k = i
    · subst e
      rw [set_same v (by rw [h.len]; exact hk), set_else v hij]
      intro hb1 hb2
      rcases hb b hb1 with h1 | h1
      · exact h.apart k j hi hj hij b h1 hb2
      · have := lt j hj b hb2
        omega
    · by_cases e' : k = j
      · subst e'
        rw [set_same v (by rw [h.len]; exact hk), set_else v e]
        intro hb1 hb2
        rcases hb b hb2 with h1 | h1
        · exact h.apart i k hi hj hij b hb1 h1
        · have := lt i hi b hb1
          omega
      · rw [set_else v e, set_else v e']
        exact h.apart i j hi hj hij b
end
def Bf (w : World) (K : List Nat) (g : Nat) (ls : List (List Int)) : Prop := ∃ R us, Bi w g R us ls ∧ K = ks g R us
section
variable {w w' : World} {g : Nat} {ls : List (List Int)} {K L : List Nat}
theorem Bf.lt (h : Bf w K g ls) : ∀ k, k ∈ K → k < w.heap.size := by obtain ⟨R, us, h, rfl⟩ := h; exact h.lt
theorem Bf.gr (h : Bf w K g ls) (hg : Gr L w w') (hL : ∀ k, k ∈ K → k ∉ L) : Bf w' K g ls := by obtain ⟨R, us, h, rfl⟩ := h; exact ⟨R, us, h.gr hg hL, rfl⟩
theorem Bf.ok (h : Bf w K g ls) : Ok ls := by obtain ⟨R, us, h, _⟩ := h; exact h.ok
end
end Go.Proofs.YtkgdcgmbapchcaaGreatDoor.bf
namespace Go.Proofs.YtkgdcgmbapchcaaGreatDoor.bf
open Go.ChangeShapes Go.WideShapes Go.ChangeAt Go.RowKit gen li
set_option linter.unusedVariables false
set_option maxHeartbeats 4000000
set_option maxRecDepth 100000
def Nb (w : World) (p : Option Addr) : Prop := p = none ∨ ∃ g, p = some ⟨g, 0, none⟩ ∧ w.cell? ⟨g, 0, none⟩ = some (.slice none 0 0)
def hs (n : Nat) (t : Int) : Bool := decide (0 ≤ t ∧ t < (n : Int))
section
variable {w w' : World} {g R : Nat} {us : List Value} {ls : List (List Int)} {p : Option Addr} {K : List Nat}
theorem all_nb (h : Nb w p) : Calls Tryz.prog 203 #[.pointer p] w fun r w' => r = .returned (.slice none 0 0) ∧ w = w' := by
  rcases h with rfl | ⟨g, rfl, hc⟩
  · go_enter Tryz.func203, Tryz.ntmps203
    go_wp2
    go_ret
    exact ⟨rfl, rfl⟩
  · go_enter Tryz.func203, Tryz.ntmps203
    go_wp2
    go_ret
    exact ⟨rfl, rfl⟩
theorem all_any (h : Bi w g R us ls) : Calls Tryz.prog 203 #[.pointer (some ⟨g, 0, none⟩)] w fun r w' => r = .returned (.slice (some ⟨R, 0, none⟩) ls.length ls.length) ∧ w = w' := by
  have c := h.c0
  generalize ls.length = n at c
  clear h
  go_enter Tryz.func203, Tryz.ntmps203
  go_wp2
  go_ret
  exact ⟨rfl, rfl⟩
theorem has_nb (h : Nb w p) (t : Int) : Calls Tryz.prog 135 #[.pointer p, .int .i64 t] w fun r w' => r = .returned (.bool false) ∧ w = w' := by
  have HA := Lib.hid (all_nb h)
  clear h
  by_cases h1 : t < 0
  · have t1 : decide (t ≥ 0) = false := by simpa using h1
    have t1' : decide ((0 : Int) ≤ t) = false := by simpa using h1
    go_enter Tryz.func135, Tryz.ntmps135
    go_wp2
    go_ret
    exact ⟨rfl, rfl⟩
  · have t1 : decide ((0 : Int) ≤ t) = true := by simpa using h1
    have t2 : decide (t < (0 : Int)) = false := by simpa using h1
    go_enter Tryz.func135, Tryz.ntmps135
    go_wp2_with (go_at_call 203; (with_reducible refine HA.out.mono ?_); rintro r w' ⟨rfl, rfl⟩)
    go_ret
    exact ⟨rfl, rfl⟩
theorem has_any (h : Bi w g R us ls) (t : Int) : Calls Tryz.prog 135 #[.pointer (some ⟨g, 0, none⟩), .int .i64 t] w fun r w' => r = .returned (.bool (hs ls.length t)) ∧ w = w' := by
  have HA := Lib.hid (all_any h)
  have HH := Lib.hid (show hs ls.length t = decide (0 ≤ t ∧ t < (ls.length : Int)) from rfl)
  generalize hs ls.length t = q at HH
  generalize ls.length = n at HA HH
  clear h
  by_cases h1 : t < 0
  · have t1 : decide (t ≥ 0) = false := by simpa using h1
    have t1' : decide ((0 : Int) ≤ t) = false := by simpa using h1
    go_enter Tryz.func135, Tryz.ntmps135
    go_wp2
    go_ret
    exact ⟨by rw [HH.out, decide_eq_false (by omega)]; rfl, rfl⟩
  · have t1 : decide ((0 : Int) ≤ t) = true := by simpa using h1
    by_cases h2 : t < n
    · have t2 : decide (t < (n : Int)) = true := by simpa using h2
      go_enter Tryz.func135, Tryz.ntmps135
      go_wp2_with (go_at_call 203; (with_reducible refine HA.out.mono ?_); rintro r w' ⟨rfl, rfl⟩)
      go_ret
      exact ⟨by rw [HH.out, decide_eq_true (by omega)]; rfl, rfl⟩
    · have t2 : decide (t < (n : Int)) = false := by simpa using h2
      go_enter Tryz.func135, Tryz.ntmps135
      go_wp2_with (go_at_call 203; (with_reducible refine HA.out.mono ?_); rintro r w' ⟨rfl, rfl⟩)
      go_ret
      exact ⟨by rw [HH.out, decide_eq_false (by omega)]; rfl, rfl⟩
theorem hs_in {n k : Nat} (h : k < n) : hs n k = true := decide_eq_true (by omega)
theorem empty1_any (A : Option Addr) (m c : Nat) (w : World) : Calls Tryz.prog 253 #[.slice A m c] w fun r w' => r = .returned (.bool (decide ((0 : Int) < (m : Int)))) ∧ w = w' := by
  go_enter Tryz.func253, Tryz.ntmps253
  go_wp2
  go_ret
  exact ⟨by simp, rfl⟩
theorem IndexFunc_any (h : Bi w g R us ls) : Calls Tryz.prog 287 #[.slice (some ⟨R, 0, none⟩) ls.length ls.length, .func (.func 253) #[] #[]] w fun e w' => ∃ r : Int, e = .returned (.int .i64 r) ∧ decide (0 ≤ r) = decide (tot ls ≠ 0) ∧ w' = w := by
  have H := Lib.hid h
  obtain ⟨n, hn⟩ : ∃ n, n = ls.length := ⟨_, rfl⟩
  have h8 := h.ok.1
  have HN := Lib.hid hn
  rw [← hn]
  rw [← hn] at h8
  clear h hn
  go_enter Tryz.func287, Tryz.ntmps287
  go_wp2
  go_loopw [8] (fun i wr => ∃ k : Nat, k ≤ n ∧ i = .int .i64 k ∧ tot (ls.take k) = 0 ∧ wr = w) (fun i _ => n - (intOf i).toNat)
  case atStart => exact ⟨0, Nat.zero_le _, rfl, by simp [tot], rfl⟩
  case round =>
    obtain ⟨k, hk, rfl, hz, hw⟩ := hrel
    subst hw
    have HZ := Lib.hid hz
    clear hz
    by_cases hlt : k < n
    · have hkl : k < ls.length := by rw [← HN.out]; exact hlt
      have HK := Lib.hid hkl
      have c1 := H.out.at_ hkl
      obtain ⟨A, c, e⟩ := (H.out.each k hkl).shape
      rw [e] at c1
      generalize hm : (ls.getD k []).length = m at c1
      have HM := Lib.hid hm
      have k0 : (0 : Int) ≤ (k : Int) := by omega
      have k1 : (k : Int) < (n : Int) := by omega
      clear e hkl hm
      by_cases he : m = 0
      · have E0 := empty1_any A m c wr
        rw [show decide ((0 : Int) < (m : Int)) = false from decide_eq_false (by omega)] at E0
        have E1 := Lib.hid E0
        clear E0
        have HE := Lib.hid he
        clear he
        go_wp2_with (go_at_call 253; (with_reducible refine E1.out.mono ?_); rintro r w' ⟨rfl, rfl⟩)
        go_roundw
        case rel => exact ⟨k + 1, by omega, by go_num, by rw [tot_more HK.out, HZ.out, HM.out, HE.out], trivial⟩
        case measure => simp [intOf]; omega
      · have E0 := empty1_any A m c wr
        rw [show decide ((0 : Int) < (m : Int)) = true from decide_eq_true (by omega)] at E0
        have E1 := Lib.hid E0
        clear E0
        have HE := Lib.hid he
        clear he
        go_wp2_with (go_at_call 253; (with_reducible refine E1.out.mono ?_); rintro r w' ⟨rfl, rfl⟩)
        go_ret
        exact ⟨k, rfl, by rw [decide_eq_true (tot_zero HK.out (by rw [HM.out]; exact HE.out)), decide_eq_true (by omega)], rfl⟩
    · obtain rfl : k = n := by omega
      go_wp2
      go_ret
      have hz := HZ.out
      rw [tot_all (by rw [HN.out]; exact Nat.le_refl _)] at hz
      exact ⟨-1, rfl, by rw [hz]; rfl, rfl⟩
theorem ContainsFunc_any (h : Bi w g R us ls) : Calls Tryz.prog 252 #[.slice (some ⟨R, 0, none⟩) ls.length ls.length, .func (.func 253) #[] #[]] w fun e w' => e = .returned (.bool (decide (tot ls ≠ 0))) ∧ w' = w := by
  have H := Lib.hid (IndexFunc_any h)
  clear h
  generalize decide (tot ls ≠ 0) = b at *
  generalize ls.length = n at *
  go_enter Tryz.func252, Tryz.ntmps252
  go_wp2_with (go_at_call 287; (with_reducible refine H.out.mono ?_); rintro e w' ⟨r, rfl, hr, rfl⟩; subst hr)
  all_goals
    go_ret
    exact ⟨by simp [*], rfl⟩
theorem Empty_any (h : Bf w K g ls) : Calls Tryz.prog 206 #[.pointer (some ⟨g, 0, none⟩)] w fun r w' => r = .returned (.bool (decide (tot ls = 0))) ∧ w = w' := by
  obtain ⟨R, us, h, _⟩ := h
  have HA := Lib.hid (all_any h)
  have HC := Lib.hid (ContainsFunc_any h)
  have HD := Lib.hid (show (!decide (tot ls ≠ 0)) = decide (tot ls = 0) by by_cases e : tot ls = 0 <;> simp [e])
  clear h
  generalize decide (tot ls ≠ 0) = b at *
  generalize ls.length = n at *
  generalize decide (tot ls = 0) = b2 at *
  go_enter Tryz.func206, Tryz.ntmps206
  go_wp2_with (first
    | (go_at_call 203; (with_reducible refine HA.out.mono ?_); rintro r w' ⟨rfl, rfl⟩)
    | (go_at_call 252; (with_reducible refine HC.out.mono ?_); rintro r w' ⟨rfl, rfl⟩))
  go_ret
  exact ⟨by rw [← HD.out]; rfl, rfl⟩
end
end Go.Proofs.YtkgdcgmbapchcaaGreatDoor.bf
namespace Go.Proofs.YtkgdcgmbapchcaaGreatDoor.bf
open Go.ChangeShapes Go.WideShapes Go.ChangeAt Go.RowKit gen li
set_option linter.unusedVariables false
set_option maxHeartbeats 4000000
set_option maxRecDepth 100000
section
variable {w w' : World} {g R : Nat} {us : List Value} {ls : List (List Int)} {p : Option Addr} {K : List Nat}
end
end Go.Proofs.YtkgdcgmbapchcaaGreatDoor.bf
namespace Go.Proofs.YtkgdcgmbapchcaaGreatDoor.bf
open Go.ChangeShapes Go.WideShapes Go.ChangeAt Go.RowKit gen li
set_option linter.unusedVariables false
set_option maxHeartbeats 4000000
set_option maxRecDepth 100000
def near (n a b : Int) : Int := if n < a then a else if b < n then b else n
theorem ret_int {a b : Int} (h : a = b) : Ending.returned (.int .i64 a) = .returned (.int .i64 b) := by rw [h]
theorem Clamp_any (n a b : Int) (w : World) : Calls Tryz.prog 104 #[.int .i64 n, .int .i64 a, .int .i64 b] w fun e w' => e = .returned (.int .i64 (near n a b)) ∧ w = w' := by
  by_cases h : n < a
  · go_enter Tryz.func104, Tryz.ntmps104
    go_wp2
    go_ret
    exact ⟨by simp [near, h], rfl⟩
  by_cases h2 : b < n
  all_goals
    go_enter Tryz.func104, Tryz.ntmps104
    go_wp2
    go_ret
    exact ⟨ret_int (by unfold near; repeat' split
                       all_goals omega), rfl⟩
theorem info_list : (Tryz.prog.info? 41).map (fun i => (i.zero, i.size, i.bytes)) = some (some (.slice none 0 0), 1, 24) := by kernel_rfl
theorem madeCells_rep (z : Value) (n : Nat) : madeCells #[z] n = (List.replicate n z).toArray := by
  apply Array.ext'
  rw [toList_madeCells_one]
theorem make_lists (n : Nat) (hn : n ≤ 8) (w : World) :
    (Instr.makeSlice 129 (.int .i64 (n : Int)) (.int .i64 (n : Int))).run Tryz.prog w = .ok (.slice (some ⟨w.heap.size, 0, none⟩) n n) (w.alloc (.cells (List.replicate n nl).toArray 41)) := by
  obtain ⟨i0, hi, hz0, hz1, hz2⟩ := info_parts info_list
  have h := run_make (P := Tryz.prog) w 129 41 i0 _ Tryz.underlying129 hi hz0 .i64 .i64 n n (by omega) (Int.le_refl _) (by rw [hz2]; omega) (by omega)
  rw [h]
  simp only [Int.toNat_natCast, hz1, Nat.mul_one]
  rw [show (nl : Value).cells = #[nl] from rfl, madeCells_rep]
theorem rep_at {n i : Nat} : (List.replicate n nl).getD i nl = nl := by
  rw [List.getD_eq_getElem?_getD, List.getElem?_replicate]
  split <;> rfl
theorem lrep_at {n i : Nat} : (List.replicate n ([] : List Int)).getD i [] = [] := by
  rw [List.getD_eq_getElem?_getD, List.getElem?_replicate]
  split <;> rfl
theorem Bi.fresh (w : World) {k : Nat} (h : k ≤ 8) : Bi ((w.alloc (.cells (List.replicate k nl).toArray 41)).alloc (.cells #[.slice (some ⟨w.heap.size, 0, none⟩) k k] 131)) (w.heap.size + 1) w.heap.size (List.replicate k nl) (List.replicate k []) := by
  have hsz : (w.alloc (.cells (List.replicate k nl).toArray 41)).heap.size = w.heap.size + 1 := by simp
  refine ⟨?_, ?_, by simp, Ok.rep h, fun i hi => ?_, fun i j hi hj hij b e => ?_⟩
  · rw [← hsz, heap_alloc_new, List.length_replicate]
  · rw [Below.heap_alloc _ _ _ (by omega), heap_alloc_new]
  · rw [rep_at, lrep_at]
    exact Li.nil _
  · rw [rep_at] at e
    cases e
def NewA (ls : List (List Int)) (w : World) (r : Ending) (w' : World) : Prop := ∃ g K, r = .returned (.pointer (some ⟨g, 0, none⟩)) ∧ Bf w' K g ls ∧ (∀ q, q ∈ K → w.heap.size ≤ q) ∧ w.grownBy w' none
theorem ks_new {w : World} {k : Nat} : ∀ q, q ∈ ks (w.heap.size + 1) w.heap.size (List.replicate k nl) → w.heap.size ≤ q := fun q hq => by
  rcases ks_of hq with rfl | rfl | ⟨i, hi, e⟩
  · omega
  · exact Nat.le_refl _
  · rw [rep_at] at e
    cases e
theorem New_at (n : Int) (k : Nat) (hk : near n 0 8 = k) (h8 : k ≤ 8) (w : World) : Calls Tryz.prog 48 #[.int .i64 n] w fun r w' => r = .returned (.pointer (some ⟨w.heap.size + 1, 0, none⟩)) ∧ Bi w' (w.heap.size + 1) w.heap.size (List.replicate k nl) (List.replicate k []) ∧ w.grownBy w' none := by
  have HK := Lib.hid hk
  have mk := make_lists k h8
  have FR := Lib.hid (Bi.fresh w h8)
  have H8 := Lib.hid h8
  clear hk
  generalize (List.replicate k nl).toArray = cs at mk FR
  go_enter Tryz.func48, Tryz.ntmps48
  go_wp2_with (go_at_call 104; (with_reducible refine (Clamp_any _ _ _ _).mono ?_); rintro e w' ⟨rfl, rfl⟩; rw [HK.out])
  go_ret
  exact ⟨rfl, FR.out, (World.grownBy_alloc _ _ _).trans (World.grownBy_alloc _ _ _)⟩
theorem New_any (n : Int) (k : Nat) (hk : near n 0 8 = k) (h8 : k ≤ 8) (w : World) : Calls Tryz.prog 48 #[.int .i64 n] w (NewA (List.replicate k []) w) := by
  refine (New_at n k hk h8 w).mono ?_
  rintro r w' ⟨rfl, hb, hg⟩
  exact ⟨_, _, rfl, ⟨_, _, hb, rfl⟩, ks_new, hg⟩
def TakeA (K : List Nat) (g : Nat) (l : List Int) (ls : List (List Int)) (w : World) (r : Ending) (w' : World) : Prop :=
  ∃ A N c K', r = .returned (.slice A N c) ∧ N = l.length ∧ Li w' (.slice A N c) l ∧ (∀ q, q ∈ K' → q ∈ K) ∧ (∀ q, (Value.slice A N c).ownBlock = some q → q ∉ K') ∧ Bf w' K' g ls ∧ Gr K' w w'
section
variable {w w' : World} {g R : Nat} {us : List Value} {ls : List (List Int)} {p : Option Addr} {K : List Nat}
theorem Bi.let_go (h : Bi w g R us ls) {k : Nat} (hk : k < ls.length) : ∀ q, (us.getD k nl).ownBlock = some q → q ∉ ks g R (us.set k nl) := fun q e hq => by
  obtain ⟨o1, o2⟩ := h.off hk
  rcases ks_of hq with rfl | rfl | ⟨i, hi, e2⟩
  · exact o1 e
  · exact o2 e
  · rw [List.length_set, h.len] at hi
    by_cases e' : k = i
    · subst e'
      rw [set_same nl (by rw [h.len]; exact hk)] at e2
      cases e2
    · rw [set_else nl e'] at e2
      exact h.apart k i hk hi e' q e e2
theorem ks_less {k : Nat} (h : k < us.length) : ∀ q, q ∈ ks g R (us.set k nl) → q ∈ ks g R us := fun q hq => by
  rcases ks_of hq with rfl | rfl | ⟨i, hi, e2⟩
  · simp [ks]
  · simp [ks]
  · rw [List.length_set] at hi
    by_cases e' : k = i
    · subst e'
      rw [set_same nl h] at e2
      cases e2
    · rw [set_else nl e'] at e2
      exact ks_at hi e2
theorem Take_in (h : Bf w K g ls) (k : Nat) (hk : k < ls.length) : Calls Tryz.prog 71 #[.pointer (some ⟨g, 0, none⟩), .int .i64 (k : Int)] w (TakeA K g (ls.getD k []) (ls.set k []) w) := by
  obtain ⟨R, us, h, rfl⟩ := h
  have HA := has_any h k
  rw [hs_in hk] at HA
  have c0 := h.c0
  have c1 := h.at_ hk
  obtain ⟨A, c, e⟩ := (h.each k hk).shape
  have HL := h.each k hk
  have h8 := h.ok.1
  have HP := Lib.hid (h.put hk (Li.nil w) (World.grownBy.refl _ _) (fun b e => by cases e) Wl.nil)
  have HX := h.let_go hk
  have HY := Lib.hid (ks_less (g := g) (R := R) (k := k) (us := us) (by rw [h.len]; exact hk))
  have HZ := Lib.hid ((h.each k hk).off h.row (fun cs z => by simp))
  have fz := h.free k
  have rlt := h.R_lt
  rw [e] at c1 HL HX HZ
  have HX := Lib.hid HX
  have HL := Lib.hid HL
  have HB := Lib.hid HA
  clear HA e h
  obtain ⟨m, hm⟩ : ∃ m, m = (ls.getD k []).length := ⟨_, rfl⟩
  rw [← hm] at c1 HL HX HZ
  have HM := Lib.hid hm
  clear hm
  generalize ls.length = n at *
  have k0 : (0 : Int) ≤ (k : Int) := by omega
  have k1 : (k : Int) < (n : Int) := by omega
  go_enter Tryz.func71, Tryz.ntmps71
  go_wp2_with (go_at_call 135; (with_reducible refine HB.out.mono ?_); rintro r w' ⟨rfl, rfl⟩)
  go_ret
  exact ⟨A, m, c, _, rfl, HM.out, HL.out.kept (grown_set _ _ _ _) (.inr HZ.out), HY.out, HX.out, ⟨R, _, HP.out, rfl⟩, .one (grown_set _ _ _ _) (by simp [ks])⟩
def cl (ls : List (List Int)) (k : Nat) : List (List Int) := List.replicate k [] ++ ls.drop k
theorem cl_zero (ls : List (List Int)) : cl ls 0 = ls := by simp [cl]
theorem cl_all (ls : List (List Int)) : cl ls ls.length = List.replicate ls.length [] := by simp [cl]
theorem cl_length {ls : List (List Int)} {k : Nat} (h : k ≤ ls.length) : (cl ls k).length = ls.length := by simp [cl]; omega
theorem cl_at {ls : List (List Int)} {k : Nat} : (cl ls k).getD k [] = ls.getD k [] := by
  unfold cl
  rw [List.getD_eq_getElem?_getD, List.getElem?_append_right (by simp)]
  simp [List.getD_eq_getElem?_getD]
theorem cl_set {ls : List (List Int)} {k : Nat} (h : k < ls.length) : (cl ls k).set k [] = cl ls (k + 1) := by
  unfold cl
  rw [List.set_append_right _ _ (by simp), List.length_replicate, Nat.sub_self, List.drop_eq_getElem_cons h, List.set_cons_zero, List.replicate_succ', List.append_assoc]
  rfl
def ClearA (K : List Nat) (g : Nat) (ls : List (List Int)) (w : World) (r : Ending) (w' : World) : Prop :=
  ∃ K', r = .returned (.int .i64 (tot ls : Int)) ∧ (∀ q, q ∈ K' → q ∈ K) ∧ Bf w' K' g (List.replicate ls.length []) ∧ Gr K w w'
theorem Clear_any (h : Bf w K g ls) : Calls Tryz.prog 205 #[.pointer (some ⟨g, 0, none⟩)] w (ClearA K g ls w) := by
  have hok := h.ok
  have H := Lib.hid h
  obtain ⟨R, us, hb, _⟩ := h
  have HA := Lib.hid (all_any hb)
  obtain ⟨n, hn⟩ : ∃ n, n = ls.length := ⟨_, rfl⟩
  rw [← hn] at HA
  have h8 : n ≤ 8 := by rw [hn]; exact hok.1
  have HN := Lib.hid hn
  have OK := Lib.hid hok
  clear hb hn hok
  go_enter Tryz.func205, Tryz.ntmps205
  go_wp2_with (go_at_call 203; (with_reducible refine HA.out.mono ?_); rintro r w' ⟨rfl, hw⟩; subst hw)
  go_loopw [3, 8] (fun s i wr => ∃ (k : Nat) (K' : List Nat), k ≤ n ∧ i = .int .i64 k ∧ s = .int .i64 (tot (ls.take k) : Int) ∧ (∀ q, q ∈ K' → q ∈ K) ∧ Bf wr K' g (cl ls k) ∧ Gr K w wr) (fun _ i _ => n - (intOf i).toNat)
  case atStart => exact ⟨0, K, Nat.zero_le _, rfl, by simp [tot], fun _ h => h, by rw [cl_zero]; exact H.out, Gr.refl _ _⟩
  case round =>
    obtain ⟨k, K', hk, rfl, rfl, hK, hb, hg⟩ := hrel
    have HK := Lib.hid hK
    have HB := Lib.hid hb
    have HG := Lib.hid hg
    clear hK hb hg
    by_cases hlt : k < n
    · have hkl : k < ls.length := by rw [← HN.out]; exact hlt
      have HKL := Lib.hid hkl
      have TA := Lib.hid (Take_in HB.out k (by rw [cl_length (Nat.le_of_lt hkl)]; exact hkl))
      rw [cl_at, cl_set hkl] at TA
      have t1 := tot_le OK.out k (by omega)
      have l1 := OK.out.le k
      have T2 := Lib.hid (tot_more hkl)
      clear hkl
      generalize tot (ls.take k) = s at *
      generalize hl : ls.getD k [] = l at *
      obtain ⟨m, hm⟩ : ∃ m, m = l.length := ⟨_, rfl⟩
      rw [← hm] at T2 l1
      have HM := Lib.hid hm
      clear hl hm
      go_wp2_with (go_at_call 71; (with_reducible refine TA.out.mono ?_); rintro r w2 ⟨A, N, c, K2, rfl, hN, _, hK2, _, hb2, hg2⟩; obtain rfl : N = m := hN.trans HM.out.symm; have HB2 := Lib.hid hb2; have HK2 := Lib.hid hK2; have HG2 := Lib.hid hg2; clear hN hK2 hb2 hg2)
      go_roundw
      case rel => exact ⟨k + 1, K2, by omega, by go_num, by rw [T2.out]; go_num, fun q h => HK.out q (HK2.out q h), HB2.out, HG.out.trans (HG2.out.mono (fun q h => HK.out q (HK2.out q h)))⟩
      case measure => simp [intOf]; omega
    · obtain rfl : k = n := by omega
      go_wp2
      go_ret
      have hb := HB.out
      have hn := HN.out
      subst hn
      rw [cl_all] at hb
      exact ⟨K', by rw [tot_all (Nat.le_refl _)]; rfl, HK.out, hb, HG.out⟩
end
end Go.Proofs.YtkgdcgmbapchcaaGreatDoor.bf
