/- The program's cache: All, Clone. -/
import Derived.Test.YtagahkofjgbfhaaCaF
import Derived.Sort.MapsRangeIn
import Derived.RangeFuncGives
import Derived.Shelf.AbstractIn
import Derived.OwnWalkIn
import Derived.TacticsInMore
import Derived.RegionIn
import Derived.LoopNIn
import Derived.LoopIn
namespace Go.Proofs.Ytagahkofjgbfhaa.ca
open Go.ChangeShapes Go.WideShapes Go.ChangeAt Go.RowKit Go.Maps gen calls cls Go.Sort
set_option linter.unusedVariables false
set_option maxHeartbeats 4000000
set_option maxRecDepth 100000
theorem below_grown {w w' : World} (h : Below w.heap.size w w') : w.grownBy w' none := ⟨h.os, h.tape, h.output, h.size, fun i hi _ => h.block i hi⟩
/-- What has come so far. -/
structure Come (m : List Ow) (left : Lit → Bool) (ps : List Ow) : Prop where
  nodup : ps.Nodup
  sub : ∀ x ∈ ps, x ∈ m
  all : ∀ x ∈ m, left (kl x.1 x.2.1) = true ∨ x ∈ ps
  out : ∀ x ∈ ps, left (kl x.1 x.2.1) = false
section
variable {w w' : World} {c mb n : Nat} {m ps : List Ow} {D : DataW Unit} {left : Lit → Bool}
theorem Come.step (P : Come m left ps) (G : Good n m) (hn : n ≤ 9) {x : Ow} (hx : x ∈ m) (hl : left (kl x.1 x.2.1) = true) : Come m (fun z => left z && !z.sameKey (kl x.1 x.2.1)) (ps ++ [x]) := by
  have hg : x ∉ ps := fun h => by rw [P.out x h] at hl; cases hl
  refine ⟨?_, fun y hy => ?_, strike (Q := fun x => x ∈ ps ++ _) G hn (fun y hy => (P.all y hy).imp id (fun h => List.mem_append.2 (.inl h))) hx (by simp), fun y hy => ?_⟩
  · rw [List.nodup_append]
    refine ⟨P.nodup, by simp, fun a ha b hb e => ?_⟩
    simp at hb
    subst e hb
    exact hg ha
  · rcases List.mem_append.1 hy with hy | hy
    · exact P.sub y hy
    · simp at hy
      subst hy
      exact hx
  · rcases List.mem_append.1 hy with hy | hy
    · rw [P.out y hy]; rfl
    · simp at hy
      subst hy
      rw [WideAt.sameKey_self (kl_key _ _)]
      simp
theorem Come.perm (P : Come m left ps) (G : Good n m) (hl : ∀ l, left l = false) : (ps.map (·.2.2)).Perm (m.map (·.2.2)) := by
  have nd : m.Nodup := G.keys.imp (fun {a b} h e => h (by subst e; exact ⟨rfl, rfl⟩))
  refine List.Perm.map _ ((List.perm_ext_iff_of_nodup P.nodup nd).2 fun x => ?_)
  exact ⟨P.sub x, fun hx => (P.all x hx).resolve_left (by rw [hl]; simp)⟩
theorem pages_nodup (G : Good n m) : (m.map (·.2.2)).Nodup := List.pairwise_map.2 G.pages
set_option maxHeartbeats 4000000 in
theorem values1 (k l Bm : Nat) (hk : 1 ≤ k) (T : Tells D m) (G : Good n m) (hn : n ≤ 9) (J : List Int → World → Prop)
    (hY : ∀ pre x W, J pre W → pre.length < m.length → YieldAt Fence.wide (k - 1) Try.prog l #[encZ x] W fun e W' => e = .returned (.bool true) ∧ J (pre ++ [x]) W' ∧ KeepsWalks W W')
    (W : World) (hJ : AbidesFrom W.heap.size J) (hm : W.cell? ⟨Bm, 0, none⟩ = some (.map (some mb))) (hown : Own W mb m.length D) (h0 : J [] W) :
    CallsIn Fence.wide k Try.prog 36 #[.func (.yield l) #[] #[], .pointer (some ⟨Bm, 0, none⟩)] W fun e W' => (∃ v, e = .returned v) ∧ ∃ ss : List Int, ss.Perm (m.map (·.2.2)) ∧ J ss W' := by
  have hsz := T.size
  refine callsIn_of_wp Try.func36 rfl trivial ?_ rfl
  simp only [Try.ntmps36, List.size_toArray, List.length_cons, List.length_nil, Nat.reduceAdd, Nat.reduceSub, Array.replicate_succ, Array.replicate_zero, List.push_toArray, List.append_toArray, List.nil_append, List.cons_append]
  gi_wp2_with (first
    | (gi_at_range; refine wpListIn_range_own _ rfl _ 44 rfl 55 3 klaw Try.underlying44 _ mb _ _ rfl hown ?_; intro w0 hrg0 hg0 hs0)
    | gi_in)
  go_frame
  gi_loopw [4] (fun _ wr => ∃ (left : Lit → Bool) (cnt : Nat) (ps : List Ow), wr.ranges Try.prog 55 (plainElem Try.prog 3) mb W.heap.size m.length D left cnt ∧ ps.length + cnt ≤ m.length ∧ Come m left ps ∧ J (ps.map (·.2.2)) wr)
    (fun _ wr => wr.rangeLeft mb W.heap.size)
  case atStart =>
    exact ⟨_, _, [], hrg0, by simp [hsz], ⟨.nil, fun x hx => by simp at hx, fun x hx => .inl ((T.has x.1 x.2.1 (G.fit hn hx).1 (G.fit hn hx).2.1).2 ⟨_, hx⟩), fun x hx => by simp at hx⟩, hJ [] W w0 none h0 hg0 (fun r e => by cases e)⟩
  case round =>
    obtain ⟨left, cnt, ps, hrg, hcs, hC, hJs⟩ := hrel
    gi_wp2_with (first
      | (gi_at_next; refine wpListIn_next_ranges _ rfl _ rfl 55 klaw (plainElem Try.prog 3) (fun x : Int × Int => .agg #[.int .i64 x.1, .int .i64 x.2]) encZ invK invV mb W.heap.size m.length _ _ _ rfl hrg ?_ ?_)
      | gi_in)
    · intro hc0 hl0
      gi_wp2
      go_end0
      exact ⟨⟨_, rfl⟩, _, hC.perm G hl0, hJs⟩
    · intro x1 x2 z kz yd yp w2 cnt2 hkey hlk hv hat hrg2 hlt hg2 hs2 hen
      obtain ⟨rfl, hx⟩ := met T (x := (x1, x2)) hkey hv hat
      have hJ2 : J (ps.map (·.2.2)) w2 := hJ _ wr w2 (some W.heap.size) hJs hg2 (fun r e => by cases e; exact ⟨Nat.le_refl _, hrg.iter_walk⟩)
      have hC2 := hC.step G hn hx hlk
      obtain ⟨fn, tmps, assign, body, hy, hR⟩ := hY (ps.map (·.2.2)) z w2 hJ2 (by rw [List.length_map]; omega)
      clear hs2
      gi_wp2
      refine hR.mono ?_
      rintro e W3 ⟨rfl, hJ3, hk3⟩
      gi_wp2
      have hrg3 := hrg2.of_walks hk3
      go_roundw
      case rel => exact ⟨_, cnt2, ps ++ [(x1, x2, z)], hrg3, by simp; omega, hC2, by simpa using hJ3⟩
      case measure => rw [hrg3.left_eq, hrg.left_eq]; exact hlt
theorem values_gives (C : At w c mb n m D) {Bm : Nat} (hm : w.cell? ⟨Bm, 0, none⟩ = some (.map (some mb))) (hB : Bm < w.heap.size) (k : Nat) (hk : 1 ≤ k) :
    SeqGives Fence.wide k Try.prog 36 #[.pointer (some ⟨Bm, 0, none⟩)] encZ (fun ss => ss.Perm (m.map (·.2.2))) m.length w := fun l J W hW hJ hY h0 => by
  have hown : Own W mb m.length D := (C.new (below_grown hW)).own
  exact values1 k l Bm hk C.tells C.good C.few J hY W hJ ((hW.cell (p := ⟨Bm, 0, none⟩) hB).trans hm) hown h0
theorem sorts (k : Nat) : AnyZI.SortsIn Try.prog Try.sorted_ren Fence.wide k :=
  ⟨fun blk off cap ss W h1 h2 h3 => callsIn_wide.2 (AnyM.slices_Sort_int Try.sort blk off cap ss W h1 h2 h3), fun p cap W => callsIn_wide.2 (AnyM.slices_Sort_int_none Try.sort p cap W)⟩
/-- A list that was made, of so many. -/
def LAns (L : List Int) (w : World) (e : Ending) (w' : World) : Prop := ∃ A N k, e = .returned (.slice A N k) ∧ N = L.length ∧ w'.ownsRow w.heap.size 3 1 (.slice A N k) N (bm.ints L) ∧ w.grownBy w' none
theorem Sorted_any (C : At w c mb n m D) {Bm : Nat} (hm : w.cell? ⟨Bm, 0, none⟩ = some (.map (some mb))) (hB : Bm < w.heap.size) :
    Calls Try.prog 25 #[.func (.func 36) #[] #[.pointer (some ⟨Bm, 0, none⟩)]] w (LAns (bm.rising (m.map (·.2.2))) w) := by
  have few := C.good.few
  refine (callsIn_wide (n := 5)).1 ?_
  have cS := AnyZI.sorted_in Try.sorted Fence.wide 5 trivial trivial trivial trivial rfl (by omega) (sorts _) (enters_of Try.func23 (by kernel_rfl) rfl) 36 #[.pointer (some ⟨Bm, 0, none⟩)] trivial
    (enters_of Try.func36 (by kernel_rfl) rfl) _ _ (by unfold maxLen; omega) (by omega) _ (values_gives C hm hB 2 (by omega))
  change CallsIn _ _ Try.prog 25 _ _ _ at cS
  refine cS.mono ?_
  rintro e w' ⟨v, ss, rfl, hS, hrow, hnil, hb⟩
  have sr : srt ss = bm.rising (m.map (·.2.2)) := srt_rising hS (hS.nodup_iff.2 (pages_nodup C.good))
  have hl : ss.length = (bm.rising (m.map (·.2.2))).length := by rw [← sr, srt_length]
  have hr2 : w'.ownsRow w.heap.size 3 1 v ss.length (bm.ints (srt ss)) := hrow
  rw [sr] at hr2
  rcases hr2.2 with ⟨rfl, hz⟩ | ⟨g, cap, cur, rfl, _⟩
  · exact ⟨none, 0, 0, rfl, by omega, by rw [hz] at hr2; exact hr2, below_grown hb⟩
  · exact ⟨_, _, _, rfl, hl, hr2, below_grown hb⟩
theorem Values_any (k : Nat) (w : World) :
    Calls Try.prog 26 #[.map (some k)] w fun e w' => e = .returned (.func (.func 36) #[] #[.pointer (some ⟨w.heap.size, 0, none⟩)]) ∧ w' = w.alloc (.cells #[.map (some k)] 44) := by
  go_enter Try.func26, Try.ntmps26
  go_wp2
  go_ret
  exact ⟨rfl, rfl⟩
theorem All_any (C : At w c mb n m D) : Calls Try.prog 16 #[.pointer (some ⟨c, 0, none⟩)] w (LAns (bm.rising (m.map (·.2.2))) w) := by
  have CC := Lib.hid C
  have fl := field_1 n mb
  clear C
  go_enter Try.func16, Try.ntmps16
  go_wp2_with (first
    | (go_at_call 22; (with_reducible refine (made_yes CC.out).mono ?_); rintro e w2 ⟨rfl, hg⟩; have G2 := Lib.hid hg; have C2 := Lib.hid (CC.out.new hg); clear hg)
    | (go_at_call 26; (with_reducible refine (Values_any _ _).mono ?_); rintro e w3 ⟨rfl, hw⟩; have G3 := Lib.hid (show w2.grownBy w3 none by rw [hw]; exact World.grownBy_alloc _ _ _); have B3 := Lib.hid (show w3.cell? ⟨w2.heap.size, 0, none⟩ = some (.map (some mb)) by rw [hw]; simp [go_sem]); have L3 := Lib.hid (show w2.heap.size < w3.heap.size by rw [hw]; simp); clear hw)
    | (go_at_call 25; (with_reducible refine (Sorted_any (C2.out.new G3.out) B3.out L3.out).mono ?_); rintro e w4 ⟨A, N, k, rfl, hN, ho, hg⟩; have HN := Lib.hid hN; have HO := Lib.hid ho; have G4 := Lib.hid hg; clear hN ho hg))
  go_ret
  exact ⟨A, N, k, rfl, HN.out, bm.own_mono HO.out (Nat.le_trans G2.out.size G3.out.size), G2.out.trans (G3.out.trans G4.out)⟩
theorem mclone_any (C : At w c mb n m D) : Calls Try.prog 27 #[.map (some mb)] w fun e w' => ∃ b, e = .returned (.map (some b)) ∧ Own w' b m.length D ∧ w.heap.size ≤ b ∧ w.grownBy w' none :=
  (AnyW.maps_Clone_owns Try.mclone 55 (plainElem Try.prog 3) mb m.length D w C.own).mono fun e w' ⟨h1, h2, h3, h4⟩ => ⟨w.heap.size, h1, h2, Nat.le_refl _, below_grown h4⟩
theorem Clone_any (C : At w c mb n m D) : Calls Try.prog 17 #[.pointer (some ⟨c, 0, none⟩)] w fun e w' => ∃ c2 b2, e = .returned (.pointer (some ⟨c2, 0, none⟩)) ∧ At w' c2 b2 n m D ∧ (w.heap.size ≤ c2 ∧ w.heap.size ≤ b2) ∧ w.grownBy w' none := by
  have CC := Lib.hid C
  have hq := fun w => run_eql_map_nil_sl (P := Try.prog) w 44 _ _ (some mb) Try.underlying44
  clear C
  go_enter Try.func17, Try.ntmps17
  go_wp2_with (first
    | (go_at_call 22; (with_reducible refine (made_yes CC.out).mono ?_); rintro e w2 ⟨rfl, hg⟩; have G2 := Lib.hid (hg.trans (World.grownBy_alloc w2 (.cells #[.int .i64 n, .map (some mb)] 46) none)); have C2 := Lib.hid (CC.out.new G2.out); have f0 := (show (w2.alloc (.cells #[.int .i64 n, .map (some mb)] 46)).cell? ⟨w2.heap.size, 0, none⟩ = some (.int .i64 n) ∧ (w2.alloc (.cells #[.int .i64 n, .map (some mb)] 46)).cell? ⟨w2.heap.size, 1, none⟩ = some (.map (some mb)) from ⟨by simp [go_sem], by simp [go_sem]⟩); have F0 := Lib.hid f0; clear hg))
  obtain ⟨w3, hw3⟩ : ∃ w3, w2.alloc (.cells #[.int .i64 n, .map (some mb)] 46) = w3 := ⟨_, rfl⟩
  have L3 := Lib.hid (show w2.heap.size < w3.heap.size by rw [← hw3]; simp)
  rw [hw3] at G2 C2 f0 F0 ⊢
  have L2 := Lib.hid G2.out.size
  clear hw3
  go_region_held3 (fun W => W.cell? ⟨w2.heap.size, 0, none⟩ = some (.int .i64 n) ∧ W.cell? ⟨w2.heap.size, 1, none⟩ = some (.map (some mb))) (first | exact f0 | exact f4 | go_keep) (first
    | (go_at_call 27; (with_reducible refine (mclone_any (C2.out.new (grown_drewN _ _ none))).mono ?_); rintro e w4 ⟨b4, rfl, ho, hl, hg⟩; have G4 := Lib.hid (World.grownBy.trans (grown_drewN w3 _ none) hg); have C4 := Lib.hid (C2.out.new G4.out); have O4 := Lib.hid ho; have L4 := Lib.hid (Nat.le_trans (grown_drewN w3 _ none).size hl); have f4 := (show w4.cell? ⟨w2.heap.size, 0, none⟩ = some (.int .i64 n) ∧ w4.cell? ⟨w2.heap.size, 1, none⟩ = some (.map (some mb)) from ⟨G4.out.cell F0.out.1 (by simp), G4.out.cell F0.out.2 (by simp)⟩); clear ho hl hg)
    | (go_at_call 27; (with_reducible refine (mclone_any (C2.out.new (grown_drew _ none))).mono ?_); rintro e w4 ⟨b4, rfl, ho, hl, hg⟩; have G4 := Lib.hid (World.grownBy.trans (grown_drew w3 none) hg); have C4 := Lib.hid (C2.out.new G4.out); have O4 := Lib.hid ho; have L4 := Lib.hid (Nat.le_trans (grown_drew w3 none).size hl); have f4 := (show w4.cell? ⟨w2.heap.size, 0, none⟩ = some (.int .i64 n) ∧ w4.cell? ⟨w2.heap.size, 1, none⟩ = some (.map (some mb)) from ⟨G4.out.cell F0.out.1 (by simp), G4.out.cell F0.out.2 (by simp)⟩); clear ho hl hg))
  all_goals
    go_wp2
    go_ret
    have z1 := L2.out
    have z2 := L4.out
    have z3 := G4.out.size
    exact ⟨w4.heap.size, b4, rfl, ⟨heap_alloc_new _ _, O4.out.alloc _, CC.out.tells, CC.out.good, CC.out.few⟩, ⟨by omega, by omega⟩, G2.out.trans (G4.out.trans (World.grownBy_alloc _ _ _))⟩
end
end Go.Proofs.Ytagahkofjgbfhaa.ca
