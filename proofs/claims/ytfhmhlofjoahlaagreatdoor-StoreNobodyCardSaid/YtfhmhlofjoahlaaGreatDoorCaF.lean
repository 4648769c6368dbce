/- The program's cache: what is sorted; Drop. -/
import Derived.Test.YtfhmhlofjoahlaaGreatDoorCaX
import Derived.Test.YtfhmhlofjoahlaaGreatDoorShf
import Derived.Test.YtfhmhlofjoahlaaGreatDoorLiA
import Derived.Lib.SlKeysI
namespace Go.Proofs.YtfhmhlofjoahlaaGreatDoor.ca
open Go.ChangeShapes Go.WideShapes Go.ChangeAt Go.RowKit Go.Maps gen calls cls Go.Sort
set_option linter.unusedVariables false
set_option maxHeartbeats 4000000
set_option maxRecDepth 100000
def srt (xs : List Int) : List Int := xs.mergeSort fun x y => decide (x ≤ y)
theorem srt_perm (xs : List Int) : (srt xs).Perm xs := List.mergeSort_perm _ _
theorem srt_length (xs : List Int) : (srt xs).length = xs.length := (srt_perm xs).length_eq
/-- What is sorted is the rising list, where nothing stands twice. -/
theorem srt_rising {xs ys : List Int} (h : xs.Perm ys) (hd : xs.Nodup) : srt xs = bm.rising ys := by
  have h1 : (srt xs).Pairwise (fun x y => decide (x ≤ y) = true) := List.pairwise_mergeSort (fun a b c => by simp; omega) (fun a b => by simp; omega) xs
  have h2 : (srt xs).Nodup := (srt_perm xs).nodup_iff.2 hd
  have h3 : (srt xs).Pairwise (· < ·) := (h1.and h2).imp (fun {a b} ⟨e1, e2⟩ => by simp at e1; omega)
  refine bm.up_eq h3 (bm.rising_up _) (fun z => ?_)
  rw [(srt_perm xs).mem_iff, bm.mem_rising, h.mem_iff]
theorem Sort_any {w : World} {base n c : Nat} {A : Option Addr} {zs : List Int} (ho : w.ownsRow base 3 1 (.slice A n c) n (bm.ints zs)) (hn : zs.length = n) (hs : n < 4611686018427387904) :
    Calls Tryz.prog 68 #[.slice A n c] w fun e w' => e = .returned (.tuple #[]) ∧ w'.ownsRow base 3 1 (.slice A n c) n (bm.ints (srt zs)) ∧ w.grownBy w' (Value.slice A n c).ownBlock := by
  subst hn
  rcases ho.2 with ⟨e1, hz⟩ | ⟨g, cap, cur, e1, hbase, hg, r1, r2, r3, r4⟩
  · obtain rfl : zs = [] := List.eq_nil_of_length_eq_zero hz
    refine (AnyM.slices_Sort_int_none Tryz.sort A c w).mono fun e w' ⟨h1, h2⟩ => ?_
    subst h2
    exact ⟨h1, by rw [show srt [] = [] by simp [srt]]; exact ho, World.grownBy.refl _ _⟩
  · obtain ⟨rfl, rfl⟩ : A = some ⟨g, 0, none⟩ ∧ c = cap := by simpa using e1
    have hH : Holds encZ w g 0 zs.toArray := holds_of_block_i hg (by simpa [bm.ints] using r4)
    have hgl : g < w.heap.size := (Array.getElem?_eq_some_iff.1 hg).1
    refine (AnyM.slices_Sort_int Tryz.sort g 0 c zs w hH hgl hs).mono fun e w' ⟨h1, n', os, h2⟩ => ?_
    subst h2
    exact ⟨h1, ownsRow_sorted_i (by simp) hbase hg r1 r2 r3, grownBy_sorted_i _⟩
theorem own_off {w : World} {base n k : Nat} {v : Value} {xs : List Value} {o : Obj} (ho : w.ownsRow base 3 1 v n xs) (hk : w.heap[k]? = some o) (hn : ∀ cs t z, o ≠ .cells cs t z) : some k ≠ v.ownBlock := fun e => by
  rcases ho.2 with ⟨rfl, _⟩ | ⟨g, cap, cur, rfl, _, hg, _⟩
  · cases e
  · injection e with e
    subst e
    rw [hg] at hk
    injection hk with hk
    exact hn _ _ _ hk.symm
section
variable {w w' : World} {c mb n r N : Nat} {m gs : List Ow} {D : DataW Unit} {left : Lit → Bool} {cnt : Nat}
theorem ranges_off {base k : Nat} {v : Value} {xs : List Value} (h : w.ranges Tryz.prog 69 (plainElem Tryz.prog 3) mb r N D left cnt) (ho : w.ownsRow base 3 1 v k xs) : some mb ≠ v.ownBlock ∧ some r ≠ v.ownBlock := by
  obtain ⟨es, clock, since, seen, c0, hb, _, _, _, hr, _⟩ := h
  exact ⟨own_off ho hb (fun _ _ _ e => by cases e), own_off ho hr (fun _ _ _ e => by cases e)⟩
/-- What has been met of a thread's: all that is not still to come. -/
structure Part (m : List Ow) (t : Int) (left : Lit → Bool) (gs : List Ow) : Prop where
  nodup : gs.Nodup
  sub : ∀ x ∈ gs, x ∈ m ∧ x.1 = t
  all : ∀ x ∈ m, left (kl x.1 x.2.1) = true ∨ (x.1 ≠ t ∨ x ∈ gs)
theorem Part.stay {t : Int} (P : Part m t left gs) (G : Good n m) (hn : n ≤ 9) {x : Ow} (hx : x ∈ m) (ht : x.1 ≠ t) : Part m t (fun z => left z && !z.sameKey (kl x.1 x.2.1)) gs :=
  ⟨P.nodup, P.sub, strike (Q := fun x => x.1 ≠ t ∨ x ∈ gs) G hn P.all hx (.inl ht)⟩
theorem Part.take {t : Int} (P : Part m t left gs) (G : Good n m) (hn : n ≤ 9) {x : Ow} (hx : x ∈ m) (hg : x ∉ gs) (ht : x.1 = t) : Part m t (fun z => left z && !z.sameKey (kl x.1 x.2.1)) (gs ++ [x]) := by
  refine ⟨?_, fun y hy => ?_, strike (Q := fun x => x.1 ≠ t ∨ x ∈ gs ++ _) G hn (fun y hy => ?_) hx (.inr (by simp))⟩
  · rw [List.nodup_append]
    refine ⟨P.nodup, by simp, fun a ha b hb e => ?_⟩
    simp at hb
    subst e hb
    exact hg ha
  · rcases List.mem_append.1 hy with hy | hy
    · exact P.sub y hy
    · simp at hy
      subst hy
      exact ⟨hx, ht⟩
  · rcases P.all y hy with h | h | h
    · exact .inl h
    · exact .inr (.inl h)
    · exact .inr (.inr (List.mem_append.2 (.inl h)))
def less (m gs : List Ow) : List Ow := m.filter fun x => decide (x ∉ gs)
theorem less_nil (m : List Ow) : less m [] = m := by
  unfold less
  exact List.filter_eq_self.2 (fun x _ => by simp)
theorem less_more (m gs : List Ow) (x : Ow) : (less m gs).filter (fun y => decide (y ≠ x)) = less m (gs ++ [x]) := by
  unfold less
  rw [List.filter_filter]
  refine List.filter_congr fun y hy => ?_
  by_cases h1 : y = x <;> by_cases h2 : y ∈ gs <;> simp [h1, h2]
  all_goals (subst h1; simp [h2])
theorem hit0 (t : Int) (x : Ow) : hit t 0 x = (x.1 == t) := by simp [hit]
theorem Part.less {t : Int} (P : Part m t left gs) (hl : ∀ l, left l = false) : less m gs = rest m t 0 := by
  unfold ca.less rest
  refine List.filter_congr fun x hx => ?_
  rw [hit0]
  by_cases h1 : x ∈ gs
  · have := (P.sub x h1).2
    simp [h1, this]
  · have := (P.all x hx).resolve_left (by rw [hl]; simp)
    have h2 := this.resolve_right h1
    simp [h1, h2]
theorem Part.perm {t : Int} (P : Part m t left gs) (G : Good n m) (hl : ∀ l, left l = false) : (gs.map (·.2.2)).Perm (gone m t 0) := by
  have nd : m.Nodup := G.keys.imp (fun {a b} h e => h (by subst e; exact ⟨rfl, rfl⟩))
  refine List.Perm.map _ ((List.perm_ext_iff_of_nodup P.nodup (nd.filter _)).2 fun x => ?_)
  rw [List.mem_filter, hit0]
  constructor
  · intro h
    exact ⟨(P.sub x h).1, by simpa using (P.sub x h).2⟩
  · intro ⟨hx, h⟩
    exact ((P.all x hx).resolve_left (by rw [hl]; simp)).resolve_left (fun e => e (by simpa using h))
theorem gone_nodup (G : Good n m) (t k : Int) : (gone m t k).Nodup := List.pairwise_map.2 (G.pages.filter _)
/-- What Drop answers. -/
def DropAns (c mb n : Nat) (m : List Ow) (t : Int) (w : World) (e : Ending) (w' : World) : Prop :=
  ∃ A k L D', e = .returned (.slice A L k) ∧ L = (bm.rising (gone m t 0)).length ∧ w'.ownsRow w.heap.size 3 1 (.slice A L k) L (bm.ints (bm.rising (gone m t 0))) ∧ At w' c mb n (rest m t 0) D' ∧ w.grownBy w' (some mb)
theorem Drop_any (C : At w c mb n m D) (t : Int) :
    Calls Tryz.prog 36 #[.pointer (some ⟨c, 0, none⟩), .int .i64 t] w (DropAns c mb n m t w) := by
  have CC := Lib.hid C
  have fl := field_1 n mb
  obtain ⟨i0, hi, hz0, hz1, hz2⟩ := info_parts bm.info_int
  have E : Hid (i0.zero = some (.int .i64 0) ∧ i0.size = 1 ∧ i0.bytes = 8 ∧ Tryz.prog.info? 3 = some i0) := ⟨hz0, hz1, hz2, hi⟩
  clear C hi hz0 hz1 hz2
  go_enter Tryz.func36, Tryz.ntmps36
  go_wp2_with (first
    | (go_at_call 45; (with_reducible refine (made_yes CC.out).mono ?_); rintro e w2 ⟨rfl, hg⟩; have G2 := Lib.hid hg; have C2 := Lib.hid (CC.out.new hg); clear hg)
    | (at_range; refine wpList_range_own _ rfl _ 64 rfl 69 3 klaw Tryz.underlying64 _ mb _ _ rfl C2.out.own ?_; intro w3 hrg0 hg0 hs0)
    | go_in)
  go_frame
  go_loopw [5, 7, 8] (fun v _ _ wr => ∃ (left : Lit → Bool) (cnt : Nat) (gs : List Ow) (D' : DataW Unit) (A' : Option Addr) (k c' : Nat), v = .slice A' k c' ∧ k = gs.length ∧ wr.ranges Tryz.prog 69 (plainElem Tryz.prog 3) mb w2.heap.size m.length D' left cnt ∧
      Part m t left gs ∧ Tells D' (less m gs) ∧ wr.ownsRow w2.heap.size 3 1 (.slice A' k c') k (bm.ints (gs.map (·.2.2))) ∧ w2.grownBy wr (some mb))
    (fun _ _ _ wr => wr.rangeLeft mb w2.heap.size)
  case atStart => exact ⟨_, _, [], D, none, 0, 0, rfl, rfl, hrg0, ⟨.nil, fun x hx => by simp at hx, fun x hx => .inl ((CC.out.tells.has x.1 x.2.1 (CC.out.good.fit CC.out.few hx).1 (CC.out.good.fit CC.out.few hx).2.1).2 ⟨_, hx⟩)⟩, by rw [less_nil]; exact CC.out.tells, World.ownsRow_nil _ _ _ _, hg0.but _⟩
  case round =>
    obtain ⟨left, cnt, gs, D', A', k, c', rfl, hk, hrg, hp, ht, ho, hgw⟩ := hrel
    have HP := Lib.hid hp
    have HT := Lib.hid ht
    have HO := Lib.hid ho
    have GW := Lib.hid hgw
    have HK := Lib.hid hk
    clear hp ht ho hgw hk
    go_wp2_with (first
      | (at_next; refine wpList_next_ranges _ rfl _ rfl 69 klaw (plainElem Tryz.prog 3) (fun x : Int × Int => .agg #[.int .i64 x.1, .int .i64 x.2]) (Value.int .i64) invK invV mb w2.heap.size m.length _ _ _ rfl hrg ?_ ?_)
      | go_in)
    · intro hc0 hl0
      have HR := Lib.hid hrg
      have HL := Lib.hid hl0
      have KL := Lib.hid (show k < 4611686018427387904 by have := HK.out; have h1 := (HP.out.perm CC.out.good HL.out).length_eq; have h2 := CC.out.good.few; unfold gone at h1; have h3 := List.length_filter_le (hit t 0) m; simp only [List.length_map] at h1; omega)
      clear hrg hl0
      go_wp2_with (first
        | (go_at_call 68; (with_reducible refine (Sort_any HO.out (by rw [List.length_map]; exact HK.out.symm) KL.out).mono ?_); rintro e w5 ⟨rfl, ho, hg⟩; have O5 := Lib.hid ho; have G5 := Lib.hid hg; clear ho hg))
      go_ret
      have pm := HP.out.perm CC.out.good HL.out
      have sr : srt (gs.map (·.2.2)) = bm.rising (gone m t 0) := srt_rising pm (pm.nodup_iff.2 (gone_nodup CC.out.good t 0))
      have off := ranges_off HR.out HO.out
      have O6 := own_tight (HR.out.owns.kept G5.out off.1)
      have T6 := HT.out
      rw [HP.out.less HL.out] at T6
      rw [T6.size] at O6
      have o5 := bm.own_mono O5.out G2.out.size
      rw [sr] at o5
      have lc := C2.out.lt.1
      have c1 : some c ≠ some mb := fun e => C2.out.ne (by simpa using e.symm)
      have c2 : some c ≠ (Value.slice A' k c').ownBlock := fun e => by have := (HO.out.lt c e.symm).1; omega
      refine ⟨A', c', k, D', rfl, ?_, o5, ⟨(G5.out.block c (Nat.lt_of_lt_of_le lc GW.out.size) c2).trans ((GW.out.block c lc c1).trans C2.out.box), O6, T6, CC.out.good.filter _, CC.out.few⟩, ((G2.out.but _).trans GW.out).andThen G5.out (fun j hj => .inl (Nat.le_trans G2.out.size (HO.out.lt j hj).1))⟩
      rw [HK.out, ← sr, srt_length, List.length_map]
    · intro x1 x2 z l yd yp w4 cnt2 hkey hlk hv hat hrg2 hlt hg2 hs2 hen
      obtain ⟨rfl, hx⟩ := met HT.out (x := (x1, x2)) hkey hv hat
      obtain ⟨hx1, hx2⟩ : (x1, x2, z) ∈ m ∧ (x1, x2, z) ∉ gs := by have := List.mem_filter.1 hx; exact ⟨this.1, by simpa using this.2⟩
      have X1 := Lib.hid hx1
      have X2 := Lib.hid hx2
      have XX := Lib.hid hx
      have HR0 := Lib.hid hrg
      have HR := Lib.hid hrg2
      have G4 := Lib.hid (GW.out.andThen hg2 (fun j hj => by cases hj; exact .inl (Nat.le_refl _)))
      have O4 := Lib.hid (HO.out.kept hg2 (.inr (ranges_off hrg HO.out).2.symm))
      have S4 := Lib.hid (show w2.heap.size ≤ w4.heap.size from Nat.le_trans GW.out.size hg2.size)
      have T0 := Lib.hid (Two.new w4 x1 x2 69)
      have KM := Lib.hid hkey
      have FEW := Lib.hid (show k ≤ 64 by have h1 := CC.out.good.few; have h2 := pigeon 64 (gs.map (·.2.2)) (List.pairwise_map.2 (HP.out.nodup.imp_of_mem (fun {a b} ha hb hne e => hne (CC.out.good.one' (HP.out.sub a ha).1 (HP.out.sub b hb).1 e)))) (fun y hy => by obtain ⟨a, ha, rfl⟩ := List.mem_map.1 hy; have := CC.out.good.bnd a (HP.out.sub a ha).1; omega); rw [List.length_map] at h2; rw [HK.out]; exact h2)
      clear hs2 hkey hlk hv hat hx hrg2 hg2 hrg hx1 hx2
      by_cases hz : x1 = t
      · subst hz
        have NE := Lib.hid (show some w4.heap.size ≠ (Value.slice A' k c').ownBlock from fun e => by have := (O4.out.lt _ e.symm).2; omega)
        have OFF := Lib.hid (ranges_off HR.out O4.out)
        have T7 := Lib.hid (HT.out.del (CC.out.good.filter _) CC.out.few (HR.out.owns.tidy klaw) XX.out)
        rw [show ((less m gs).filter fun y => decide (y ≠ (x1, x2, z))) = less m (gs ++ [(x1, x2, z)]) from less_more m gs _] at T7
        have P4 := Lib.hid (HP.out.take CC.out.good CC.out.few (x := (x1, x2, z)) X1.out X2.out rfl)
        go_wp2_with (first
          | (refine wpList_append_rd rfl (.tmp 23) (.tmp 25) 41 rfl w2.heap.size 3 i0 (.int .i64 0) 8 Tryz.underlying41 E.out.2.2.2 E.out.1 E.out.2.1 E.out.2.2.1 rfl _ k (gs.map (·.2.2)) rfl ((O4.out.alloc _).alloc _) (some ⟨w4.heap.size + 1, 0, none⟩) 1 1 _ [z] rfl (li.Rd.one_at _ _ _ (by simp)) (by unfold maxLen; have := FEW.out; omega) (by have := FEW.out; omega) (by have := S4.out; simp; omega) ?_; intro A3 c3 w6 own1 rd1 gr1; have O6 := Lib.hid own1; obtain ⟨v0, v1⟩ := (T0.out.made (World.grownBy_alloc _ _ none)).kept gr1 NE.out; have HR6 := Lib.hid (((HR.out.alloc _).alloc _).kept gr1 OFF.out.1 OFF.out.2); have G6 := Lib.hid (((G4.out.trans (World.grownBy_alloc _ _ _)).trans (World.grownBy_alloc _ _ _)).andThen gr1 (fun j hj => .inl (O4.out.lt j hj).1)); clear own1 gr1 rd1)
          | (at_delete; refine wpList_delete_ranges _ rfl _ _ 64 69 rfl 3 klaw Tryz.underlying64 _ mb w2.heap.size _ _ _ _ rfl HR6.out _ _ rfl KM.out ?_; intro w7 cnt7 hrg7 hle7 hturn7; rw [strike_twice] at hrg7; have HR7 := Lib.hid hrg7; have LE7 := Lib.hid hle7; have TU7 := Lib.hid hturn7; clear hrg7 hle7 hturn7; go_frame)
          | go_in)
        go_roundw
        case rel => exact ⟨_, cnt7, gs ++ [(x1, x2, z)], _, A3, k + 1, c3, rfl, by rw [List.length_append, ← HK.out]; rfl, HR7.out, P4.out, T7.out, by rw [List.map_append]; exact O6.out.kept TU7.out.grown (.inr (ranges_off HR6.out O6.out).1.symm), G6.out.trans TU7.out.grown⟩
        case measure => rw [HR7.out.left_eq, HR0.out.left_eq]; have := LE7.out; omega
      · have t1 : (x1 == t) = false := by simpa using hz
        have ST := Lib.hid (HP.out.stay CC.out.good CC.out.few (x := (x1, x2, z)) X1.out hz)
        go_wp2
        go_roundw
        case rel => exact ⟨_, cnt2, gs, D', A', k, c', rfl, HK.out, HR.out.alloc _, ST.out, HT.out, O4.out.alloc _, G4.out.trans (World.grownBy_alloc _ _ _)⟩
        case measure => rw [(HR.out.alloc _).left_eq, HR0.out.left_eq]; exact hlt
end
end Go.Proofs.YtfhmhlofjoahlaaGreatDoor.ca
