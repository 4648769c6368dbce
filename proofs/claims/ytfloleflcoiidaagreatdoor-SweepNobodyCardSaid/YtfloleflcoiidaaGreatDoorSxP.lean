/- Joined: PhN, PhQ, PhR. -/
import Derived.Test.YtfloleflcoiidaaGreatDoorSxA
import Derived.Test.YtfloleflcoiidaaGreatDoorBoY
import Derived.Test.YtfloleflcoiidaaGreatDoorPhW
import Derived.Laws.AppendOwnNone
/- The plain heap: an object that is gone. -/
namespace Go.Proofs.YtfloleflcoiidaaGreatDoor.ph
open Go.ChangeShapes Go.WideShapes Go.ChangeAt Go.RowKit gen calls cls geos ce bo st
set_option linter.unusedVariables false
set_option maxHeartbeats 8000000
set_option maxRecDepth 100000
theorem oc_take : ∀ (m : List Pb) (k : Nat), oc (m.take k) = (oc m).take (3 * k)
  | [], k => by simp [oc]
  | x :: m, 0 => rfl
  | x :: m, k + 1 => by
    rw [List.take_succ_cons, oc_cons, oc_cons, show 3 * (k + 1) = 3 * k + 1 + 1 + 1 by omega, List.take_succ_cons, List.take_succ_cons, List.take_succ_cons, oc_take m k]
theorem oc_drop : ∀ (m : List Pb) (k : Nat), oc (m.drop k) = (oc m).drop (3 * k)
  | [], k => by simp [oc]
  | x :: m, 0 => rfl
  | x :: m, k + 1 => by
    rw [List.drop_succ_cons, oc_cons, show 3 * (k + 1) = 3 * k + 1 + 1 + 1 by omega, List.drop_succ_cons, List.drop_succ_cons, List.drop_succ_cons, oc_drop m k]
theorem Lp.cell {w : World} {base b : Nat} {v : Value} {m : List Pb} (h : Lp w base v m) (hb : v.ownBlock = some b) (j : Nat) (u : Value) (hj : (oc m)[j]? = some u) : w.cell? ⟨b, j, none⟩ = some u := by
  rcases h.2 with ⟨rfl, hz⟩ | ⟨g, cap, cur, rfl, _, hg, h1, h2, h3, h4⟩
  · cases hb
  · injection hb with hb
    subst hb
    rw [← h4, List.getElem?_take] at hj
    split at hj
    · simp [World.cell?, hg]
      simpa using hj
    · cases hj
/-- Objects appended to a list of one's own. -/
theorem append_obs {w : World} {ops : Array Oper} {rest : List Oper} {o : Oper} {a : Act} {Q : Exit → Act → World → Prop} (hgd : o.guard = none) (s x : Operand) (ho : o.op = .call { callee := .builtin .append, args := #[s, x], argTypes := #[58, 58] })
    (base : Nat) (v : Value) (m : List Pb) (hs : a.eval s = v) (hown : Lp w base v m) (b i c n : Nat) (m2 : List Pb) (hx : a.eval x = .slice (some ⟨b, i, none⟩) n c) (hn : m2.length = n) (hr : ∀ j u, (oc m2)[j]? = some u → w.cell? ⟨b, i + j, none⟩ = some u)
    (hv : ∀ o ∈ m2, ∃ A n c, o.v = .slice A n c) (hm : m.length + n ≤ 1048576) (hbase : base ≤ w.heap.size)
    (h : ∀ A' N' c' w', N' = (m ++ m2).length → Lp w' base (.slice A' N' c') (m ++ m2) → w.grownBy w' v.ownBlock → wpList Tryz.prog ops Q rest (a.put o.dst (.slice A' N' c')) w') : wpList Tryz.prog ops Q (o :: rest) a w := by
  obtain ⟨i0, hi, hz0, hz1, hz2⟩ := info_parts info_ob
  refine wpList_append_own w hgd s x 58 ho base 65 i0 (.agg #[.int .i64 0, .int .i64 0, .slice none 0 0]) 3 40 Tryz.underlying58 hi hz0 hz1 hz2 rfl (by omega) v m.length (oc m) hs hown ⟨b, i, none⟩ n c (oc m2) hx (by rw [oc_length, hn]; omega)
    (fun j u hj => by rw [Addr.add_lit]; exact hr j u hj) (fun u hu => ?_) (by unfold maxLen; omega) (by omega) hbase (fun v' w' h3 h4 h5 => ?_)
  · obtain ⟨o, ho, hu⟩ := List.mem_flatMap.1 hu
    obtain ⟨A0, n0, c0, ey⟩ := hv o ho
    simp at hu
    rcases hu with rfl | rfl | rfl
    · rfl
    · rfl
    · rw [ey]; rfl
  · have h6 : Lp w' base v' (m ++ m2) := by
      unfold Lp
      rw [oc_append, List.length_append, hn]
      exact h3
    obtain ⟨A, N, k, rfl, hN, _, _⟩ := h6.shape
    exact h A N k w' hN h6 h4
theorem grown_lp' {a b c : World} {base : Nat} {v : Value} {m : List Pb} (hg : a.grownBy b none) (hl : Lp b base v m) (hb : a.heap.size ≤ base) (h : b.grownBy c v.ownBlock) : a.grownBy c none :=
  hg.andThen h (fun j hj => .inl (Nat.le_trans hb (hl.from_ j hj)))
section
variable {w w' w1 : World} {K K' V M X : List Nat} {H : Nat} {vk vo vo' : Value} {vs : List Value} {os os' : List Pb} {y y' : Hq} {v : Value} {e : Ending}
/-- One object is gone from the list, that is new. -/
theorem Ph.gone (h : Ph w K V H vk vs vo os y) (hg : w.grownBy w' none) {i : Nat} {v' : Value} (hl : Lp w' w.heap.size v' (os.take i ++ os.drop (i + 1))) :
    Ph (w'.setCell ⟨H, 111, none⟩ v') (v'.ownBlock.toList ++ K) (more V w.heap.size w'.heap.size) H vk vs v' (os.take i ++ os.drop (i + 1)) { y with ob := y.ob.take i ++ y.ob.drop (i + 1) } := by
  have h1 := h.gr (Gr.new (L := []) hg) (by simp)
  have inX : ∀ q, v'.ownBlock = some q → q ∈ v'.ownBlock.toList := fun q hq => by rw [hq]; simp
  have ofX : ∀ q, q ∈ v'.ownBlock.toList → v'.ownBlock = some q := fun q hq => by cases hv : v'.ownBlock <;> rw [hv] at hq <;> simp at hq; rw [hq]
  refine h1.objs (hl.mono (Nat.zero_le _)) (fun q hq => hl.lt q (ofX q hq)) (fun q hq => ⟨inX q hq, fun hm => by have := hl.from_ q hq; have := h.kl q hm; omega⟩) (fun o ho => ?_) (by rw [List.map_append, List.map_take, List.map_drop, h.eq])
  have ho' : o ∈ os := (List.mem_append.1 ho).elim List.mem_of_mem_take List.mem_of_mem_drop
  exact ⟨(h1.fl o ho').1, fun q hq => List.mem_append.2 (.inr ((h1.fl o ho').2 q hq))⟩
theorem gone_fin (h : Ph w K V H vk vs vo os y) {w6 w8 : World} (hg : w.grownBy w6 none) {v' vk' : Value} {vs' : List Value} {V' : List Nat} (hl : ∀ q, v'.ownBlock = some q → w.heap.size ≤ q) (P8 : Ph w8 (more (v'.ownBlock.toList ++ K) (w6.setCell ⟨H, 111, none⟩ v').heap.size w8.heap.size) V' H vk' vs' vo' os' y') (g8 : Gr [H] (w6.setCell ⟨H, 111, none⟩ v') w8) : Pa K H v y' w (.returned v) w8 := by
  refine ⟨rfl, _, fun q hq => ?_, ⟨_, _, _, _, _, P8⟩, ((Gr.new (L := K) hg).trans (.set _ _ _ _ h.hk)).trans (g8.mono (fun q hq => by simp at hq; subst hq; exact h.hk))⟩
  rcases (more_in g8.size).1 hq with e | e
  · rcases List.mem_append.1 e with e | e
    · exact .inr (hl q (by cases hv : v'.ownBlock <;> rw [hv] at e <;> simp at e; rw [e]))
    · exact .inl e
  · have := hg.size
    rw [set_size] at e
    exact .inr (by omega)
theorem rGone_yes (h : Ph w K V H vk vs vo os y) {a : Int} {i : Nat} (hz : Fnd y.ob a i) (hi : i < y.ob.length) (hl : y.ob.length ≤ 4096) {ks' : List Int} {fr' : Nat → List Int}
    (GV : ∀ W K1 V1 vk1 vs1 vo1 os1 y1, Ph W K1 V1 H vk1 vs1 vo1 os1 y1 → y1.ks = y.ks → y1.fr = y.fr → Calls Tryz.prog 131 #[.pointer (some ⟨H, 0, none⟩), .int .i64 a] W fun e w' => e = nil0 ∧ ∃ vk' vs', Hh w' V1 H vk' vs' (tlo y1.own y1.T vo1 y1.cnt) ks' fr' ∧ Gr [H] W w') :
    Calls Tryz.prog 102 #[.pointer (some ⟨H, 0, none⟩), .int .i64 a] w (Pa K H (.bool true) { y with ks := ks', fr := fr', ob := y.ob.take i ++ y.ob.drop (i + 1) } w) := by
  have F := Lib.hid (rFind_any h hz)
  obtain ⟨o, p, b, c, h1, h2, h3, e1, h5, h6, h7, h8, _, _, _, _⟩ := h.at_ hi
  subst e1
  have HP := Lib.hid (fun W (hg : w.grownBy W none) => h.gr (Gr.new (L := []) hg) (by simp))
  have CO := Lib.hid (fun W (hg : w.grownBy W none) => (HP.out W hg).cO)
  have FZ := Lib.hid (fun W (hg : w.grownBy W none) => (HP.out W hg).fz 111)
  have LC := Lib.hid (fun W (hg : w.grownBy W none) => ((HP.out W hg).lp.cell (b := b) rfl))
  have SL := Lib.hid (fun (o : Pb) (ho : o ∈ os) => (show ∃ A n c, o.v = .slice A n c from by obtain ⟨A, c, e, _⟩ := h.read ho; exact ⟨A, _, c, e⟩))
  have OL := Lib.hid h.len
  obtain ⟨n, hn⟩ : ∃ n, y.ob.length = n := ⟨_, rfl⟩
  rw [hn] at hi h7 hl CO
  have HN := Lib.hid hn
  have KL := Lib.hid h.kl
  have OK := Lib.hid h.fl
  have EQ := Lib.hid h.eq
  have HK := Lib.hid h.hk
  have HGV := Lib.hid GV
  obtain ⟨d, hd⟩ : ∃ d, c = i + 1 + d := ⟨c - (i + 1), by omega⟩
  subst hd
  have i0 : (0 : Int) ≤ (i : Int) := by omega
  have i1 : (i : Int) < n := by omega
  have n4 : (n : Int) ≤ 4096 := by omega
  unfold maxLen at h8
  rw [hn] at h5
  have PG := Lib.hid (fun W (hg : w.grownBy W none) v' (hl : Lp W w.heap.size v' (os.take i ++ os.drop (i + 1))) => h.gone hg hl)
  have PF := Lib.hid (fun w6 w8 (hg : w.grownBy w6 none) (v' vk' : Value) (vs' : List Value) (V' : List Nat) (vo' : Value) (os' : List Pb) (y' : Hq) hl P8 g8 => gone_fin (v := .bool true) (w6 := w6) (w8 := w8) (vk' := vk') (vs' := vs') (v' := v') (V' := V') (vo' := vo') (os' := os') (y' := y') h hg hl P8 g8)
  clear h hz GV h1 h2 h3 h5
  have hd2 : n ≤ i + 1 + d := h7
  by_cases hd0 : d = 0
  · subst hd0
    obtain rfl : n = i + 1 := by omega
    go_enter Tryz.func102, Tryz.ntmps102
    go_wp2_with (first
      | (go_at_call 130; (with_reducible refine F.out.mono ?_); rintro e w' ⟨rfl, rfl⟩; have o0 := CO.out _ (World.grownBy.refl _ _))
      | (have mark := P7; go_at_call 131; (with_reducible refine (HGV.out _ _ _ _ _ _ _ _ P7.out rfl rfl).mono ?_); rintro e w8 ⟨rfl, vk8, vs8, hh, hg⟩; have P8 := Lib.hid (P7.out.heap hh hg); have G8 := Lib.hid hg; clear hh hg)
      | (have mark := L5; refine append_obs rfl (.tmp 20) (.tmp 27) rfl w.heap.size _ (os.take i) rfl L5.out b 0 _ 0 (os.drop (i + 1)) rfl (by rw [List.length_drop]; have := OL.out; have := HN.out; omega) (fun j u hj => by rw [List.drop_of_length_le (by have := OL.out; have := HN.out; omega)] at hj; cases hj) (fun o ho => SL.out o (List.mem_of_mem_drop ho)) (by rw [List.length_take]; omega) G5.out.size ?_; intro A6 N6 c6 w6 hN hL hG; have L6 := Lib.hid hL; have G6 := Lib.hid (grown_lp' G5.out L5.out (Nat.le_refl _) hG); have z6 := FZ.out _ G6.out; have o6 := CO.out _ G6.out; have P7 := Lib.hid (PG.out _ G6.out _ L6.out); clear hN hL hG)
      | (refine append_obs rfl (.tmp 12) (.tmp 18) rfl w.heap.size (.slice none 0 0) [] rfl (Lp.nil _ _) b 0 _ i (os.take i) rfl (by rw [List.length_take]; have := OL.out; have := HN.out; omega) (fun j u hj => LC.out _ (World.grownBy.refl _ _) _ u (by rw [oc_take, List.getElem?_take] at hj; split at hj; (rw [← hj]; congr 1; omega); cases hj)) (fun o ho => SL.out o (List.mem_of_mem_take ho)) (by simp; omega) (Nat.le_refl _) ?_; intro A5 N5 c5 w5 hN hL hG; have L5 := Lib.hid (show Lp w5 w.heap.size (.slice A5 N5 c5) (os.take i) from hL); have G5 := Lib.hid (show w.grownBy w5 none from hG); have o5 := CO.out _ G5.out; clear hN hL hG))
    go_ret
    exact PF.out w6 _ G6.out _ _ _ _ _ _ _ L6.out.from_ P8.out G8.out
  · have d1 : (1 : Int) ≤ d := by omega
    have d2 : ¬ ((d : Int) = 0) := by omega
    obtain ⟨k, hk⟩ : ∃ k, n = i + 1 + k := ⟨n - (i + 1), by omega⟩
    subst hk
    go_enter Tryz.func102, Tryz.ntmps102
    go_wp2_with (first
      | (go_at_call 130; (with_reducible refine F.out.mono ?_); rintro e w' ⟨rfl, rfl⟩; have o0 := CO.out _ (World.grownBy.refl _ _))
      | (have mark := P7; go_at_call 131; (with_reducible refine (HGV.out _ _ _ _ _ _ _ _ P7.out rfl rfl).mono ?_); rintro e w8 ⟨rfl, vk8, vs8, hh, hg⟩; have P8 := Lib.hid (P7.out.heap hh hg); have G8 := Lib.hid hg; clear hh hg)
      | (have mark := L5; refine append_obs rfl (.tmp 20) (.tmp 27) rfl w.heap.size _ (os.take i) rfl L5.out b ((i + 1) * 3) _ k (os.drop (i + 1)) rfl (by rw [List.length_drop]; have := OL.out; have := HN.out; omega) (fun j u hj => LC.out _ G5.out _ u (by rw [oc_drop, List.getElem?_drop] at hj; rw [← hj]; congr 1; omega)) (fun o ho => SL.out o (List.mem_of_mem_drop ho)) (by rw [List.length_take]; omega) G5.out.size ?_; intro A6 N6 c6 w6 hN hL hG; have L6 := Lib.hid hL; have G6 := Lib.hid (grown_lp' G5.out L5.out (Nat.le_refl _) hG); have z6 := FZ.out _ G6.out; have o6 := CO.out _ G6.out; have P7 := Lib.hid (PG.out _ G6.out _ L6.out); clear hN hL hG)
      | (refine append_obs rfl (.tmp 12) (.tmp 18) rfl w.heap.size (.slice none 0 0) [] rfl (Lp.nil _ _) b 0 _ i (os.take i) rfl (by rw [List.length_take]; have := OL.out; have := HN.out; omega) (fun j u hj => LC.out _ (World.grownBy.refl _ _) _ u (by rw [oc_take, List.getElem?_take] at hj; split at hj; (rw [← hj]; congr 1; omega); cases hj)) (fun o ho => SL.out o (List.mem_of_mem_take ho)) (by simp; omega) (Nat.le_refl _) ?_; intro A5 N5 c5 w5 hN hL hG; have L5 := Lib.hid (show Lp w5 w.heap.size (.slice A5 N5 c5) (os.take i) from hL); have G5 := Lib.hid (show w.grownBy w5 none from hG); have o5 := CO.out _ G5.out; clear hN hL hG))
    go_ret
    exact PF.out w6 _ G6.out _ _ _ _ _ _ _ L6.out.from_ P8.out G8.out
end
end Go.Proofs.YtfloleflcoiidaaGreatDoor.ph

/- The plain heap against a store by lists: an object that is gone, a page that is trimmed, a thread that has left. -/
namespace Go.Proofs.YtfloleflcoiidaaGreatDoor.ph
open Go.ChangeShapes Go.WideShapes Go.ChangeAt Go.RowKit gen calls cls geos ce bo st sw
set_option linter.unusedVariables false
set_option maxHeartbeats 8000000
set_option maxRecDepth 100000
theorem up_cut : ∀ {l : List Ob3} {i : Nat} {o : Ob3}, Up l → l[i]? = some o → l.filter (fun x => decide (x.1 ≠ o.1)) = l.take i ++ l.drop (i + 1)
  | [], i, o, _, h => by simp at h
  | x :: l, 0, o, hu, h => by
    obtain ⟨h1, h2⟩ := List.pairwise_cons.1 hu
    have e : x = o := by simpa using h
    subst e
    rw [List.filter_cons_of_neg (by simp)]
    simp
    intro z q v hz
    have := h1 _ hz
    dsimp only at this
    omega
  | x :: l, i + 1, o, hu, h => by
    obtain ⟨h1, h2⟩ := List.pairwise_cons.1 hu
    have h3 : l[i]? = some o := by simpa using h
    have := h1 o (List.mem_of_getElem? h3)
    rw [List.filter_cons_of_pos (by simp; omega), up_cut h2 h3]
    rfl
theorem obs_cut {x z : Hs} {a : Int} (V : Iv x) (hK : Kp (fun b => b ≠ a) x z) (htk : z.tk = x.tk.filter fun y => decide (y ≠ a)) : obs z = (obs x).filter fun o => decide (o.1 ≠ a) := by
  unfold obs
  rw [htk, List.filter_map]
  refine List.map_congr_left fun b hb => ?_
  obtain ⟨h1, h2⟩ := List.mem_filter.1 hb
  obtain ⟨h3, h4⟩ := fls_keep V hK h1 (by simpa using h2)
  rw [h3, h4]
section
variable {w w' w1 : World} {K K' V M X : List Nat} {H : Nat} {vk vo vo' : Value} {vs : List Value} {os os' : List Pb} {y y' : Hq} {x z : Hs} {v : Value} {e : Ending}
theorem obs_find (V : Iv x) {a : Int} (ha : a ∈ x.tk) : ∃ (i : Nat) (o : Ob3), Fnd (obs x) a i ∧ (obs x)[i]? = some o ∧ o.1 = a ∧ i < (obs x).length := by
  obtain ⟨i, hi, e⟩ := List.mem_iff_getElem.1 ha
  have h1 : (obs x)[i]? = some (a, x.xs.getD a.toNat 0 / 128, tc.fls x a) := by
    unfold obs
    rw [List.getElem?_map, List.getElem?_eq_getElem hi, e]
    rfl
  refine ⟨i, _, .inr ⟨i, rfl, ⟨_, h1, rfl⟩, fun j o hj ho e2 => ?_⟩, h1, rfl, (List.getElem?_eq_some_iff.1 h1).1⟩
  have u := obs_up V
  have hl := (List.getElem?_eq_some_iff.1 h1).1
  have := List.pairwise_iff_getElem.1 u j i (by omega) hl hj
  rw [(List.getElem?_eq_some_iff.1 h1).2, (List.getElem?_eq_some_iff.1 ho).2] at this
  dsimp only at this
  omega
/-- An object is gone. -/
theorem rGone_gn (h : Pl w K H (toq x)) (V : Iv x) (hl : x.tk.length ≤ 2048) {a : Nat} (ha : (a : Int) ∈ x.tk) :
    Calls Tryz.prog 102 #[.pointer (some ⟨H, 0, none⟩), .int .i64 a] w (Pa K H (.bool true) (toq (gn x a)) w) := by
  obtain ⟨Vv, vk, vs, vo, os, h⟩ := h
  obtain ⟨i, o, hz, hi, e, hn⟩ := obs_find V ha
  obtain ⟨_, _, _, eP, hk⟩ := kinds_at V.ok ha
  have E : toq (gn x a) = { toq x with ks := (gn x a).ks, fr := (gn x a).fr, ob := (toq x).ob.take i ++ (toq x).ob.drop (i + 1) } := by
    unfold toq
    rw [gn_own, gn_T, gn_cnt, obs_cut V (iv_gn V ha).2 gn_tk, ← e, up_cut (obs_up V) hi]
  rw [E]
  refine rGone_yes h hz hn (by show (obs x).length ≤ _; unfold obs; rw [List.length_map]; omega) (fun W K1 V1 vk1 vs1 vo1 os1 y1 h1 e1 e2 => ?_)
  have hks : pg.Ks y1.ks := by rw [e1]; exact V.ok.kds
  have hlen : y1.ks.length ≤ 64 := by rw [e1]; exact V.ok.few
  rcases hk with hk | hk
  · have := rGive_large h1.hh hks hlen (a := a) eP (by rw [e1]; exact hk)
    rw [e1, e2] at this
    unfold gn
    rw [if_pos hk]
    exact this.mono fun e w' ⟨vk', vs', a1, a2, a3⟩ => ⟨a1, vk', vs', a2, a3⟩
  · have := rGive_cell h1.hh hks hlen (a := a) (i := (a : Int) % 32 / sz (pg.kind x.ks (a / 32 : Nat))) eP (by rw [e1]; exact hk) (by rw [e1]; rfl) (by rw [e2]; exact (V.ok.told hk).2.2)
    rw [e1, e2] at this
    unfold gn
    rw [if_neg (by omega)]
    exact this.mono fun e w' ⟨vk', vs', a1, a2, a3⟩ => ⟨a1, vk', vs', a2, a3⟩
/-- A page is dropped, or it is not. -/
theorem rDrop_d (h : Pl w K H (toq x)) (V : Iv x) (p : Int) :
    Calls Tryz.prog 63 #[.pointer (some ⟨H, 0, none⟩), .int .i64 p] w (Pa K H (.bool (dropb x p)) (toq (dstep (x, 0) p).1) w) := by
  have hp := h
  obtain ⟨Vv, vk, vs, vo, os, h⟩ := h
  cases hb : dropb x p with
  | false =>
    have e : (dstep (x, 0) p).1 = x := by unfold dstep; rw [hb]; rfl
    rw [e]
    refine (rDrop_no h.hh V.ok.kds V.ok.few p (fun hk => ?_)).mono fun e w' ⟨h1, h2⟩ => Pa.same hp h2 h1
    unfold dropb at hb
    have h1 : (1 ≤ pg.kind x.ks p ∧ pg.kind x.ks p ≤ 4) := hk
    rw [decide_eq_true h1.1, decide_eq_true h1.2, Bool.true_and, Bool.true_and] at hb
    have := of_decide_eq_false hb
    show ((x.fr p.toNat).length : Int) < cl (pg.kind x.ks p)
    omega
  | true =>
    obtain ⟨r0, r1⟩ := dropb_range hb
    obtain ⟨P, rfl⟩ : ∃ P : Nat, p = P := ⟨p.toNat, by omega⟩
    have e : (dstep (x, 0) (P : Int)).1 = x.dropped P := by unfold dstep; rw [hb, if_pos rfl, Int.toNat_natCast]
    rw [e]
    unfold dropb at hb
    simp only [Bool.and_eq_true, decide_eq_true_eq, Int.toNat_natCast] at hb
    refine (rDrop_yes h.hh V.ok.kds V.ok.few (p := P) ⟨hb.1.1, hb.1.2⟩ hb.2).mono fun e w' ⟨vk', vs', h1, h2, h3⟩ => ?_
    refine ⟨h1, _, fun q hq => ?_, ⟨_, _, _, _, _, h.heap h2 h3⟩, h3.mono (fun q hq => by simp at hq; subst hq; exact h.hk)⟩
    exact ((more_in h3.size).1 hq).imp id (fun e => e.1)
end
end Go.Proofs.YtfloleflcoiidaaGreatDoor.ph

/- The plain heap: Trim; Quit, page by page. -/
namespace Go.Proofs.YtfloleflcoiidaaGreatDoor.ph
open Go.ChangeShapes Go.WideShapes Go.ChangeAt Go.RowKit gen calls cls geos ce bo st sw
set_option linter.unusedVariables false
set_option maxHeartbeats 8000000
set_option maxRecDepth 100000
section
variable {w w' w1 : World} {K K' V M X : List Nat} {H : Nat} {vk vo vo' : Value} {vs : List Value} {os os' : List Pb} {y y' : Hq} {x z : Hs} {v : Value} {e : Ending} {own : List ca.Ow} {T : Nat}
theorem rTrim_d (h : Pl w K H (toq x)) (V : Iv x) (hT : x.T ≤ 9) {p : Nat} (hp : p < 64) :
    Calls Tryz.prog 103 #[.pointer (some ⟨H, 0, none⟩), .int .i64 p] w (Pa K H (.bool (trimb x p)) (toq (trimd x p)) w) := by
  have OW := Lib.hid (show Calls Tryz.prog 91 #[.pointer (some ⟨H, 0, none⟩), .int .i64 p] w fun e w' => e = int1 (ca.owner x.own p).1 ∧ w = w' from by
    obtain ⟨Vv, vk, vs, vo, os, h⟩ := h
    exact rOwner_any h V.good hT hp)
  have DR := Lib.hid (rDrop_d h V p)
  have HP := Lib.hid h
  by_cases ho : (ca.owner x.own p).1 = -1
  · have E1 := Lib.hid (show trimb x p = dropb x p by unfold trimb; rw [decide_eq_true ho]; rfl)
    have E2 := Lib.hid (show trimd x p = (dstep (x, 0) p).1 from if_pos ho)
    rw [ho] at OW
    generalize dropb x p = b at *
    clear h V ho
    go_enter Tryz.func103, Tryz.ntmps103
    go_wp2_with (first
      | (go_at_call 91; (with_reducible refine OW.out.mono ?_); rintro e w' ⟨rfl, rfl⟩)
      | (go_at_call 63; (with_reducible refine DR.out.mono ?_); rintro e w2 ⟨rfl, hb⟩; have R2 := Lib.hid hb; clear hb))
    go_ret
    rw [E1.out, E2.out]
    exact ⟨rfl, R2.out⟩
  · have E1 := Lib.hid (show trimb x p = false by unfold trimb; rw [decide_eq_false ho]; rfl)
    have E2 := Lib.hid (show trimd x p = x from if_neg ho)
    have n0 : ¬ ((ca.owner x.own p).1 < 0) := fun h1 => ho (by
      rw [ca.owner_no ((ca.owner_neg V.good p).1 h1)])
    have t1 : decide ((ca.owner x.own p).1 < 0) = false := decide_eq_false n0
    generalize (ca.owner x.own p).1 = o at *
    clear h V ho n0
    go_enter Tryz.func103, Tryz.ntmps103
    go_wp2_with (first
      | (go_at_call 91; (with_reducible refine OW.out.mono ?_); rintro e w' ⟨rfl, rfl⟩))
    go_ret
    rw [E1.out, E2.out]
    exact Pa.same HP.out (World.grownBy.refl _ _) rfl
/-! ### Quit -/
theorem tlo_cut (G : ca.Good T own) (T' : Nat) (vo : Value) (cnt : Nat) {t k : Nat} (ht : t < 9) (hk : 1 ≤ k ∧ k < 5) : (tlo (qown own t k) T' vo cnt).set (t * 5 + k) (.int .i64 0) = tlo (qown own t (k + 1)) T' vo cnt := by
  unfold tlo
  rw [List.set_append_left _ _ (by rw [List.length_map, own45_len]; omega), ← own45_q G ht hk, List.map_set]
/-- A place that is nobody's. -/
theorem Ph.cut (h : Ph w K V H vk vs vo os y) (G : ca.Good T own) {t k : Nat} (ht : t < 9) (hk : 1 ≤ k ∧ k < 5) (ho : y.own = qown own t k) : Ph (w.setCell ⟨H, 65 + t * 5 + k, none⟩ (.int .i64 0)) K V H vk vs vo os { y with own := qown own t (k + 1) } := by
  rw [Nat.add_assoc]
  have hg := set_gr w H (65 + (t * 5 + k)) (.int .i64 0)
  have o1 := h.off
  have hh := hh_tail h.hh (t * 5 + k) (.int .i64 0)
  rw [ho, tlo_cut G y.T vo y.cnt ht hk] at hh
  exact ⟨hh, fun q hq hn => h.vv q (by rwa [set_size] at hq) hn, h.hk, fun q hq => by rw [set_size]; exact h.kl q hq, h.ok, h.lp.gr hg (fun q hq hm => o1 (by simp at hm; rw [hq, hm])), fun o ho => ⟨va_gr (h.fl o ho).1 hg (fun q hq hm => h.offs ho (by simp at hm; rw [hq, hm])), (h.fl o ho).2⟩, h.eq⟩
/-- What stands when the first classes' pages are nobody's, and those ahead of j are dropped. -/
def qst (x : Hs) (t : Int) (k j : Nat) : Hs × Nat := (pgl x.own t j).foldl dstep ({ x with own := qown x.own t k }, 0)
theorem qst_own (x : Hs) (t : Int) (k j : Nat) : (qst x t k j).1.own = qown x.own t k := (drps_T _ _ _).2
theorem qst_T (x : Hs) (t : Int) (k j : Nat) : (qst x t k j).1.T = x.T := (drps_T _ _ _).1
theorem qst_next (x : Hs) (t : Int) (k k' j : Nat) : qst x t k' j = ({ (qst x t k j).1 with own := qown x.own t k' }, (qst x t k j).2) := by
  unfold qst
  have h1 := dsteps_own (pgl x.own t j) { x with own := qown x.own t k } 0 (qown x.own t k')
  rw [← h1]
theorem qst_more (x : Hs) (t : Int) (k : Nat) {j : Nat} (hj : 1 ≤ j) : qst x t k (j + 1) = dstep (qst x t k j) (ca.page x.own t j) := by
  unfold qst
  rw [pgl_more _ _ hj, List.foldl_append]
  rfl
theorem qst_one (V : Iv x) (t : Int) : qst x t 1 1 = (x, 0) := by
  unfold qst
  rw [qown_one V.good]
  rfl
theorem qst_five (V : Iv x) (t : Int) : qst x t 5 5 = drps (x.left t) (x.pgs t) := by
  unfold qst
  rw [dsteps_perm V.good, qown_end V.good]
  rfl
theorem qst_le (x : Hs) (t : Int) (k j : Nat) : (qst x t k j).2 ≤ j := by
  have := drps_le (pgl x.own t j) { x with own := qown x.own t k } 0
  unfold qst
  unfold pgl at this ⊢
  rw [List.length_map, List.length_range] at this
  omega
theorem qst_iv (V : Iv x) (t : Int) (k j : Nat) (hj : j ≤ k) : Iv (qst x t k j).1 := by
  refine (Iv.drps (pgl x.own t j) { x with own := qown x.own t k } 0 ⟨V.ok, V.live, fun o ho => V.kin o (List.mem_filter.1 ho).1, V.good.filter _⟩ (fun p hp o ho e => ?_)).1
  unfold pgl at hp
  obtain ⟨i, hi, rfl⟩ := List.mem_map.1 hp
  have hi := List.mem_range.1 hi
  have ho' := List.mem_filter.1 ho
  have b := V.good.bnd o ho'.1
  have m := page_mem (own := x.own) (t := t) (k := ((i + 1 : Nat) : Int)) (by omega)
  have := V.good.one' ho'.1 m e
  have h2 := ho'.2
  rw [this] at h2
  simp at h2
  omega
/-- Thread t has left: the plain heap. -/
theorem rQuit_d (h : Pl w K H (toq x)) (V : Iv x) (hT : x.T ≤ 9) {t : Nat} (ht : t < x.T) :
    Calls Tryz.prog 33 #[.pointer (some ⟨H, 0, none⟩), .int .i64 t] w (Pa K H (.int .i64 (drps (x.left t) (x.pgs t)).2) (toq (drps (x.left t) (x.pgs t)).1) w) := by
  have E5 := Lib.hid (qst_five V t)
  rw [← E5.out]
  have HV := Lib.hid V
  have P0 := Lib.hid (show Pl w K H (toq (qst x t 1 1).1) by rw [qst_one V]; exact h)
  have N0 := Lib.hid (show (qst x t 1 1).2 = 0 by rw [qst_one V])
  have cT : w.cell? ⟨H, 110, none⟩ = some (.int .i64 x.T) := by
    obtain ⟨Vv, vk, vs, vo, os, h⟩ := h
    exact h.cT
  have KL := Lib.hid h.lt
  obtain ⟨n, hn⟩ : ∃ n, x.T = n := ⟨_, rfl⟩
  rw [hn] at cT ht hT
  have t0 : decide ((t : Int) < 0) = false := by simp
  have t2 : ¬ ((n : Int) ≤ t) := by omega
  have t9 : (t : Int) < 9 := by omega
  have t8 : (0 : Int) ≤ t := by omega
  have T9 := Lib.hid (show t < 9 by omega)
  have TX := Lib.hid hn
  have TL := Lib.hid ht
  clear h V hn hT
  go_enter Tryz.func33, Tryz.ntmps33
  go_wp2
  go_loopw [5, 6, 7] (fun m i _ wr => ∃ (k : Nat) (K1 : List Nat), 1 ≤ k ∧ k ≤ 5 ∧ i = .int .i64 k ∧ m = .int .i64 (qst x t k k).2 ∧ (∀ q, q ∈ K1 → q ∈ K ∨ w.heap.size ≤ q) ∧ Pl wr K1 H (toq (qst x t k k).1) ∧ Gr K w wr) (fun _ i _ _ => 5 - (intOf i).toNat)
  case atStart => exact ⟨1, K, by omega, by omega, rfl, by rw [N0.out]; rfl, fun q hq => .inl hq, P0.out, Gr.refl _ _⟩
  case round =>
    obtain ⟨k, K1, k1, k5, rfl, rfl, hK1, hP1, hg1⟩ := hrel
    have HK1 := Lib.hid hK1
    have P1 := Lib.hid hP1
    have G1 := Lib.hid hg1
    have NL := qst_le x t k k
    clear hK1 hP1 hg1
    by_cases hlt : k ≤ 4
    · obtain ⟨Vv, vk, vs, vo, os, hP⟩ := P1.out
      have c := hP.own_at (t := t) (k := k) T9.out (by omega)
      have eo : (toq (qst x t k k).1).own = qown x.own t k := qst_own _ _ _ _
      rw [eo, page_q, if_neg (by omega)] at c
      have z := hP.fz (65 + t * 5 + k)
      have P2 := Lib.hid (show Pl (wr.setCell ⟨H, 65 + t * 5 + k, none⟩ (.int .i64 0)) K1 H (toq (qst x t (k + 1) k).1) from by
        have hc := hP.cut HV.out.good T9.out (k := k) ⟨k1, by omega⟩ eo
        rw [qst_next x t k (k + 1) k]
        exact ⟨_, _, _, _, _, hc⟩)
      have G2 := Lib.hid (G1.out.own (Gr.set (L := K1) wr H (65 + t * 5 + k) (.int .i64 0) hP.hk) HK1.out)
      have PR := page_range (y := toq x) HV.out.good t k
      have PR : -1 ≤ ca.page x.own t k ∧ ca.page x.own t k < 64 := PR
      have QM := Lib.hid (qst_more x t (k + 1) k1)
      have QN := Lib.hid (show (qst x t (k + 1) k).2 = (qst x t k k).2 by rw [qst_next x t k (k + 1) k])
      have IV2 := Lib.hid (qst_iv HV.out t (k + 1) k (by omega))
      have S2 := Lib.hid (show w.heap.size ≤ (wr.setCell ⟨H, 65 + t * 5 + k, none⟩ (.int .i64 0)).heap.size from G2.out.size)
      obtain ⟨q, hq⟩ : ∃ q, ca.page x.own t k = q := ⟨_, rfl⟩
      rw [hq] at c PR QM
      obtain ⟨m, hm⟩ : ∃ m, (qst x t k k).2 = m := ⟨_, rfl⟩
      rw [hm] at NL QN
      have l1 : (0 : Int) ≤ (k : Int) := by omega
      have l2 : (k : Int) < 5 := by omega
      have l3 : (k : Int) ≤ 4 := by omega
      have m5 : (m : Int) ≤ 5 := by omega
      have m0 : (0 : Int) ≤ m := by omega
      have p1 := PR.1
      have p2 := PR.2
      rw [hm]
      clear hP eo hq hm PR
      by_cases hq0 : q < 0
      · have D := Lib.hid (show qst x t (k + 1) (k + 1) = qst x t (k + 1) k by rw [QM.out]; unfold dstep; rw [dropb_neg hq0]; rfl)
        obtain rfl : q = -1 := by omega
        go_wp2
        go_roundw
        case rel => exact ⟨k + 1, K1, by omega, by omega, by go_num, by rw [D.out, QN.out], HK1.out, by rw [D.out]; exact P2.out, G2.out⟩
        case measure => first | (simp [intOf]; done) | (simp [intOf]; omega)
      · obtain ⟨Q, rfl⟩ : ∃ Q : Nat, q = Q := ⟨q.toNat, by omega⟩
        have DR := Lib.hid (rDrop_d P2.out IV2.out Q)
        obtain ⟨b, hb⟩ : ∃ b, dropb (qst x t (k + 1) k).1 Q = b := ⟨_, rfl⟩
        have D1 := Lib.hid (show (qst x t (k + 1) (k + 1)).1 = (dstep ((qst x t (k + 1) k).1, 0) (Q : Int)).1 by rw [QM.out]; unfold dstep; split <;> rfl)
        have D2 := Lib.hid (show (qst x t (k + 1) (k + 1)).2 = if b = true then m + 1 else m by rw [QM.out]; unfold dstep; rw [hb]; split <;> simp [QN.out])
        rw [hb] at DR
        have q0 : (0 : Int) ≤ (Q : Int) := by omega
        clear hb
        cases b
        · go_wp2_with (go_at_call 63; (with_reducible refine DR.out.mono ?_); rintro e w3 ⟨rfl, K3, hk3, hp3, hg3⟩; have P3 := Lib.hid hp3; have HK3 := Lib.hid (fun q hq => (hk3 q hq).elim (HK1.out q) (fun e => .inr (Nat.le_trans S2.out e))); have G3 := Lib.hid (G2.out.own hg3 HK1.out); clear hk3 hp3 hg3)
          go_roundw
          case rel => exact ⟨k + 1, K3, by omega, by omega, by go_num, by rw [D2.out]; rfl, HK3.out, by rw [D1.out]; exact P3.out, G3.out⟩
          case measure => first | (simp [intOf]; done) | (simp [intOf]; omega)
        · go_wp2_with (go_at_call 63; (with_reducible refine DR.out.mono ?_); rintro e w3 ⟨rfl, K3, hk3, hp3, hg3⟩; have P3 := Lib.hid hp3; have HK3 := Lib.hid (fun q hq => (hk3 q hq).elim (HK1.out q) (fun e => .inr (Nat.le_trans S2.out e))); have G3 := Lib.hid (G2.out.own hg3 HK1.out); clear hk3 hp3 hg3)
          go_roundw
          case rel => exact ⟨k + 1, K3, by omega, by omega, by go_num, by rw [D2.out]; go_num, HK3.out, by rw [D1.out]; exact P3.out, G3.out⟩
          case measure => first | (simp [intOf]; done) | (simp [intOf]; omega)
    · have e5 := Lib.hid (show k = 5 by omega)
      have l3 : ¬ ((k : Int) ≤ 4) := by omega
      obtain ⟨m, hm⟩ : ∃ m, (qst x t k k).2 = m := ⟨_, rfl⟩
      have M5 := Lib.hid hm
      rw [hm]
      clear hlt k5 k1 NL hm
      go_wp2
      go_ret
      have e5 := e5.out
      subst e5
      exact ⟨by rw [M5.out]; rfl, K1, HK1.out, P1.out, G1.out⟩
end
end Go.Proofs.YtfloleflcoiidaaGreatDoor.ph
