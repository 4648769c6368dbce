/- Joined: PhK, PhL, PhM. -/
import Derived.Test.YtfloleflcoiidaaGreatDoorPhZ
import Derived.Test.YtfloleflcoiidaaGreatDoorTcX
/- The plain heap against a store by lists: what an object is in both, and how one is made. -/
namespace Go.Proofs.YtfloleflcoiidaaGreatDoor.ph
open Go.ChangeShapes Go.WideShapes Go.ChangeAt Go.RowKit gen calls cls geos ce bo st
set_option linter.unusedVariables false
set_option maxHeartbeats 4000000
set_option maxRecDepth 100000
section
variable {w w' w1 : World} {K K' V M X : List Nat} {H : Nat} {x z : Hs} {t n a : Nat}
theorem obs_mem {o : Ob3} : o ∈ obs x ↔ ∃ b ∈ x.tk, o = (b, x.xs.getD b.toNat 0 / 128, tc.fls x b) := by
  unfold obs
  rw [List.mem_map]
  constructor
  · rintro ⟨b, h1, h2⟩; exact ⟨b, h1, h2.symm⟩
  · rintro ⟨b, h1, h2⟩; exact ⟨b, h1, h2.symm⟩
theorem obs_at {o : Ob3} (h : o ∈ obs x) : o.1 ∈ x.tk := by
  obtain ⟨b, h1, rfl⟩ := obs_mem.1 h
  exact h1
theorem obs_up (V : Iv x) : Up (obs x) := by
  unfold Up obs
  rw [List.pairwise_map]
  exact V.ok.up
theorem tk_range (V : Iv x) {b : Int} (hb : b ∈ x.tk) : 0 ≤ b ∧ b ≤ 2047 := by
  have h1 := bz_in V.ok hb
  have h2 := bz_pos V.ok hb
  have h3 := V.ok.len
  have h4 := V.ok.few
  omega
/-- Where an object is kept, it is the same one. -/
theorem fls_keep (V : Iv x) {P : Int → Prop} (hK : Kp P x z) {b : Int} (hb : b ∈ x.tk) (hP : P b) : z.xs.getD b.toNat 0 = x.xs.getD b.toNat 0 ∧ tc.fls z b = tc.fls x b := by
  obtain ⟨_, h2, h3⟩ := hK b hb hP
  have hp := bz_pos V.ok hb
  have hr := tk_range V hb
  have e0 := h3 b.toNat (by omega) (by omega)
  refine ⟨e0, ?_⟩
  obtain ⟨s, m, l1, l2, l3, l4⟩ := V.live b hb
  unfold tc.fls
  rw [e0]
  refine List.map_congr_left fun j hj => ?_
  rw [List.mem_range, l4] at hj
  rw [h3 (b.toNat + 1 + j) (by omega) (by omega)]
theorem rdv_zero : tc.rdv 0 = (0, 0) := by unfold tc.rdv wd.rk wd.rn; simp
/-- One more object. -/
theorem obs_made (V : Iv x) (V1 : Iv z) (hK : Kp (fun _ => True) x z) (M : Made x z a n) (htk : z.tk = bm.rising (x.tk ++ [(a : Int)])) (n8 : n < 128) : obs z = insq (obs x) ((a : Int), (x.cnt : Int), List.replicate n (0, 0)) := by
  have TD : x.tk.takeWhile (fun b => decide (b < (a : Int))) ++ x.tk.dropWhile (fun b => decide (b < (a : Int))) = x.tk := List.takeWhile_append_dropWhile
  have hu := V.ok.up
  have e1 : z.tk = x.tk.takeWhile (fun b => decide (b < (a : Int))) ++ (a : Int) :: x.tk.dropWhile (fun b => decide (b < (a : Int))) := by
    rw [htk]
    refine bm.up_eq (bm.rising_up _) ?_ fun c => ?_
    · rw [List.pairwise_append]
      have tw : ∀ c ∈ x.tk.takeWhile (fun b => decide (b < (a : Int))), c < a := by
        intro c hc
        have := List.all_takeWhile (p := fun b => decide (b < (a : Int))) (l := x.tk)
        rw [List.all_eq_true] at this
        simpa using this c hc
      have dw : ∀ c ∈ x.tk.dropWhile (fun b => decide (b < (a : Int))), (a : Int) < c := fun c hc => by
        have h1 := bm.drop_ge (x := (a : Int)) hu c hc
        have h2 : c ≠ a := fun e => M.not (e ▸ (List.dropWhile_sublist _).subset hc)
        omega
      refine ⟨hu.sublist (List.takeWhile_sublist _), List.pairwise_cons.2 ⟨dw, hu.sublist (List.dropWhile_sublist _)⟩, fun b hb c hc => ?_⟩
      have := tw b hb
      rcases List.mem_cons.1 hc with rfl | hc
      · exact this
      · have := dw c hc; omega
    · rw [bm.mem_rising]
      simp only [List.mem_append, List.mem_cons, List.not_mem_nil, or_false]
      constructor
      · rintro (h | h)
        · rw [← TD, List.mem_append] at h
          exact h.elim .inl (fun e => .inr (.inr e))
        · exact .inr (.inl h)
      · rintro (h | h | h)
        · exact .inl ((List.takeWhile_sublist _).subset h)
        · exact .inr h
        · exact .inl ((List.dropWhile_sublist _).subset h)
  have g : ∀ b ∈ x.tk, (b, z.xs.getD b.toNat 0 / 128, tc.fls z b) = (b, x.xs.getD b.toNat 0 / 128, tc.fls x b) := fun b hb => by
    obtain ⟨h1, h2⟩ := fls_keep V hK hb trivial
    rw [h1, h2]
  have ga : ((a : Int), z.xs.getD (a : Int).toNat 0 / 128, tc.fls z a) = ((a : Int), (x.cnt : Int), List.replicate n (0, 0)) := by
    have h1 := M.ob.2
    rw [Int.toNat_natCast, h1, show ((x.cnt : Int) * 128 + n) / 128 = x.cnt by omega]
    have h2 : tc.fls z a = List.replicate n (0, 0) := by
      unfold tc.fls
      rw [Int.toNat_natCast, h1, show (((x.cnt : Int) * 128 + n) % 128).toNat = n by omega]
      apply List.ext_getElem?
      intro j
      rw [List.getElem?_map, List.getElem?_replicate]
      by_cases hj : j < n
      · rw [List.getElem?_range hj, if_pos hj, Option.map_some, show a + 1 + j = a + (j + 1) by omega, M.zero (j + 1) (by omega) (by omega), rdv_zero]
      · rw [List.getElem?_eq_none (by simp; omega), if_neg hj]
        rfl
    rw [h2]
  unfold insq obs
  rw [e1, List.map_append, List.map_cons, ga, List.takeWhile_map, List.dropWhile_map]
  congr 1
  · exact List.map_congr_left fun b hb => g b ((List.takeWhile_sublist _).subset hb)
  · congr 1
    exact List.map_congr_left fun b hb => g b ((List.dropWhile_sublist _).subset hb)
theorem obs_keep (V : Iv x) (hK : Kp (fun _ => True) x z) (htk : z.tk = x.tk) : obs z = obs x := by
  unfold obs
  rw [htk]
  refine List.map_congr_left fun b hb => ?_
  obtain ⟨h1, h2⟩ := fls_keep V hK hb trivial
  rw [h1, h2]
theorem toq_i (V : Iv x) (hT : x.T ≤ 9) (s8 : x.cnt < 1099511627776) (hl : x.tk.length ≤ 2048) : Qi (toq x) :=
  ⟨V.ok.kds, V.ok.few, hT, s8, by show (obs x).length ≤ 4096; unfold obs; rw [List.length_map]; omega, obs_up V, V.good⟩
/-- A page that the program's store finds is the one that the plain one finds. -/
theorem rfit_eq (V : Iv x) {k : Int} (hk : 1 ≤ k ∧ k ≤ 4) (p : Nat) : rfit (toq x) k p = fit x k p := by
  unfold rfit fit
  show ((pg.kind x.ks p == k) && decide (0 < (x.fr (p : Int).toNat).length) && decide ((ca.owner x.own p).1 < 0)) = _
  by_cases h : pg.kind x.ks p = k
  · have t := (V.ok.told (p := p) (by omega)).2.1
    have ho : decide ((ca.owner x.own p).1 < 0) = ((ca.owner x.own p).1 == -1) := by
      by_cases h1 : (ca.owner x.own p).1 < 0
      · have h2 := (ca.owner_neg V.good p).1 h1
        rw [ca.owner_no h2]
        rfl
      · rw [decide_eq_false h1]
        symm
        rw [beq_eq_false_iff_ne]
        omega
    rw [t, Int.toNat_natCast, ho]
    congr 2
    apply decide_eq_decide.2
    omega
  · have : (pg.kind x.ks p == k) = false := by simpa using h
    rw [this]
    rfl
theorem fit_len (V : Iv x) {k : Int} (hk : 1 ≤ k ∧ k ≤ 4) {p : Nat} (h : fit x k p = true) : p < x.ks.length ∧ p < 64 := by
  unfold fit at h
  simp only [Bool.and_eq_true, beq_iff_eq] at h
  obtain ⟨P, e, p64, pl⟩ := there V.ok.few (z := (p : Int)) (by omega)
  omega
theorem own_get {t : Nat} (ht : t < x.T) (hT : x.T ≤ 9) (k : Nat) (hk : 1 ≤ k ∧ k ≤ 4) (p : Int) : ca.page (ca.rest x.own t k ++ [((t : Int), (k : Int), p)]) t k = p := by
  rw [page_put _ _ _ _ _ _ (by omega), if_pos ⟨rfl, rfl⟩]
/-- No room: the plain one. -/
theorem rSno (h : Pl w K H (toq x)) (V : Iv x) (hT : x.T ≤ 9) (s8 : x.cnt < 1099511627776) (hl : x.tk.length ≤ 2048) (ht : t < x.T) (S : Sno x t n) :
    Calls Tryz.prog 30 #[.pointer (some ⟨H, 0, none⟩), .int .i64 t, .int .i64 n] w (Pa K H (two 0 10) (toq x) w) := by
  have Q := toq_i V hT s8 hl
  have hP := h
  obtain ⟨V0, vk, vs, vo, os, h⟩ := h
  rcases S with ⟨h1, N, hN, N1, hf⟩ | ⟨h1, hno, hl2, hf⟩
  · exact (rSlow_full5 h Q ht h1 hN hf).mono fun e w' ⟨k1, k2⟩ => Pa.same hP k2 k1
  · obtain ⟨hk, _, hsz⟩ := cl_ofn (n := n) (by omega) (by omega)
    refine rSlow_full h Q ht h1 (fun W hg => rFast_no (h.gr (Gr.new (L := []) hg) (by simp)) Q ht h1 hno) (fun W hg => ?_)
    have hW := h.gr (Gr.new (L := []) hg) (by simp)
    refine ropen_any hW Q hk (z := -1) (y' := toq x) (fun p hp h2 _ => ?_) (fun _ W2 hg2 => ?_) (fun p hp h2 => rfl)
    · rw [rfit_eq V hk] at h2
      rw [hl2 p (fit_len V hk h2).2] at h2
      cases h2
    · have hW2 := hW.gr (Gr.new (L := []) hg2) (by simp)
      exact (rCarve_none hW2.hh Q.len _ hf).mono fun e w' ⟨k1, k2⟩ => Pa.same ⟨_, _, _, _, _, hW2⟩ k2 k1
end
end Go.Proofs.YtfloleflcoiidaaGreatDoor.ph

/- The plain heap against a store by lists: Slow, when there is room. -/
namespace Go.Proofs.YtfloleflcoiidaaGreatDoor.ph
open Go.ChangeShapes Go.WideShapes Go.ChangeAt Go.RowKit gen calls cls geos ce bo st
set_option linter.unusedVariables false
set_option maxHeartbeats 4000000
set_option maxRecDepth 100000
section
variable {w w' w1 : World} {K K' V M X : List Nat} {H : Nat} {x z : Hs} {t n a : Nat}
theorem rSlo (h : Pl w K H (toq x)) (V : Iv x) (hT : x.T ≤ 9) (s8 : x.cnt < 1099511627776) (hl : x.tk.length ≤ 2048) (ht : t < x.T) (S : Slo x t n z a) :
    Calls Tryz.prog 30 #[.pointer (some ⟨H, 0, none⟩), .int .i64 t, .int .i64 n] w (Pa K H (two a 0) (toq z) w) := by
  have Q := toq_i V hT s8 hl
  obtain ⟨V1, K1, M1, T1⟩ := Slo_iv V s8 (by omega) S
  have n8 := Slo_le S
  have hP := h
  obtain ⟨V0, vk, vs, vo, os, h⟩ := h
  have hne : ∀ o ∈ (toq x).ob, o.1 ≠ a := fun o ho e => M1.not (e ▸ obs_at ho)
  have OB : z.tk = bm.rising (x.tk ++ [(a : Int)]) → obs z = insq (obs x) ((a : Int), (x.cnt : Int), List.replicate n (0, 0)) := fun e => obs_made V V1 K1 M1 e (by omega)
  rcases S with ⟨h1, p, N, m, hN, N1, hf, ha, hz, rfl⟩ | ⟨h1, p, m, f, rest, hp, C, rfl⟩ | ⟨h1, hno, p, m, f, rest, p64, hf, hl2, C, rfl⟩ | ⟨h1, hno, hl2, p, m, m0, n0, f, rest, hf, e1, e2, C, rfl⟩
  · have e : toq ((x.spanned p N a m).begun a n) = Hq.begun { toq x with ks := pg.spanN x.ks p N } a n := by
      unfold toq Hq.begun
      dsimp only
      rw [OB rfl]
      rfl
    rw [e]
    exact rSlow_large h Q ht h1 hN N1 hf ha hne
  all_goals
    obtain ⟨hk, _, hsz⟩ := cl_ofn (n := n) (by omega) (by omega)
    obtain ⟨c1, c2, c3, c4, c5⟩ := C
    obtain ⟨k, hkk, _⟩ := ofn_nat n
  · have fr := (V.ok.tkt (p := p) (by omega) c3).2.2
    have e : toq ((x.took p f rest a m).begun a n) = Hq.begun { toq x with fr := upd x.fr p rest } a n := by
      unfold toq Hq.begun
      dsimp only
      rw [OB rfl]
      rfl
    rw [e]
    have cw := cl_wide (pg.kind x.ks p)
    exact rSlow_fast h Q ht h1 (fun W hg => rFast_yes (h.gr (Gr.new (L := []) hg) (by simp)) Q ht h1 hp c1 c3 (by omega) c4 c5 hne)
  · have fr := (V.ok.tkt (p := p) (by omega) c3).2.2
    have cw := cl_wide (pg.kind x.ks p)
    have hf' := hf
    unfold fit at hf'
    simp only [Bool.and_eq_true, decide_eq_true_eq, beq_iff_eq] at hf'
    obtain ⟨⟨f1, f2⟩, f3⟩ := hf'
    have ne := (ca.owner_neg V.good p).1 (by omega)
    have VO := V.owned (t := (t : Int)) ⟨by omega, by omega⟩ hk p64 f1 ne
    have e : toq (((x.owned t (ofn n) p).took p f rest a m).begun a n) = Hq.begun { toq (x.owned t (ofn n) p) with fr := upd x.fr p rest } a n := by
      unfold toq Hq.begun
      dsimp only
      rw [OB rfl]
      rfl
    rw [e]
    refine rSlow_more (y' := toq x) h Q ht h1 (fun W hg => rFast_no (h.gr (Gr.new (L := []) hg) (by simp)) Q ht h1 hno) (fun W hg => ?_) p64 (y2 := toq (x.owned t (ofn n) p)) rfl (toq_i VO hT s8 hl) rfl ?_ c1 c3 (by omega) c4 c5 hne
    · refine ropen_any (h.gr (Gr.new (L := []) hg) (by simp)) Q hk (z := p) (y' := toq x) (fun q hq h2 h3 => ?_) (fun hn _ _ => ?_) (fun _ _ _ => rfl)
      · rw [rfit_eq V hk] at h2
        rcases Nat.lt_trichotomy q p with h4 | h4 | h4
        · rw [hl2 q h4] at h2; cases h2
        · rw [h4]
        · have := h3 p h4
          rw [rfit_eq V hk, hf] at this
          cases this
      · have := hn p (fit_len V hk hf).1
        rw [rfit_eq V hk, hf] at this
        cases this
    · show ca.page (ca.rest x.own t (ofn n) ++ [((t : Int), ofn n, (p : Int))]) t (ofn n) = p
      rw [hkk]
      exact own_get ht hT k (by omega) p
  · obtain ⟨V2, K2, ne⟩ := V.carved hk hf e1 e2
    have fr := (V2.ok.tkt (p := p) (by omega) c3).2.2
    have cw := cl_wide (pg.kind (x.carved p (ofn n) m0 n0).ks p)
    have fp := pg.find_at (n := 1) (by omega) hf
    have fw := V.ok.few
    have p64 : p < 64 := by omega
    have VO := V2.owned (t := (t : Int)) ⟨by omega, by show (t : Int) < x.T; omega⟩ hk p64 c1 ne
    have oc : obs (x.carved p (ofn n) m0 n0) = obs x := obs_keep V K2 rfl
    have qc : toq (x.carved p (ofn n) m0 n0) = { toq x with ks := x.ks.set p (ofn n), fr := upd x.fr p (ch.from_ 0 n0) } := by
      unfold toq
      rw [oc]
      rfl
    have e : toq ((((x.carved p (ofn n) m0 n0).owned t (ofn n) p).took p f rest a m).begun a n) = Hq.begun { toq ((x.carved p (ofn n) m0 n0).owned t (ofn n) p) with fr := upd (x.carved p (ofn n) m0 n0).fr p rest } a n := by
      have oc2 : obs ((x.carved p (ofn n) m0 n0).owned t (ofn n) p) = obs x := oc
      unfold toq Hq.begun
      dsimp only
      rw [OB rfl, oc2]
      rfl
    rw [e]
    refine rSlow_more (y' := toq (x.carved p (ofn n) m0 n0)) h Q ht h1 (fun W hg => rFast_no (h.gr (Gr.new (L := []) hg) (by simp)) Q ht h1 hno) (fun W hg => ?_) p64 (y2 := toq ((x.carved p (ofn n) m0 n0).owned t (ofn n) p)) rfl (toq_i VO hT s8 hl) rfl ?_ c1 c3 (by omega) c4 c5 (fun o ho => hne o (by
      have oc2 : obs ((x.carved p (ofn n) m0 n0).owned t (ofn n) p) = obs x := oc
      show o ∈ obs x
      rw [← oc2]
      exact ho))
    · have hW := h.gr (Gr.new (L := []) hg) (by simp)
      refine ropen_any hW Q hk (z := p) (y' := toq (x.carved p (ofn n) m0 n0)) (fun q hq h2 h3 => ?_) (fun _ W2 hg2 => ?_) (fun q hq h2 => ?_)
      · have hq' : q < x.ks.length := hq
        rw [rfit_eq V hk, hl2 q (by omega)] at h2
        cases h2
      · have hW2 := hW.gr (Gr.new (L := []) hg2) (by simp)
        refine (rCarve_yes hW2.hh Q.ks Q.len hk hf e2).mono fun e w' ⟨vk2, vs2, k1, k2, k3⟩ => ?_
        have P2 := hW2.heap k2 k3
        rw [qc]
        exact ⟨k1, _, fun q hq => more_or k3.size hq, ⟨_, _, _, _, _, P2⟩, k3.mono (fun q hq => by simp at hq; subst hq; exact hW2.hk)⟩
      · have hq' : q < x.ks.length := hq
        rw [rfit_eq V hk, hl2 q (by omega)] at h2
        cases h2
    · show ca.page (ca.rest x.own t (ofn n) ++ [((t : Int), ofn n, (p : Int))]) t (ofn n) = p
      rw [hkk]
      exact own_get ht hT k (by omega) p
end
end Go.Proofs.YtfloleflcoiidaaGreatDoor.ph

/- The plain heap against a store by lists: a field is written; a new one. -/
namespace Go.Proofs.YtfloleflcoiidaaGreatDoor.ph
open Go.ChangeShapes Go.WideShapes Go.ChangeAt Go.RowKit gen calls cls geos ce bo st
set_option linter.unusedVariables false
set_option maxHeartbeats 4000000
set_option maxRecDepth 100000
section
variable {w w' w1 : World} {K K' V M X : List Nat} {H : Nat} {x z : Hs} {t n a s j i : Nat}
theorem obs_get {b : Int} (k : Nat) (hk : x.tk[k]? = some b) : (obs x)[k]? = some (b, x.xs.getD b.toNat 0 / 128, tc.fls x b) := by
  unfold obs
  rw [List.getElem?_map, hk]
  rfl
theorem obs_stored (V : Iv x) (hb : Ob x a s n) (hz : (n : Int) + 1 ≤ bz x.ks a) (hs : s < x.cnt) (hj : j < n) {v : Int} (hv : -9223372036854775808 ≤ v ∧ v ≤ 9223372036854775807) {o : Ob3} (hi : (obs x)[i]? = some o) (ho : o.1 = a) :
    obs (x.stored (a + 1 + j) v) = (obs x).modify i fun o' => (o'.1, o'.2.1, o.2.2.set j (tc.rdv v)) := by
  obtain ⟨V1, K1, e0, ev⟩ := V.stored hb hz hj hv hs
  have nd : x.tk.Nodup := V.ok.up.imp (fun h => by omega)
  have il : i < x.tk.length := by
    have := (List.getElem?_eq_some_iff.1 hi).1
    unfold obs at this
    simpa using this
  have ti : x.tk[i]? = some (a : Int) := by
    have h1 := obs_get (x := x) i (List.getElem?_eq_getElem il)
    rw [hi] at h1
    injection h1 with h1
    rw [List.getElem?_eq_getElem il]
    have : o.1 = x.tk[i] := by rw [h1]
    rw [← this, ho]
  have oe := obs_get i ti
  rw [hi] at oe
  injection oe with oe
  apply List.ext_getElem?
  intro k
  rw [List.getElem?_modify]
  by_cases hk : k < x.tk.length
  · have tk := List.getElem?_eq_getElem hk
    have h1 : (obs (x.stored (a + 1 + j) v))[k]? = some (x.tk[k], (x.stored (a + 1 + j) v).xs.getD x.tk[k].toNat 0 / 128, tc.fls (x.stored (a + 1 + j) v) x.tk[k]) := obs_get (x := x.stored (a + 1 + j) v) k tk
    rw [h1, obs_get k tk]
    by_cases e : i = k
    · subst e
      have ea : x.tk[i] = a := by rw [List.getElem?_eq_getElem hk] at ti; injection ti
      simp only [Option.map_eq_map, Option.map_some, if_true, Option.some.injEq, Prod.mk.injEq]
      rw [ea, Int.toNat_natCast, e0, hb.wd]
      refine ⟨trivial, rfl, ?_⟩
      rw [oe]
      dsimp only
      have xl : a + 1 + j < x.xs.length := by have := bz_in V.ok hb.tk; omega
      apply List.ext_getElem?
      intro q
      unfold tc.fls
      rw [Int.toNat_natCast, e0, hb.wd, show (((s : Int) * 128 + n) % 128).toNat = n by have := hb.n8; omega, List.getElem?_set, List.getElem?_map, List.getElem?_map, List.length_map, List.length_range]
      by_cases hq : q < n
      · rw [List.getElem?_range hq, Option.map_some, Option.map_some]
        by_cases e2 : j = q
        · subst e2
          rw [if_pos rfl, if_pos hj]
          rw [ev]
        · rw [if_neg e2]
          have : (x.stored (a + 1 + j) v).xs.getD (a + 1 + q) 0 = x.xs.getD (a + 1 + q) 0 := by
            show (x.xs.set (a + 1 + j) v).getD (a + 1 + q) 0 = _
            rw [ch.set_getD _ _ _ _ xl, if_neg (by omega)]
          rw [this]
      · rw [List.getElem?_eq_none (by simp; omega)]
        by_cases e2 : j = q
        · omega
        · rw [if_neg e2]
          rfl
    · simp only [Option.map_eq_map, Option.map_some, if_neg e]
      have hne : x.tk[k] ≠ a := fun e2 => by
        have := (List.getElem?_inj il nd (j := k)).1 (by rw [ti, tk, e2])
        omega
      obtain ⟨h2, h3⟩ := fls_keep V K1 (List.getElem_mem hk) hne
      rw [h2, h3]
  · rw [List.getElem?_eq_none (by unfold obs; rw [List.length_map]; show x.tk.length ≤ k; omega), List.getElem?_eq_none (by unfold obs; rw [List.length_map]; omega)]
    rfl
/-! ### New -/
def vs0 : List Value := List.replicate 64 (.slice none 0 0)
theorem own45_nil : own45 [] = List.replicate 45 0 := by decide
theorem heap_new (v : Value) : (Tryz.zeroCells60.setIfInBounds 0 v).setIfInBounds 110 (.int .i64 1) = (v :: (vs0 ++ tlo [] 1 (.slice none 0 0) 0)).toArray := by
  unfold tlo
  rw [own45_nil]
  rfl
def x0 (k : Nat) : Hs := ⟨List.replicate k 0, List.replicate (32 * k) 0, List.replicate 128 0, [], fun _ => [], [], 0, 1⟩
/-- A plain heap that was made. -/
def NewH (k : Nat) (w : World) (e : Ending) (w' : World) : Prop := ∃ H K, e = .returned (.pointer (some ⟨H, 0, none⟩)) ∧ Pl w' K H (toq (x0 k)) ∧ (∀ q, q ∈ K → w.heap.size ≤ q) ∧ w.grownBy w' none
theorem rNew_any (n : Int) (k : Nat) (hk : pg.near n 0 64 = k) (w : World) : Calls Tryz.prog 28 #[.int .i64 n, .int .i64 1] w (NewH k w) := by
  have P := Lib.hid (pg.rNew_any n k hk w)
  have E := Lib.hid heap_new
  have k64 : k ≤ 64 := by
    unfold pg.near at hk
    repeat' split at hk
    all_goals omega
  clear hk
  go_enter Tryz.func28, Tryz.ntmps28
  go_wp2_with (first
    | (go_at_call 54; (with_reducible refine P.out.mono ?_); rintro e w2 ⟨r, rfl, ho, hg⟩; have O2 := Lib.hid ho; have G2 := Lib.hid hg; clear ho hg))
  go_ret
  have ga := World.grownBy_alloc w2 (.cells ((Tryz.zeroCells60.setIfInBounds 0 (.slice (some ⟨r, 0, none⟩) k k)).setIfInBounds 110 (.int .i64 1)) 60) none
  have sz : (w2.alloc (.cells ((Tryz.zeroCells60.setIfInBounds 0 (.slice (some ⟨r, 0, none⟩) k k)).setIfInBounds 110 (.int .i64 1)) 60)).heap.size = w2.heap.size + 1 := by simp
  have hb := heap_alloc_new w2 (.cells ((Tryz.zeroCells60.setIfInBounds 0 (.slice (some ⟨r, 0, none⟩) k k)).setIfInBounds 110 (.int .i64 1)) 60)
  rw [E.out] at hb ga sz ⊢
  have g2 := G2.out.size
  have O3 := O2.out.alloc (o := .cells ((Value.slice (some ⟨r, 0, none⟩) k k) :: (vs0 ++ tlo [] 1 (.slice none 0 0) 0)).toArray 60)
  have hi : ∀ q, q ∈ List.range w.heap.size ++ [w2.heap.size] → q < w.heap.size ∨ q = w2.heap.size := fun q hq => by simpa using hq
  refine ⟨w2.heap.size, more [] w.heap.size (w2.heap.size + 1), rfl, ⟨List.range w.heap.size ++ [w2.heap.size], .slice (some ⟨r, 0, none⟩) k k, vs0, .slice none 0 0, [], ⟨⟨hb, by simp [vs0], ?_, fun p hp => ⟨.slice none 0 0, (by unfold vs0; rw [List.getElem?_replicate, if_pos hp]), Fx.nil _ _⟩, (by simp), fun q hq => ?_⟩, fun q hq hn => ?_, (more_in (by omega)).2 (.inr (by omega)), fun q hq => ?_, fun q hq => (by cases hq), Lp.nil _ _, fun o ho => (by simp at ho), rfl⟩⟩, fun q hq => ?_, G2.out.trans ga⟩
  · refine ⟨some ⟨r, 0, none⟩, k, k, rfl, li.rd_own O3, fun ad e h0 hm => ?_, Nat.le_refl _, by unfold maxLen; omega⟩
    injection e with e
    subst e
    have h3 := O2.out.lt r rfl
    rcases hi _ hm with h4 | h4
    · have : r < w.heap.size := h4
      omega
    · have : r = w2.heap.size := h4
      omega
  · rw [sz]
    rcases hi q hq with h | h <;> omega
  · rw [sz] at hq
    by_cases h : w.heap.size ≤ q
    · exact absurd ((more_in (V := []) (a := w.heap.size) (b := w2.heap.size + 1) (by omega)).2 (.inr ⟨h, hq⟩)) hn
    · simp
      omega
  · rw [sz]
    have := (more_in (V := []) (by omega)).1 hq
    simp at this
    omega
  · have := (more_in (V := []) (by omega)).1 hq
    simp at this
    omega
end
end Go.Proofs.YtfloleflcoiidaaGreatDoor.ph
