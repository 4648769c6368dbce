/- Texts that this claim stands on. -/
import Derived.Test.YtkgdcgmbapchcaaGreatDoorQCeV
namespace Go.Proofs.YtkgdcgmbapchcaaGreatDoor.ce
open Go.ChangeShapes Go.WideShapes Go.ChangeAt Go.RowKit gen calls cls geos
set_option linter.unusedVariables false
set_option maxHeartbeats 4000000
set_option maxRecDepth 100000
abbrev int1 (n : Int) : Ending := .returned (.int .i64 n)
def bs (ks tk : List Int) (a : Int) : Int :=
  let p := pg.frs ks (pgOf a)
  if enk p 1 = true then
    let f := if bsOf (pg.kind ks p) a = -1 then enf p 1 else bsOf (pg.kind ks p) a
    if f ∈ tk then f else -1
  else -1
section
variable {w w' : World} {c h g r m q s : Nat} {ks xs cs : List Int} {ws : List Nat}
theorem Left_any (H : Hp w c h g r m q s ks xs cs ws) (hks : pg.Ks ks) (p : Int) :
    Calls Tryz.prog 270 #[.pointer (some ⟨c, 0, none⟩), .int .i64 p] w fun e w' => e = int1 (ln ks cs p) ∧ w.grownBy w' none := by
  have L := Lib.hid (left_any H hks p)
  have H0 := Lib.hid H
  have QF := field_n (lf ks cs p) (ln ks cs p)
  generalize lf ks cs p = x at *
  generalize ln ks cs p = y at *
  clear H hks
  go_enter Tryz.func270, Tryz.ntmps270
  go_wp2_with (first
    | (go_at_call 197; (with_reducible refine (made_yes H0.out).mono ?_); rintro e w' ⟨rfl, rfl⟩)
    | (go_at_call 231; (with_reducible refine L.out.mono ?_); rintro e w2 ⟨rfl, hg⟩; have G2 := Lib.hid hg; clear hg))
  go_ret
  exact ⟨rfl, G2.out⟩
theorem Is_any (H : Hp w c h g r m q s ks xs cs ws) (a : Int) :
    Calls Tryz.prog 236 #[.pointer (some ⟨c, 0, none⟩), .int .i64 a] w fun e w' => e = .returned (.bool (decide (a ∈ bm.nums ws))) ∧ bm.Drew w w' := by
  have R := Lib.hid (bm.Has_any H.set a)
  have f := H.hs
  have H0 := Lib.hid H
  generalize decide (a ∈ bm.nums ws) = b at *
  clear H
  go_enter Tryz.func236, Tryz.ntmps236
  go_wp2_with (first
    | (go_at_call 197; (with_reducible refine (made_yes H0.out).mono ?_); rintro e w' ⟨rfl, rfl⟩)
    | (go_at_call 200; (with_reducible refine R.out.mono ?_); rintro e w2 ⟨rfl, k, rfl⟩))
  go_ret
  exact ⟨rfl, k, rfl⟩
theorem Kind_any (H : Hp w c h g r m q s ks xs cs ws) (p : Int) :
    Calls Tryz.prog 269 #[.pointer (some ⟨c, 0, none⟩), .int .i64 p] w fun e w' => e = int1 (pg.kind ks p) ∧ w = w' := by
  have K := Lib.hid (pg.Kind_any H.tab p)
  have f := H.h0
  have H0 := Lib.hid H
  clear H
  go_enter Tryz.func269, Tryz.ntmps269
  go_wp2_with (first
    | (go_at_call 197; (with_reducible refine (made_yes H0.out).mono ?_); rintro e w' ⟨rfl, rfl⟩)
    | (go_at_call 230; (with_reducible refine K.out.mono ?_); rintro e w' ⟨rfl, rfl⟩))
  go_ret
  exact ⟨rfl, rfl⟩
theorem Load_yes (H : Hp w c h g r m q s ks xs cs ws) (a : Nat) (ha : a < xs.length) :
    Calls Tryz.prog 159 #[.pointer (some ⟨c, 0, none⟩), .int .i64 a] w fun e w' => e = rI (xs.getD a 0) true ∧ w = w' := by
  have K := Lib.hid (mm.Load_yes H.mem a ha)
  have f := H.h1
  have H0 := Lib.hid H
  generalize xs.getD a 0 = v at *
  clear H ha
  go_enter Tryz.func159, Tryz.ntmps159
  go_wp2_with (first
    | (go_at_call 197; (with_reducible refine (made_yes H0.out).mono ?_); rintro e w' ⟨rfl, rfl⟩)
    | (go_at_call 227; (with_reducible refine K.out.mono ?_); rintro e w' ⟨rfl, rfl⟩))
  go_ret2
  exact ⟨rfl, rfl⟩
theorem All_any (H : Hp w c h g r m q s ks xs cs ws) (hT : bm.Tab w) (h0 : s ≠ 1) :
    Calls Tryz.prog 128 #[.pointer (some ⟨c, 0, none⟩)] w (bm.ListAns (bm.nums ws) w) := by
  have R := Lib.hid (bm.All_yes H.set hT h0)
  have f := H.hs
  have H0 := Lib.hid H
  generalize bm.nums ws = l at *
  clear H hT h0
  go_enter Tryz.func128, Tryz.ntmps128
  go_wp2_with (first
    | (go_at_call 197; (with_reducible refine (made_yes H0.out).mono ?_); rintro e w' ⟨rfl, rfl⟩)
    | (go_at_call 198; (with_reducible refine R.out.mono ?_); rintro e w2 ⟨A, d, rfl, ho, hg⟩; have O2 := Lib.hid ho; have G2 := Lib.hid hg; clear ho hg))
  go_ret
  exact ⟨A, d, rfl, O2.out, G2.out⟩
theorem frs_wide {ks : List Int} (hl : ks.length ≤ 64) (p : Int) : -1 ≤ pg.frs ks p ∧ pg.frs ks p ≤ 64 := by
  unfold pg.frs
  split
  · omega
  · rename_i h
    have := pg.siz_in h
    have := pg.siz_wide ks (pg.lowI ks p)
    omega
theorem Base_any (H : Hp w c h g r m q s ks xs cs ws) (hks : pg.Ks ks) (a : Int) :
    Calls Tryz.prog 234 #[.pointer (some ⟨c, 0, none⟩), .int .i64 a] w fun e w' => e = int1 (bs ks (bm.nums ws) a) ∧ bm.Drew w w' := by
  have PG := Lib.hid (fun w => (page_any a w).mono fun e w' ⟨h1, h2⟩ => (⟨h1, h2.symm⟩ : e = int1 (pgOf a) ∧ w' = w))
  have FF := Lib.hid (fun n => (pg.First_any (H.tab.drewN n) hks (pgOf a)).mono fun e w' ⟨h1, h2⟩ => (⟨h1, h2.symm⟩ : e = int1 (pg.frs ks (pgOf a)) ∧ w' = w.drewN n))
  have fw := frs_wide H.tab.le (pgOf a)
  have FP := Lib.hid (show fits (pg.frs ks (pgOf a)) = true by simp [fits]; omega)
  have KF := Lib.hid (kind_fits hks (pg.frs ks (pgOf a)))
  have f := H.h0
  have f2 := H.hs
  have H0 := Lib.hid H
  obtain ⟨p, hp⟩ : ∃ p, pg.frs ks (pgOf a) = p := ⟨_, rfl⟩
  have E : bs ks (bm.nums ws) a = if enk p 1 = true then (if (if bsOf (pg.kind ks p) a = -1 then enf p 1 else bsOf (pg.kind ks p) a) ∈ bm.nums ws then (if bsOf (pg.kind ks p) a = -1 then enf p 1 else bsOf (pg.kind ks p) a) else -1) else -1 := by rw [← hp]; rfl
  obtain ⟨res, hres⟩ : ∃ res, bs ks (bm.nums ws) a = res := ⟨_, rfl⟩
  rw [hres] at E ⊢
  rw [hp] at FF FP KF
  have K := Lib.hid (fun n => pg.Kind_any (H.tab.drewN n) p)
  have HS := Lib.hid (fun n z => bm.Has_any (H.set.drewN n) z)
  clear H hks fw hp hres
  generalize pg.kind ks p = k at *
  generalize pgOf a = pa at *
  generalize hb : bsOf k a = b at *
  have HB := Lib.hid hb
  have HE := Lib.hid E
  clear hb E
  go_enter Tryz.func234, Tryz.ntmps234
  go_wp2_with (first
    | (go_at_call 197; (with_reducible refine (made_yes H0.out).mono ?_); rintro e w' ⟨rfl, rfl⟩))
  go_quiet (first
    | (go_at_call 155; refine Calls.quiet_of_same (PG.out _))
    | (go_at_call 278; refine Calls.quiet_of_same (FF.out _)))
  have K1 := Lib.hid (K.out nq)
  have H1 := Lib.hid (HS.out nq)
  clear K HS PG FF
  cases he : enk p 1 with
  | false =>
    obtain rfl : res = -1 := by rw [HE.out, if_neg (by rw [he]; decide)]
    go_wp2_with (go_at_call 279; (with_reducible refine (ends_any _ _ _ FP.out rfl).mono ?_); rintro e w' ⟨rfl, rfl⟩; rw [he])
    go_ret
    exact ⟨rfl, _, rfl⟩
  | true =>
    obtain ⟨f0, hf⟩ : ∃ f0, (if b = -1 then enf p 1 else b) = f0 := ⟨_, rfl⟩
    have HF := Lib.hid (show res = if f0 ∈ bm.nums ws then f0 else -1 by rw [HE.out, if_pos he, hf])
    obtain ⟨y, hy⟩ : ∃ y, decide (f0 ∈ bm.nums ws) = y := ⟨_, rfl⟩
    have HX := Lib.hid (H1.out f0)
    rw [hy] at HX
    have HR : res = if y = true then f0 else -1 := by rw [HF.out, ← hy]; simp
    clear hy H1 HE HF
    by_cases hm : b = -1
    · rw [if_pos hm] at hf
      have t1 : (b == -1) = true := by simpa using hm
      have t2 : (b != -1) = false := by simpa using hm
      cases y
      all_goals
        simp only [if_true, if_false, Bool.false_eq_true] at HR
        subst HR
        go_wp2_with (first
          | (go_at_call 279; (with_reducible refine (ends_any _ _ _ FP.out rfl).mono ?_); rintro e w' ⟨rfl, rfl⟩; rw [he, hf])
          | (go_at_call 230; (with_reducible refine K1.out.mono ?_); rintro e w' ⟨rfl, rfl⟩)
          | (go_at_call 280; (with_reducible refine (base_any _ _ _ KF.out).mono ?_); rintro e w' ⟨rfl, rfl⟩; rw [HB.out])
          | (go_at_call 200; (with_reducible refine HX.out.mono ?_); rintro e w2 ⟨rfl, k2, rfl⟩))
        go_ret
        exact ⟨rfl, _, rfl⟩
    · rw [if_neg hm] at hf
      subst hf
      have t1 : (b == -1) = false := by simpa using hm
      have t2 : (b != -1) = true := by simpa using hm
      cases y
      all_goals
        simp only [if_true, if_false, Bool.false_eq_true] at HR
        subst HR
        go_wp2_with (first
          | (go_at_call 279; (with_reducible refine (ends_any _ _ _ FP.out rfl).mono ?_); rintro e w' ⟨rfl, rfl⟩; rw [he])
          | (go_at_call 230; (with_reducible refine K1.out.mono ?_); rintro e w' ⟨rfl, rfl⟩)
          | (go_at_call 280; (with_reducible refine (base_any _ _ _ KF.out).mono ?_); rintro e w' ⟨rfl, rfl⟩; rw [HB.out])
          | (go_at_call 200; (with_reducible refine HX.out.mono ?_); rintro e w2 ⟨rfl, k2, rfl⟩))
        go_ret
        exact ⟨rfl, _, rfl⟩
end
end Go.Proofs.YtkgdcgmbapchcaaGreatDoor.ce
namespace Go.Proofs.YtkgdcgmbapchcaaGreatDoor.ce
open Go.ChangeShapes Go.WideShapes Go.ChangeAt Go.RowKit gen calls cls geos
set_option linter.unusedVariables false
set_option maxHeartbeats 4000000
set_option maxRecDepth 100000
abbrev bool1 (b : Bool) : Ending := .returned (.bool b)
section
variable {w w' : World} {c h g r m q s : Nat} {ks xs cs : List Int} {ws : List Nat}
theorem Store_yes (H : Hp w c h g r m q s ks xs cs ws) (hks : pg.Ks ks) (a : Nat) (v : Int) (hb : bs ks (bm.nums ws) a ≠ -1) (ha : a < xs.length) :
    Calls Tryz.prog 168 #[.pointer (some ⟨c, 0, none⟩), .int .i64 a, .int .i64 v] w (Did (.bool true) c h g r m q s ks (xs.set a v) cs (bm.nums ws) w) := by
  have B := Lib.hid (Base_any H hks a)
  obtain ⟨b, hbb⟩ : ∃ b, bs ks (bm.nums ws) a = b := ⟨_, rfl⟩
  rw [hbb] at B hb
  have t1 : (b == -1) = false := by simpa using hb
  have M := Lib.hid (fun n => made_yes (H.drewN n))
  have S := Lib.hid (fun n => mm.Store_yes (H.drewN n).mem a v ha)
  have f := H.h1
  have H0 := Lib.hid H
  clear H hks hb ha hbb
  go_enter Tryz.func168, Tryz.ntmps168
  go_wp2_with (first
    | (go_at_call 234; (with_reducible refine B.out.mono ?_); rintro e w2 ⟨rfl, k, rfl⟩)
    | (go_at_call 197; (with_reducible refine (M.out _).mono ?_); rintro e w' ⟨rfl, rfl⟩)
    | (go_at_call 235; (with_reducible refine (S.out _).mono ?_); rintro e w3 ⟨rfl, hm, hg⟩; have H3 := Lib.hid ((H0.out.drewN k).words hm hg (by rw [List.length_set])); have G3 := Lib.hid (((Gr.refl [h, r, q, s] w).drewN k).trans (Gr.one hg (by simp))); clear hm hg))
  go_ret
  exact ⟨ws, rfl, H3.out, rfl, G3.out⟩
end
theorem zeros_rep (k : Nat) : pg.zeros (List.replicate k 0) = k := by
  induction k with
  | zero => rfl
  | succ k ih => rw [List.replicate_succ, pg.zeros, if_pos rfl, ih]; omega
theorem zero_len : Tryz.zeroCells197 = (Value.pointer none :: Value.pointer none :: (List.replicate 128 (.int .i64 0) ++ [Value.pointer none])).toArray := by rfl
theorem hcs_zero (g m s : Nat) : ((Tryz.zeroCells197.setIfInBounds 0 (.pointer (some ⟨g, 0, none⟩))).setIfInBounds 1 (.pointer (some ⟨m, 0, none⟩))).setIfInBounds 130 (.pointer (some ⟨s, 0, none⟩)) = (hcs g m s (List.replicate 128 0)).toArray := by
  rw [zero_len]
  rfl
def NewAns (k : Nat) (w : World) (e : Ending) (w' : World) : Prop :=
  ∃ c h g r m q s, e = .returned (.pointer (some ⟨c, 0, none⟩)) ∧ Hp w' c h g r m q s (List.replicate k 0) (List.replicate (32 * k) 0) (List.replicate 128 0) bm.zeros ∧
    (w.heap.size ≤ c ∧ w.heap.size ≤ h ∧ w.heap.size ≤ g ∧ w.heap.size ≤ r ∧ w.heap.size ≤ m ∧ w.heap.size ≤ q ∧ w.heap.size ≤ s) ∧ w.grownBy w' none
theorem New_any (n : Int) (k : Nat) (hk : pg.near n 0 64 = k) (w : World) : Calls Tryz.prog 171 #[.int .i64 n] w (NewAns k w) := by
  have h2 : k ≤ 64 := by unfold pg.near at hk; repeat' split at hk
                         all_goals omega
  have P := Lib.hid (pg.New_any n k hk w)
  obtain ⟨K, hK⟩ : ∃ K, K = 32 * k := ⟨_, rfl⟩
  have M := Lib.hid (fun w => mm.New_any (K : Int) K (by unfold mm.near; rw [if_neg (by omega), if_neg (by omega)]) w)
  have S := Lib.hid (fun w => bm.New_any (K : Int) K (by unfold bm.near; rw [if_neg (by omega), if_neg (by omega)]) w)
  have HZ := Lib.hid (zeros_rep k)
  have E1 := Lib.hid (show (k : Int) * 32 = (K : Int) by omega)
  have HK := Lib.hid hK
  clear hk hK
  go_enter Tryz.func171, Tryz.ntmps171
  go_wp2_with (first
    | (go_at_call 239; (with_reducible refine P.out.mono ?_); rintro e w1 ⟨g, r, rfl, ht, h1, h2, hg⟩; have T1 := Lib.hid ht; have HG := Lib.hid h1; have HR := Lib.hid h2; have G1 := Lib.hid hg; clear ht hg h1 h2)
    | (go_at_call 238; (with_reducible refine (pg.Count_any T1.out).mono ?_); rintro e w2 ⟨rfl, hg⟩; rw [HZ.out]; have T2 := Lib.hid (T1.out.kept hg (by simp) (by simp)); have G2 := Lib.hid (G1.out.trans hg); clear hg)
    | (go_at_call 240; rw [E1.out]; (with_reducible refine (M.out _).mono ?_); rintro e w3 ⟨m, q, rfl, ht, h1, h2, hg⟩; have M3 := Lib.hid ht; have HM := Lib.hid h1; have HQ := Lib.hid h2; have T3 := Lib.hid (T2.out.kept hg (by simp) (by simp)); have G3 := Lib.hid (G2.out.trans hg); clear ht hg h1 h2)
    | (go_at_call 174; (with_reducible refine (S.out _).mono ?_); rintro e w4 ⟨s, rfl, ht, h1, hg⟩; have S4 := Lib.hid ht; have HS := Lib.hid h1; have T4 := Lib.hid (T3.out.kept hg (by simp) (by simp)); have M4 := Lib.hid (M3.out.kept hg (by simp) (by simp)); have G4 := Lib.hid (G3.out.trans hg); clear ht hg h1))
  go_ret
  have s1 : (w4.alloc (.cells (hcs g m s (List.replicate 128 0)).toArray 197)).heap.size = w4.heap.size + 1 := by simp
  have gg := (World.grownBy_alloc w4 (.cells (hcs g m s (List.replicate 128 0)).toArray 197) none).trans (World.grownBy_alloc _ (.cells #[.pointer (some ⟨w4.heap.size, 0, none⟩)] 221) none)
  rw [hcs_zero]
  refine ⟨w4.heap.size + 1, w4.heap.size, g, r, m, q, s, rfl, ⟨?_, ?_, T4.out.kept gg (by simp) (by simp), ?_, ?_, by simp⟩, ?_, G4.out.trans gg⟩
  · rw [← s1, heap_alloc_new]
  · rw [Below.heap_alloc _ _ _ (by omega), heap_alloc_new]
  · rw [← HK.out]; exact M4.out.kept gg (by simp) (by simp)
  · rw [← HK.out, List.length_replicate]; exact S4.out.kept gg (by simp)
  · have := G2.out.size; have := G3.out.size; have := G4.out.size; have := HG.out; have := HR.out; have := HM.out; have := HQ.out; have := HS.out
    omega
end Go.Proofs.YtkgdcgmbapchcaaGreatDoor.ce
namespace Go.Proofs.YtkgdcgmbapchcaaGreatDoor.ce
open Go.ChangeShapes Go.WideShapes Go.ChangeAt Go.RowKit gen calls cls geos
set_option linter.unusedVariables false
set_option maxHeartbeats 4000000
set_option maxRecDepth 100000
section
variable {w w' : World} {c h g r m q s : Nat} {ks xs cs : List Int} {ws : List Nat}
theorem room {k f : Int} (h0 : 0 ≤ f) (h1 : f < cl k) : 0 < sz k ∧ f * sz k + sz k ≤ 32 := by
  rcases cl_small h0 h1 with rfl | rfl | rfl | rfl <;> simp [cl, sz] at * <;> omega
theorem Take_some (H : Hp w c h g r m q s ks xs cs ws) (hks : pg.Ks ks) (hb : ch.Bd xs) (p : Nat) {k f n : Int} (hk : pg.kind ks p = k) (hf : lf ks cs p = f) (hn : ln ks cs p = n) (hfn : fits n = true) (hy : ch.tk xs p k f n = true) {a z : Nat} (ha : ata p k f = a) (hz : sz k = z) (hnot : (a : Int) ∉ bm.nums ws) :
    Calls Tryz.prog 216 #[.pointer (some ⟨c, 0, none⟩), .int .i64 p] w (Did (.tuple #[.int .i64 a, .bool true]) c h g r m q s ks (mm.fillN xs a 0 z) (cput cs p (ch.lk xs p k f) (n - 1)) (bm.rising (bm.nums ws ++ [(a : Int)])) w) := by
  obtain ⟨t1, t2, t3⟩ := ch.tk_iff.mp hy
  obtain ⟨p0, p1, k0, k1, hl⟩ := ch.thk_iff.mp t1
  obtain ⟨f0, f1, _⟩ := ch.lk_yes t3
  have r := room f0 f1
  have hat := atk_iff.mpr ⟨p0, p1, f0, f1⟩
  have e : (a : Int) = (p : Int) * 32 + f * sz k := by rw [← ha]; unfold ata; rw [if_pos hat]
  have := (Take_walk H hks p f (ch.lk xs p k f) (n - 1) true (fun W hg => by
    rw [hk, hf, hn]
    exact ch.Take_yes (H.new hg).mem hb p k f n (by simp [fits]; omega) (by rw [← hk]; exact kind_fits hks p) hfn hy) p a z (fun _ => by
    rw [hk]
    exact ⟨rfl, by omega, hat, ha, hz, by omega, by omega, hnot⟩))
  refine this.mono fun e w' he => ?_
  rcases he with ⟨h1, _⟩ | ⟨_, h2⟩
  · cases h1
  · exact h2
theorem Take_none (H : Hp w c h g r m q s ks xs cs ws) (hks : pg.Ks ks) (hb : ch.Bd xs) (p : Int) (hp : fits p = true) (hfn : fits (ln ks cs p) = true) (hy : ch.tk xs p (pg.kind ks p) (lf ks cs p) (ln ks cs p) = false) :
    Calls Tryz.prog 216 #[.pointer (some ⟨c, 0, none⟩), .int .i64 p] w fun e w' => e = rI 0 false ∧ w.grownBy w' none := by
  have := Take_walk H hks p 0 0 0 false (fun W hg => ch.Take_no p _ _ _ (H.new hg).mem hb hp (kind_fits hks p) hfn hy) 0 0 0 (fun e => by cases e)
  refine this.mono fun e w' he => ?_
  rcases he with ⟨_, h1, h2⟩ | ⟨h2, _⟩
  · exact ⟨h1, h2⟩
  · cases h2
end
def x0 : List Int := List.replicate 64 0
def c0 : List Int := List.replicate 128 0
def x1 : List Int := ch.builtN x0 0 16 2
def c1 : List Int := cput c0 0 0 2
def x2 : List Int := mm.fillN x1 0 0 16
def c2 : List Int := cput c1 0 1 1
def c3 : List Int := cput c2 0 2 0
section
variable {w w' : World} {c h g r m q s : Nat} {ws : List Nat}
end
theorem drew_grown {w w' : World} (h : bm.Drew w w') : w.grownBy w' none := by obtain ⟨k, rfl⟩ := h; exact bm.grown_drewN _ _ _
end Go.Proofs.YtkgdcgmbapchcaaGreatDoor.ce
