/- What the questions to a heap of cells answer. -/
import Derived.Test.YtpnhanalnbjapaaDoorCeE
namespace Go.Proofs.YtpnhanalnbjapaaDoor.ce
open Go.ChangeShapes Go.WideShapes Go.ChangeAt Go.RowKit gen calls cls geos
set_option linter.unusedVariables false
set_option maxHeartbeats 4000000
set_option maxRecDepth 100000
abbrev int1 (n : Int) : Ending := .returned (.int .i64 n)
/-- Where what an address is in begins. -/
def bs (ks tk : List Int) (a : Int) : Int :=
  let p := pg.frs ks (pgOf a)
  if enk p 1 = true then
    let f := if bsOf (pg.kind ks p) a = -1 then enf p 1 else bsOf (pg.kind ks p) a
    if f ∈ tk then f else -1
  else -1
section
variable {w w' : World} {c h g r m q s : Nat} {ks xs cs : List Int} {ws : List Nat}
theorem Left_any (H : Hp w c h g r m q s ks xs cs ws) (hks : pg.Ks ks) (p : Int) :
    Calls Tryd.prog 31 #[.pointer (some ⟨c, 0, none⟩), .int .i64 p] w fun e w' => e = int1 (ln ks cs p) ∧ w.grownBy w' none := by
  have L := Lib.hid (left_any H hks p)
  have H0 := Lib.hid H
  have QF := field_n (lf ks cs p) (ln ks cs p)
  generalize lf ks cs p = x at *
  generalize ln ks cs p = y at *
  clear H hks
  go_enter Tryd.func31, Tryd.ntmps31
  go_wp2_with (first
    | (go_at_call 40; (with_reducible refine (made_yes H0.out).mono ?_); rintro e w' ⟨rfl, rfl⟩)
    | (go_at_call 45; (with_reducible refine L.out.mono ?_); rintro e w2 ⟨rfl, hg⟩; have G2 := Lib.hid hg; clear hg))
  go_ret
  exact ⟨rfl, G2.out⟩
theorem Is_any (H : Hp w c h g r m q s ks xs cs ws) (a : Int) :
    Calls Tryd.prog 13 #[.pointer (some ⟨c, 0, none⟩), .int .i64 a] w fun e w' => e = .returned (.bool (decide (a ∈ bm.nums ws))) ∧ bm.Drew w w' := by
  have R := Lib.hid (bm.Has_any H.set a)
  have f := H.hs
  have H0 := Lib.hid H
  generalize decide (a ∈ bm.nums ws) = b at *
  clear H
  go_enter Tryd.func13, Tryd.ntmps13
  go_wp2_with (first
    | (go_at_call 40; (with_reducible refine (made_yes H0.out).mono ?_); rintro e w' ⟨rfl, rfl⟩)
    | (go_at_call 49; (with_reducible refine R.out.mono ?_); rintro e w2 ⟨rfl, k, rfl⟩))
  go_ret
  exact ⟨rfl, k, rfl⟩
theorem Kind_any (H : Hp w c h g r m q s ks xs cs ws) (p : Int) :
    Calls Tryd.prog 33 #[.pointer (some ⟨c, 0, none⟩), .int .i64 p] w fun e w' => e = int1 (pg.kind ks p) ∧ w = w' := by
  have K := Lib.hid (pg.Kind_any H.tab p)
  have f := H.h0
  have H0 := Lib.hid H
  clear H
  go_enter Tryd.func33, Tryd.ntmps33
  go_wp2_with (first
    | (go_at_call 40; (with_reducible refine (made_yes H0.out).mono ?_); rintro e w' ⟨rfl, rfl⟩)
    | (go_at_call 43; (with_reducible refine K.out.mono ?_); rintro e w' ⟨rfl, rfl⟩))
  go_ret
  exact ⟨rfl, rfl⟩
theorem Free_any (H : Hp w c h g r m q s ks xs cs ws) :
    Calls Tryd.prog 15 #[.pointer (some ⟨c, 0, none⟩)] w fun e w' => e = int1 (pg.zeros ks) ∧ w.grownBy w' none := by
  have K := Lib.hid (pg.Count_any H.tab)
  have f := H.h0
  have H0 := Lib.hid H
  clear H
  go_enter Tryd.func15, Tryd.ntmps15
  go_wp2_with (first
    | (go_at_call 40; (with_reducible refine (made_yes H0.out).mono ?_); rintro e w' ⟨rfl, rfl⟩)
    | (go_at_call 19; (with_reducible refine K.out.mono ?_); rintro e w2 ⟨rfl, hg⟩; have G2 := Lib.hid hg; clear hg))
  go_ret
  exact ⟨rfl, G2.out⟩
theorem Load_yes (H : Hp w c h g r m q s ks xs cs ws) (a : Nat) (ha : a < xs.length) :
    Calls Tryd.prog 39 #[.pointer (some ⟨c, 0, none⟩), .int .i64 a] w fun e w' => e = rI (xs.getD a 0) true ∧ w = w' := by
  have K := Lib.hid (mm.Load_yes H.mem a ha)
  have f := H.h1
  have H0 := Lib.hid H
  generalize xs.getD a 0 = v at *
  clear H ha
  go_enter Tryd.func39, Tryd.ntmps39
  go_wp2_with (first
    | (go_at_call 40; (with_reducible refine (made_yes H0.out).mono ?_); rintro e w' ⟨rfl, rfl⟩)
    | (go_at_call 75; (with_reducible refine K.out.mono ?_); rintro e w' ⟨rfl, rfl⟩))
  go_ret2
  exact ⟨rfl, rfl⟩
theorem All_any (H : Hp w c h g r m q s ks xs cs ws) (hT : bm.Tab w) (h0 : s ≠ 0) :
    Calls Tryd.prog 36 #[.pointer (some ⟨c, 0, none⟩)] w (bm.ListAns (bm.nums ws) w) := by
  have R := Lib.hid (bm.All_yes H.set hT h0)
  have f := H.hs
  have H0 := Lib.hid H
  generalize bm.nums ws = l at *
  clear H hT h0
  go_enter Tryd.func36, Tryd.ntmps36
  go_wp2_with (first
    | (go_at_call 40; (with_reducible refine (made_yes H0.out).mono ?_); rintro e w' ⟨rfl, rfl⟩)
    | (go_at_call 73; (with_reducible refine R.out.mono ?_); rintro e w2 ⟨A, d, rfl, ho, hg⟩; have O2 := Lib.hid ho; have G2 := Lib.hid hg; clear ho hg))
  go_ret
  exact ⟨A, d, rfl, O2.out, G2.out⟩
theorem Mem_any (H : Hp w c h g r m q s ks xs cs ws) :
    Calls Tryd.prog 16 #[.pointer (some ⟨c, 0, none⟩)] w (mm.NewAns xs w) := by
  have R := Lib.hid (mm.Clone_yes H.mem)
  have f := H.h1
  have H0 := Lib.hid H
  clear H
  go_enter Tryd.func16, Tryd.ntmps16
  go_wp2_with (first
    | (go_at_call 40; (with_reducible refine (made_yes H0.out).mono ?_); rintro e w' ⟨rfl, rfl⟩)
    | (go_at_call 54; (with_reducible refine R.out.mono ?_); rintro e w2 ⟨g2, r2, rfl, hm, h1, h2, hg⟩; have M2 := Lib.hid hm; have HG := Lib.hid h1; have HR := Lib.hid h2; have G2 := Lib.hid hg; clear hm h1 h2 hg))
  go_ret
  exact ⟨g2, r2, rfl, M2.out, HG.out, HR.out, G2.out⟩
theorem frs_wide {ks : List Int} (hl : ks.length ≤ 64) (p : Int) : -1 ≤ pg.frs ks p ∧ pg.frs ks p ≤ 64 := by
  unfold pg.frs
  split
  · omega
  · rename_i h
    have := pg.siz_in h
    have := pg.siz_wide ks (pg.lowI ks p)
    omega
theorem Base_any (H : Hp w c h g r m q s ks xs cs ws) (hks : pg.Ks ks) (a : Int) :
    Calls Tryd.prog 14 #[.pointer (some ⟨c, 0, none⟩), .int .i64 a] w fun e w' => e = int1 (bs ks (bm.nums ws) a) ∧ bm.Drew w w' := by
  have PG := Lib.hid (fun w => (page_any a w).mono fun e w' ⟨h1, h2⟩ => (⟨h1, h2.symm⟩ : e = int1 (pgOf a) ∧ w' = w))
  have FF := Lib.hid (fun n => (pg.First_any (H.tab.drewN n) hks (pgOf a)).mono fun e w' ⟨h1, h2⟩ => (⟨h1, h2.symm⟩ : e = int1 (pg.frs ks (pgOf a)) ∧ w' = w.drewN n))
  have fw := frs_wide H.tab.le (pgOf a)
  have FP := Lib.hid (show fits (pg.frs ks (pgOf a)) = true by simp [fits]; omega)
  have KF := Lib.hid (kind_fits hks (pg.frs ks (pgOf a)))
  have f := H.h0
  have f2 := H.hs
  have H0 := Lib.hid H
  obtain ⟨p, hp⟩ : ∃ p, pg.frs ks (pgOf a) = p := ⟨_, rfl⟩
  have E : bs ks (bm.nums ws) a = if enk p 1 = true then (if (if bsOf (pg.kind ks p) a = -1 then enf p 1 else bsOf (pg.kind ks p) a) ∈ bm.nums ws then (if bsOf (pg.kind ks p) a = -1 then enf p 1 else bsOf (pg.kind ks p) a) else -1) else -1 := by rw [← hp]; rfl
  obtain ⟨res, hres⟩ : ∃ res, bs ks (bm.nums ws) a = res := ⟨_, rfl⟩
  rw [hres] at E ⊢
  rw [hp] at FF FP KF
  have K := Lib.hid (fun n => pg.Kind_any (H.tab.drewN n) p)
  have HS := Lib.hid (fun n z => bm.Has_any (H.set.drewN n) z)
  clear H hks fw hp hres
  generalize pg.kind ks p = k at *
  generalize pgOf a = pa at *
  generalize hb : bsOf k a = b at *
  have HB := Lib.hid hb
  have HE := Lib.hid E
  clear hb E
  go_enter Tryd.func14, Tryd.ntmps14
  go_wp2_with (first
    | (go_at_call 40; (with_reducible refine (made_yes H0.out).mono ?_); rintro e w' ⟨rfl, rfl⟩))
  go_quiet (first
    | (go_at_call 51; refine Calls.quiet_of_same (PG.out _))
    | (go_at_call 50; refine Calls.quiet_of_same (FF.out _)))
  have K1 := Lib.hid (K.out nq)
  have H1 := Lib.hid (HS.out nq)
  clear K HS PG FF
  cases he : enk p 1 with
  | false =>
    obtain rfl : res = -1 := by rw [HE.out, if_neg (by rw [he]; decide)]
    go_wp2_with (go_at_call 52; (with_reducible refine (ends_any _ _ _ FP.out rfl).mono ?_); rintro e w' ⟨rfl, rfl⟩; rw [he])
    go_ret
    exact ⟨rfl, _, rfl⟩
  | true =>
    obtain ⟨f0, hf⟩ : ∃ f0, (if b = -1 then enf p 1 else b) = f0 := ⟨_, rfl⟩
    have HF := Lib.hid (show res = if f0 ∈ bm.nums ws then f0 else -1 by rw [HE.out, if_pos he, hf])
    obtain ⟨y, hy⟩ : ∃ y, decide (f0 ∈ bm.nums ws) = y := ⟨_, rfl⟩
    have HX := Lib.hid (H1.out f0)
    rw [hy] at HX
    have HR : res = if y = true then f0 else -1 := by rw [HF.out, ← hy]; simp
    clear hy H1 HE HF
    by_cases hm : b = -1
    · rw [if_pos hm] at hf
      have t1 : (b == -1) = true := by simpa using hm
      have t2 : (b != -1) = false := by simpa using hm
      cases y
      all_goals
        simp only [if_true, if_false, Bool.false_eq_true] at HR
        subst HR
        go_wp2_with (first
          | (go_at_call 52; (with_reducible refine (ends_any _ _ _ FP.out rfl).mono ?_); rintro e w' ⟨rfl, rfl⟩; rw [he, hf])
          | (go_at_call 43; (with_reducible refine K1.out.mono ?_); rintro e w' ⟨rfl, rfl⟩)
          | (go_at_call 53; (with_reducible refine (base_any _ _ _ KF.out).mono ?_); rintro e w' ⟨rfl, rfl⟩; rw [HB.out])
          | (go_at_call 49; (with_reducible refine HX.out.mono ?_); rintro e w2 ⟨rfl, k2, rfl⟩))
        go_ret
        exact ⟨rfl, _, rfl⟩
    · rw [if_neg hm] at hf
      subst hf
      have t1 : (b == -1) = false := by simpa using hm
      have t2 : (b != -1) = true := by simpa using hm
      cases y
      all_goals
        simp only [if_true, if_false, Bool.false_eq_true] at HR
        subst HR
        go_wp2_with (first
          | (go_at_call 52; (with_reducible refine (ends_any _ _ _ FP.out rfl).mono ?_); rintro e w' ⟨rfl, rfl⟩; rw [he])
          | (go_at_call 43; (with_reducible refine K1.out.mono ?_); rintro e w' ⟨rfl, rfl⟩)
          | (go_at_call 53; (with_reducible refine (base_any _ _ _ KF.out).mono ?_); rintro e w' ⟨rfl, rfl⟩; rw [HB.out])
          | (go_at_call 49; (with_reducible refine HX.out.mono ?_); rintro e w2 ⟨rfl, k2, rfl⟩))
        go_ret
        exact ⟨rfl, _, rfl⟩
end
end Go.Proofs.YtpnhanalnbjapaaDoor.ce
