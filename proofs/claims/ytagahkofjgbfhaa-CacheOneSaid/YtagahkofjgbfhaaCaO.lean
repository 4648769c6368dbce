/- A cache: whatever is set and dropped, what is somebody's is that one's. -/
import Derived.Test.YtagahkofjgbfhaaCaM
namespace Go.Proofs.Ytagahkofjgbfhaa.ca
open Go.ChangeShapes Go.WideShapes Go.ChangeAt Go.RowKit Go.Maps gen calls cls
set_option linter.unusedVariables false
set_option maxHeartbeats 16000000
set_option maxRecDepth 100000
section
variable {w w' : World} {c mb n : Nat} {m : List Ow} {D : DataW Unit} {v : Value}
/-- What a call of the program's answers, and that the cache stands. -/
def Sets (c mb n : Nat) (w : World) (e : Ending) (w' : World) : Prop := ∃ b m' D', e = .returned (.bool b) ∧ At w' c mb n m' D' ∧ w.grownBy w' (some mb)
theorem Set_any (C : At w c mb n m D) (t k p : Int) (ht : fits t = true) (hk : fits k = true) : Calls Try.prog 12 #[.pointer (some ⟨c, 0, none⟩), .int .i64 t, .int .i64 k, .int .i64 p] w (Sets c mb n w) := by
  cases h : may n m t k p
  · exact (Set_not C t k p hk h).mono fun e w' ⟨h1, h2⟩ => ⟨_, m, D, h1, C.new h2, h2.but _⟩
  · exact (Set_may C t k p ht hk h).mono fun e w' ⟨D', h1, h2, h3⟩ => ⟨_, _, D', h1, h2, h3⟩
/-- A script under way. -/
def Scr (w : World) (c mb n l : Nat) (i : Value) (wr : World) : Prop := ∃ (j : Nat) (m' : List Ow) (D' : DataW Unit), j ≤ l ∧ i = .int .i64 j ∧ At wr c mb n m' D' ∧ w.grownBy wr none
/-- What is asked behind the script: whose the page is, and which page that one has; which page a place has, and whose it is. -/
theorem asks (C : At w c mb n m D) (p t k : Int) (ht : fits t = true) (hk : fits k = true) : ∃ u j q v i : Int, owner m p = (u, j) ∧ page m t k = q ∧ owner m q = (v, i) ∧ fits u = true ∧ fits j = true ∧
    ((decide (0 ≤ u) = false ∨ (decide (0 ≤ u) = true ∧ (page m u j != p) = false ∧ decide (p ∈ bm.rising (m.map (·.2.2))) = true)) ∧
     ((decide (q < 0) = true ∧ (decide (u < 0) = true ∨ (decide (u < 0) = false ∧ (u != t) = true) ∨ (decide (u < 0) = false ∧ (u != t) = false ∧ (j != k) = true))) ∨ (decide (q < 0) = false ∧ (v == t) = true ∧ (i == k) = true))) := by
  have G := C.good
  refine ⟨(owner m p).1, (owner m p).2, page m t k, (owner m (page m t k)).1, (owner m (page m t k)).2, rfl, rfl, rfl, ?_⟩
  have hq : (∃ r, (t, k, r) ∈ m) ∨ ∀ r, (t, k, r) ∉ m := by
    by_cases h : ∃ r, (t, k, r) ∈ m
    · exact .inl h
    · exact .inr (fun r hr => h ⟨r, hr⟩)
  have hp : (∃ x ∈ m, x.2.2 = p) ∨ ∀ x ∈ m, x.2.2 ≠ p := by
    by_cases h : ∃ x ∈ m, x.2.2 = p
    · exact .inl h
    · exact .inr (fun x hx e => h ⟨x, hx, e⟩)
  have two : ∀ r, (t, k, r) ∈ m → decide (page m t k < 0) = false ∧ ((owner m (page m t k)).1 == t) = true ∧ ((owner m (page m t k)).2 == k) = true := fun r hr => by
    have h1 : page m t k = r := page_in G hr
    have h2 : owner m r = (t, k) := owner_in G hr
    have h3 := G.bnd _ hr
    rw [h1, h2]
    simp
    simp at h3
    omega
  rcases hp with ⟨x, hx, rfl⟩ | hp
  · have h1 := owner_in G hx
    have h2 := page_in G hx
    have h3 := G.bnd x hx
    have h4 := G.fit C.few hx
    rw [h1]
    refine ⟨h4.1, h4.2.1, .inr ⟨by simp; omega, by simp [h2], ?_⟩, ?_⟩
    · rw [decide_eq_true_eq, bm.mem_rising]
      exact List.mem_map.2 ⟨x, hx, rfl⟩
    · rcases hq with ⟨r, hr⟩ | hq
      · exact .inr (two r hr)
      · refine .inl ⟨by rw [page_no hq]; rfl, .inr ?_⟩
        by_cases h5 : x.1 = t
        · refine .inr ⟨by simp; omega, by simp [h5], ?_⟩
          have : x.2.1 ≠ k := fun h6 => hq x.2.2 (by rw [← h5, ← h6]; exact hx)
          simpa using this
        · exact .inl ⟨by simp; omega, by simpa using h5⟩
  · rw [owner_no hp]
    refine ⟨by decide, by decide, .inl (by decide), ?_⟩
    rcases hq with ⟨r, hr⟩ | hq
    · exact .inr (two r hr)
    · exact .inl ⟨by rw [page_no hq]; rfl, .inl (by decide)⟩
theorem CacheOne_any (n0 : Int) (A : Option Addr) (l c2 : Nat) (f : Nat → Nat → Int) (p t k : Int) (w : World) (hc : l ≤ c2) (hc2 : c2 ≤ maxLen) (ho : Rws w w.heap.size A l 4 f) (ht : fits t = true) (hk : fits k = true) :
    Calls Try.prog 4 #[.int .i64 n0, .slice A l c2, .int .i64 p, .int .i64 t, .int .i64 k] w fun e w' => e = .returned (.bool true) ∧ w.grownBy w' none := by
  obtain ⟨K, hk0, h9⟩ := nat_near n0
  have HO := Lib.hid ho
  have HD := Lib.hid (show 0 < l → ∃ ad, A = some ad from ho.some)
  have HL1 := Lib.hid hc
  have HL2 := Lib.hid hc2
  have NW := Lib.hid (fun w => New_any n0 K hk0 h9 w)
  have FT := Lib.hid ht
  have FK := Lib.hid hk
  clear hk0 ho hc hc2 h9 ht hk
  go_enter Try.func4, Try.ntmps4
  go_wp2_with (first
    | (go_at_call 6; (with_reducible refine (alive_any _).mono ?_); rintro e w1 ⟨rfl, hg⟩; have G1 := Lib.hid hg; clear hg)
    | (go_at_call 8; (with_reducible refine (NW.out _).mono ?_); rintro e w2 ⟨c, mb, rfl, hc, hl, hg⟩; have C2 := Lib.hid hc; have LO := Lib.hid (Nat.le_trans G1.out.size hl.2); have G2 := Lib.hid (G1.out.trans hg); clear hc hl hg)
    | (go_at_call 10; (with_reducible refine (few_any _ _ _ _ HL1.out HL2.out HD.out).mono ?_); rintro e w' ⟨⟨l2, c3, hl1, hl2, rfl⟩, rfl⟩))
  have O2 := Lib.hid (HO.out.less hl2)
  clear HO HD NW HL1 HL2
  go_loopw [12] (fun i wr => Scr w c mb K l2 i wr) (fun i _ => l2 - (intOf i).toNat)
  case atStart => exact ⟨0, [], _, Nat.zero_le _, rfl, C2.out, G2.out⟩
  case round =>
    obtain ⟨j, m', D', hj, rfl, h1, h2⟩ := hrel
    have CR := Lib.hid h1
    have GR := Lib.hid h2
    clear h1 h2 C2 G2
    by_cases hlt : j < l2
    · obtain ⟨b, off, rfl, hb, hc, hw⟩ := (O2.out.kept GR.out (by simp)) j hlt
      have d0 := hc 0 (by omega)
      rw [Nat.add_zero] at d0
      have d1 := hc 1 (by omega)
      have d2 := hc 2 (by omega)
      have d3 := hc 3 (by omega)
      have W1 := Lib.hid (fits_iff.mpr (hw 1 (by omega)))
      have W2 := Lib.hid (fits_iff.mpr (hw 2 (by omega)))
      generalize f j 0 = x0 at d0
      generalize f j 1 = x1 at d1 W1
      generalize f j 2 = x2 at d2 W2
      generalize f j 3 = x3 at d3
      clear hc hw
      have l3 : (j : Int) < l2 := by omega
      have l4 : (0 : Int) ≤ (j : Int) := by omega
      by_cases h2 : x0 = 2
      · have t1 : (x0 == 2) = true := by simpa using h2
        clear h2
        go_wp2_with (first
          | (go_at_call 11; (with_reducible refine (Drop_any CR.out _).mono ?_); rintro e w4 ⟨A4, k4, N4, D4, rfl, h1, h2, hc, hg⟩; have C4 := Lib.hid hc; have G4 := Lib.hid (GR.out.andThen hg (fun j hj => by cases hj; exact .inl LO.out)); clear h1 h2 hc hg))
        go_roundw
        case rel => exact ⟨j + 1, _, D4, by omega, by go_num, C4.out, G4.out⟩
        case measure => simp [intOf]; omega
      · have t1 : (x0 == 2) = false := by simpa using h2
        clear h2
        go_wp2
        go_still_tail 16, (by kernel_rfl)
        change wpList _ _ _ _ _ wr.drew
        have C3 := Lib.hid (CR.out.new (grown_drew wr none))
        have G3 := Lib.hid (GR.out.trans (grown_drew wr none))
        generalize wr.drew = w3 at C3 G3 ⊢
        clear d0 d1 d2 d3
        go_wp2_with (first
          | (go_at_call 12; (with_reducible refine (Set_any C3.out _ _ _ W1.out W2.out).mono ?_); rintro e w4 ⟨bb, m4, D4, rfl, hc, hg⟩; have C4 := Lib.hid hc; have G4 := Lib.hid (G3.out.andThen hg (fun j hj => by cases hj; exact .inl LO.out)); clear hc hg))
        go_roundw
        case rel => exact ⟨j + 1, m4, D4, by omega, by go_num, C4.out, G4.out⟩
        case measure => simp [intOf]; omega
    · obtain ⟨u, j2, q, v2, i2, e1, e2, e3, fu, fj, hA, hB⟩ := asks CR.out p t k FT.out FK.out
      have OP := Lib.hid (fun W (hg : wr.grownBy W none) => Owner_any (CR.out.new hg) p)
      rw [e1] at OP
      have PT := Lib.hid (fun W (hg : wr.grownBy W none) => Page_any (CR.out.new hg) t k FT.out FK.out)
      rw [e2] at PT
      have OQ := Lib.hid (fun W (hg : wr.grownBy W none) => Owner_any (CR.out.new hg) q)
      rw [e3] at OQ
      have PU := Lib.hid (fun W (hg : wr.grownBy W none) => Page_any (CR.out.new hg) u j2 fu fj)
      have AL := Lib.hid (fun W (hg : wr.grownBy W none) => All_any (CR.out.new hg))
      have RL := Lib.hid (show (bm.rising (m'.map (·.2.2))).length ≤ 64 by have := bm.rising_length (m'.map (·.2.2)); rw [List.length_map] at this; have := CR.out.good.few; omega)
      dsimp only at OP OQ
      generalize page m' u j2 = pu at PU hA
      generalize bm.rising (m'.map (·.2.2)) = all at AL RL hA
      clear e1 e2 e3 fu fj
      rcases hA with a1 | ⟨a1, a2, a3⟩
      · rcases hB with ⟨b1, b2 | ⟨b2, b3⟩ | ⟨b2, b3, b4⟩⟩ | ⟨b1, b2, b3⟩
        all_goals
          go_wp2_with (first
            | (have mark := GQ; go_at_call 13; (with_reducible refine (OQ.out _ GQ.out).mono ?_); rintro e w8 ⟨rfl, hg⟩; have GZ := Lib.hid (GQ.out.trans hg); clear hg)
            | (go_at_call 13; (with_reducible refine (OP.out _ (World.grownBy.refl _ _)).mono ?_); rintro e w4 ⟨rfl, hg⟩; have GP := Lib.hid hg; clear hg)
            | (have mark := GP; go_at_call 14; (with_reducible refine (PT.out _ GP.out).mono ?_); rintro e w6 ⟨rfl, hg⟩; have GQ := Lib.hid (GP.out.trans hg); have GZ := Lib.hid (GP.out.trans hg); clear hg))
          go_ret
          exact ⟨rfl, GR.out.trans GZ.out⟩
      · rcases hB with ⟨b1, b2 | ⟨b2, b3⟩ | ⟨b2, b3, b4⟩⟩ | ⟨b1, b2, b3⟩
        all_goals
          go_wp2_with (first
            | (have mark := GQ; go_at_call 13; (with_reducible refine (OQ.out _ GQ.out).mono ?_); rintro e w8 ⟨rfl, hg⟩; have GZ := Lib.hid (GQ.out.trans hg); clear hg)
            | (go_at_call 13; (with_reducible refine (OP.out _ (World.grownBy.refl _ _)).mono ?_); rintro e w4 ⟨rfl, hg⟩; have GO := Lib.hid hg; clear hg)
            | (have mark := GP; go_at_call 14; (with_reducible refine (PT.out _ GP.out).mono ?_); rintro e w6 ⟨rfl, hg⟩; have GQ := Lib.hid (GP.out.trans hg); have GZ := Lib.hid (GP.out.trans hg); clear hg)
            | (go_at_call 14; (with_reducible refine (PU.out _ GO.out).mono ?_); rintro e w5 ⟨rfl, hg⟩; have GU := Lib.hid (GO.out.trans hg); clear hg)
            | (go_at_call 16; (with_reducible refine (AL.out _ GU.out).mono ?_); rintro e w6 ⟨A6, N6, k6, rfl, h1, h2, hg⟩; have N6' := Lib.hid h1; have O6 := Lib.hid (bm.rd_own h2); have GP := Lib.hid (GU.out.trans hg); clear h1 h2 hg)
            | (go_at_call 15; (with_reducible refine (bm.In_any (by have := RL.out; have := N6'.out; omega) O6.out _).mono ?_); rintro e w7 ⟨rfl, hw⟩; subst hw; rw [a3]))
          go_ret
          exact ⟨rfl, GR.out.trans GZ.out⟩
end
end Go.Proofs.Ytagahkofjgbfhaa.ca
