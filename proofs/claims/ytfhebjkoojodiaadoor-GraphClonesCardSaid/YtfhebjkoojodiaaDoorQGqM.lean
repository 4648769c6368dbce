/- Texts that this claim stands on. -/
import Derived.Test.YtfhebjkoojodiaaDoorQGqL
namespace Go.Proofs.YtfhebjkoojodiaaDoor.gq
open Go.ChangeShapes Go.WideShapes Go.ChangeAt Go.RowKit gen va cd gp
set_option linter.unusedVariables false
set_option linter.unusedSimpArgs false
set_option maxHeartbeats 1000000
set_option maxRecDepth 100000
def az (σ : Gs) (k : Int) (t i f j : Nat) (c n no : Int) : Int := if cod σ k t i f j c n ≠ 0 then cod σ k t i f j c n else if gp.ask k = true then no else 0
def Aok (w : World) (K : List Nat) (g : Nat) (σ : Gs) (R tc : Nat) (k : Int) (t i f j : Nat) (n z : Int) (e : Ending) (w' : World) : Prop :=
  ∃ v1 v2, e = .returned (.tuple #[.agg #[.int .i64 v1, .int .i64 v2], .int .i64 z]) ∧ (z = 0 → v1 = (an σ k t i f j n).1 ∧ v2 = (an σ k t i f j n).2) ∧ Pn w K g (if z = 0 then ef σ k t i f j n else σ) R tc w'
section
variable {w w' : World} {K : List Nat} {g : Nat} {σ : Gs} {R tc : Nat} {A : Option Addr} {nc : Nat} {vs : Nat → Value} {bs : Nat → Nat} {k : Int} {t i f j : Nat} {c n no z : Int}
theorem Aok.bad {e : Ending} {v1 v2 : Int} (hz : z ≠ 0) (h : e = .returned (.tuple #[.agg #[.int .i64 v1, .int .i64 v2], .int .i64 z]) ∧ Pn w K g σ R tc w') : Aok w K g σ R tc k t i f j n z e w' := by
  refine ⟨v1, v2, h.1, fun e => absurd e hz, ?_⟩
  rw [if_neg hz]
  exact h.2
theorem Aok.good {e : Ending} {v1 v2 : Int} {σ' : Gs} (h : e = .returned (.tuple #[.agg #[.int .i64 v1, .int .i64 v2], .int .i64 0]) ∧ Pn w K g σ' R tc w') (ha : an σ k t i f j n = (v1, v2)) (hs : ef σ k t i f j n = σ') : Aok w K g σ R tc k t i f j n 0 e w' := by
  refine ⟨v1, v2, h.1, fun _ => by rw [ha]; exact ⟨rfl, rfl⟩, ?_⟩
  rw [if_pos rfl, hs]
  exact h.2
theorem quiet {e0 : Value} {W : World} {F : Nat} {a : Array Value} (h : PwI W K g σ R tc A nc vs bs) (hc : Calls Tryd.prog F a W fun e w' => e = .returned e0 ∧ W.grownBy w' none) : Calls Tryd.prog F a W fun e w' => e = .returned e0 ∧ Pn W K g σ R tc w' :=
  hc.mono (fun e w' q => ⟨q.1, Pn.same h q.2⟩)
theorem live_of (hw : wh σ k t = 0) (hk : k < 16) (h1 : k ≠ 1) : t < σ.N ∧ σ.lv t = true := ⟨(wh_0 hw hk).1, (wh_0 hw hk).2.2 h1⟩
theorem kind_1 (h : PwI w K g σ R tc A nc vs bs) (hw : wh σ 1 t = 0) (hz : az σ 1 t i f j c n no = z) : Calls Tryd.prog 40 #[.pointer (some ⟨g, 0, none⟩), .pointer (some ⟨R, t * 34, none⟩), .agg #[.int .i64 1, .int .i64 (t : Int), .int .i64 (i : Int), .int .i64 (f : Int), .int .i64 (j : Int), .int .i64 c, .int .i64 n], .int .i64 no] w (Aok w K g σ R tc 1 t i f j n z) := by
  obtain rfl : 0 = z := by rw [← hz]; simp [az, cod, hw, nbc, nb, gp.ask]
  obtain ⟨ht, hl, _⟩ := wh_0 hw (by omega)
  exact (act_1 h ht (t : Int) i f j c n no (hl rfl)).mono (fun e w' q => Aok.good q rfl rfl)
theorem kind_2 (h : PwI w K g σ R tc A nc vs bs) (hw : wh σ 2 t = 0) (hz : az σ 2 t i f j c n no = z) : Calls Tryd.prog 40 #[.pointer (some ⟨g, 0, none⟩), .pointer (some ⟨R, t * 34, none⟩), .agg #[.int .i64 2, .int .i64 (t : Int), .int .i64 (i : Int), .int .i64 (f : Int), .int .i64 (j : Int), .int .i64 c, .int .i64 n], .int .i64 no] w (Aok w K g σ R tc 2 t i f j n z) := by
  obtain rfl : 0 = z := by rw [← hz]; simp [az, cod, hw, nbc, nb, gp.ask]
  obtain ⟨ht, hl⟩ := live_of hw (by omega) (by omega)
  exact (act_2 h ht (t : Int) i f j c n no).mono (fun e w' q => Aok.good q rfl rfl)
theorem kind_3 (h : PwI w K g σ R tc A nc vs bs) (hw : wh σ 3 t = 0) (hM : σ.M < 1000) (hz : az σ 3 t i f j c n no = z) : Calls Tryd.prog 40 #[.pointer (some ⟨g, 0, none⟩), .pointer (some ⟨R, t * 34, none⟩), .agg #[.int .i64 3, .int .i64 (t : Int), .int .i64 (i : Int), .int .i64 (f : Int), .int .i64 (j : Int), .int .i64 c, .int .i64 n], .int .i64 no] w (Aok w K g σ R tc 3 t i f j n z) := by
  obtain ⟨ht, hl⟩ := live_of hw (by omega) (by omega)
  by_cases hn : 0 ≤ n ∧ n ≤ 127
  · obtain ⟨l, rfl⟩ := Int.eq_ofNat_of_zero_le hn.1
    have l1 : ¬ ((l : Int) < 0) := by omega
    have l2 : ¬ (127 < (l : Int)) := by omega
    have l3 : l ≤ 127 := by omega
    by_cases hc : ck σ.q c = true
    · have c1 : ¬ (c < 1) ∧ ¬ (σ.q < c) := by unfold ck at hc; simp at hc; omega
      by_cases h16 : 16 ≤ (σ.hd t).length
      · obtain rfl : 3 = z := by rw [← hz]; simp [az, cod, hw, nbc, nb, gp.ask, l1, l2, c1, h16]
        exact (act_3 h _ _ i f j c l no (fun W hg => quiet (h.new hg) (alloc_f (h.new hg) ht 3 t i f j c no l3 hc (by have := h.ok.hl t; omega)))).mono (fun e w' q => Aok.bad (by omega) q)
      · by_cases hno : no = 0
        · subst hno
          obtain rfl : 0 = z := by rw [← hz]; simp [az, cod, hw, nbc, nb, gp.ask, l1, l2, c1, h16]
          have el : ((l : Int)).toNat = l := by omega
          refine (act_3 h _ _ i f j c l 0 (fun W hg => alloc_y (h.new hg) ht 3 t i f j c 0 l3 hc (by omega) rfl hM hl)).mono (fun e w' q => Aok.good q rfl ?_)
          show ({ σ with M := σ.M + 1, nd := upd σ.nd σ.M (List.replicate ((l : Int)).toNat (0, 0)), hd := upd σ.hd t (σ.hd t ++ [(2, (σ.M : Int))]) } : Gs) = _
          rw [el]
        · obtain rfl : no = z := by rw [← hz]; simp [az, cod, hw, nbc, nb, gp.ask, l1, l2, c1, h16]
          exact (act_3 h _ _ i f j c l no (fun W hg => quiet (h.new hg) (alloc_no (h.new hg) ht 3 t i f j c no l3 hc (by omega) (by simpa using hno)))).mono (fun e w' q => Aok.bad hno q)
    · have c1 : c < 1 ∨ σ.q < c := by unfold ck at hc; simp at hc; omega
      obtain rfl : 4 = z := by rw [← hz]; rcases c1 with c1 | c1 <;> simp [az, cod, hw, nbc, nb, gp.ask, c1]
      exact (act_3 h _ _ i f j c l no (fun W hg => quiet (h.new hg) (alloc_c (h.new hg) ht 3 t i f j c no l3 (by simpa using hc)))).mono (fun e w' q => Aok.bad (by omega) q)
  · have c1 : n < 0 ∨ 127 < n := by omega
    obtain rfl : 4 = z := by rw [← hz]; rcases c1 with c1 | c1 <;> simp [az, cod, hw, nbc, nb, gp.ask, c1]
    exact (act_3 h _ _ i f j c n no (fun W hg => quiet (h.new hg) (alloc_n (h.new hg) ht 3 t i f j c no (by simp; omega)))).mono (fun e w' q => Aok.bad (by omega) q)
theorem ahead_z {q : Int} {c n z : Int} {k t i f j : Int} {x1 x2 : Bool} (no : Int) {w : World} {g : Nat} (hq : w.cell? ⟨g, 0, none⟩ = some (.int .i64 q)) (h1 : tk n = x1) (h2 : ck q c = x2) (hz : (if x1 = true then (if x2 = true then no else 4) else 4) = z) : Calls Tryd.prog 59 #[.pointer (some ⟨g, 0, none⟩), .agg #[.int .i64 k, .int .i64 t, .int .i64 i, .int .i64 f, .int .i64 j, .int .i64 c, .int .i64 n], .int .i64 no] w
    fun e w' => e = .returned (.int .i64 z) ∧ w.grownBy w' none := by
  subst hz
  exact ahead_any no hq h1 h2
theorem ob_y {b : Bool} (hi : i < (σ.hd t).length) (h2 : ((σ.hd t).getD i (0, 0)).1 = 2) : ob σ t i f b = if b = true ∧ (σ.nd (yo σ t i)).length ≤ f then 4 else 0 := by
  unfold ob yo
  rw [if_neg (by omega), if_neg (by simpa using h2)]
theorem VP_4 (h : PwI w K g σ R tc A nc vs bs) {k : Int} (ht : t < σ.N) (hl : σ.lv t = true) {x1 x2 : Int} (hv : x1 = 2 → 0 ≤ x2 ∧ x2 < σ.M) (h16 : (σ.hd t).length < 16) {W : World} (hW : w.grownBy W none)
    (VE : ∀ W', W.grownBy W' none → Calls Tryd.prog 65 #[.pointer (some ⟨g, 0, none⟩), .pointer (some ⟨R, t * 34, none⟩), .agg #[.int .i64 k, .int .i64 (t : Int), .int .i64 (i : Int), .int .i64 (f : Int), .int .i64 (j : Int), .int .i64 c, .int .i64 n]] W' fun e w' => e = .returned (.tuple #[.agg #[.int .i64 x1, .int .i64 x2], .int .i64 0]) ∧ W'.grownBy w' none) :
    Calls Tryd.prog 54 #[.pointer (some ⟨g, 0, none⟩), .pointer (some ⟨R, t * 34, none⟩), .agg #[.int .i64 k, .int .i64 (t : Int), .int .i64 (i : Int), .int .i64 (f : Int), .int .i64 (j : Int), .int .i64 c, .int .i64 n]] W fun e w' => e = .returned (.tuple #[.agg #[.int .i64 x1, .int .i64 x2], .int .i64 0]) ∧ Pn W K g { σ with hd := upd σ.hd t (σ.hd t ++ [(x1, x2)]) } R tc w' :=
  (lay_y ((h.new hW).tw ht) h16 k t i f j c n VE).mono (fun e w' q => ⟨q.1, Pn.held (h.new hW) ht hl q.2 (by simp; omega) (fun v hv' e => by
    rcases List.mem_append.1 hv' with hm | hm
    · exact h.ok.hr t v hm e
    · obtain rfl := List.mem_singleton.1 hm
      exact hv e)⟩)
theorem kind_4 (h : PwI w K g σ R tc A nc vs bs) (hw : wh σ 4 t = 0) (hz : az σ 4 t i f j c n no = z) : Calls Tryd.prog 40 #[.pointer (some ⟨g, 0, none⟩), .pointer (some ⟨R, t * 34, none⟩), .agg #[.int .i64 4, .int .i64 (t : Int), .int .i64 (i : Int), .int .i64 (f : Int), .int .i64 (j : Int), .int .i64 c, .int .i64 n], .int .i64 no] w (Aok w K g σ R tc 4 t i f j n z) := by
  obtain ⟨ht, hl⟩ := live_of hw (by omega) (by omega)
  have ok := h.ok
  cases hn : nk n with
  | false =>
    have c1 : n < -1099511627776 ∨ 1099511627775 < n := by unfold nk at hn; simp at hn; omega
    obtain rfl : 4 = z := by rw [← hz]; rcases c1 with c1 | c1 <;> simp [az, cod, hw, nbc, nb, gp.ask, c1]
    exact (act_4 h _ _ i f j c n no (fun W hg => quiet (h.new hg) (lay_e _ 4 t i f j c n (z := 4) rfl (fun W' hg' => value_4 _ t i f j c n (by rw [hn]; rfl))))).mono (fun e w' q => Aok.bad (by omega) q)
  | true =>
    have c1 : ¬ (n < -1099511627776) ∧ ¬ (1099511627775 < n) := by unfold nk at hn; simp at hn; omega
    by_cases h16 : 16 ≤ (σ.hd t).length
    · obtain rfl : 3 = z := by rw [← hz]; simp [az, cod, hw, nbc, nb, gp.ask, c1, h16]
      exact (act_4 h _ _ i f j c n no (fun W hg => quiet (h.new hg) (lay_full ((h.new hg).tw ht) (by have := ok.hl t; omega) 4 t i f j c n (fun W' hg' => value_4 _ t i f j c n (by rw [hn]; rfl))))).mono (fun e w' q => Aok.bad (by omega) q)
    · obtain rfl : 0 = z := by rw [← hz]; simp [az, cod, hw, nbc, nb, gp.ask, c1, h16]
      exact (act_4 h _ _ i f j c n no (fun W hg => VP_4 h ht hl (x1 := 1) (x2 := n) (fun e => by omega) (by omega) hg (fun W' hg' => value_4 _ t i f j c n (by rw [hn]; rfl)))).mono (fun e w' q => Aok.good q rfl rfl)
theorem kind_5 (h : PwI w K g σ R tc A nc vs bs) (hw : wh σ 5 t = 0) (hz : az σ 5 t i f j c n no = z) : Calls Tryd.prog 40 #[.pointer (some ⟨g, 0, none⟩), .pointer (some ⟨R, t * 34, none⟩), .agg #[.int .i64 5, .int .i64 (t : Int), .int .i64 (i : Int), .int .i64 (f : Int), .int .i64 (j : Int), .int .i64 c, .int .i64 n], .int .i64 no] w (Aok w K g σ R tc 5 t i f j n z) := by
  obtain ⟨ht, hl⟩ := live_of hw (by omega) (by omega)
  have ok := h.ok
  by_cases h16 : 16 ≤ (σ.hd t).length
  · obtain rfl : 3 = z := by rw [← hz]; simp [az, cod, hw, nbc, nb, gp.ask, h16]
    exact (act_5 h _ _ i f j c n no (fun W hg => quiet (h.new hg) (lay_full ((h.new hg).tw ht) (by have := ok.hl t; omega) 5 t i f j c n (fun W' hg' => value_5 _ t i f j c n)))).mono (fun e w' q => Aok.bad (by omega) q)
  · obtain rfl : 0 = z := by rw [← hz]; simp [az, cod, hw, nbc, nb, gp.ask, h16]
    exact (act_5 h _ _ i f j c n no (fun W hg => VP_4 h ht hl (x1 := 0) (x2 := 0) (fun e => by omega) (by omega) hg (fun W' hg' => value_5 _ t i f j c n))).mono (fun e w' q => Aok.good q rfl rfl)
theorem kind_6 (h : PwI w K g σ R tc A nc vs bs) (hw : wh σ 6 t = 0) (hz : az σ 6 t i f j c n no = z) : Calls Tryd.prog 40 #[.pointer (some ⟨g, 0, none⟩), .pointer (some ⟨R, t * 34, none⟩), .agg #[.int .i64 6, .int .i64 (t : Int), .int .i64 (i : Int), .int .i64 (f : Int), .int .i64 (j : Int), .int .i64 c, .int .i64 n], .int .i64 no] w (Aok w K g σ R tc 6 t i f j n z) := by
  obtain ⟨ht, hl⟩ := live_of hw (by omega) (by omega)
  have ok := h.ok
  by_cases h16 : 16 ≤ (σ.hd t).length
  · obtain rfl : 3 = z := by rw [← hz]; simp [az, cod, hw, nbc, nb, gp.ask, h16]
    exact (act_6 h _ _ i f j c n no (fun W hg => quiet (h.new hg) (lay_full ((h.new hg).tw ht) (by have := ok.hl t; omega) 6 t i f j c n (fun W' hg' => value_6 _ t i f j c n)))).mono (fun e w' q => Aok.bad (by omega) q)
  · obtain rfl : 0 = z := by rw [← hz]; simp [az, cod, hw, nbc, nb, gp.ask, h16]
    exact (act_6 h _ _ i f j c n no (fun W hg => VP_4 h ht hl (x1 := 2) (x2 := 0) (fun e => ⟨Int.le_refl _, by have := ok.m0; omega⟩) (by omega) hg (fun W' hg' => value_6 _ t i f j c n))).mono (fun e w' q => Aok.good q rfl rfl)
theorem kind_7 (h : PwI w K g σ R tc A nc vs bs) (hw : wh σ 7 t = 0) (hz : az σ 7 t i f j c n no = z) : Calls Tryd.prog 40 #[.pointer (some ⟨g, 0, none⟩), .pointer (some ⟨R, t * 34, none⟩), .agg #[.int .i64 7, .int .i64 (t : Int), .int .i64 (i : Int), .int .i64 (f : Int), .int .i64 (j : Int), .int .i64 c, .int .i64 n], .int .i64 no] w (Aok w K g σ R tc 7 t i f j n z) := by
  obtain ⟨ht, hl⟩ := live_of hw (by omega) (by omega)
  have ok := h.ok
  by_cases hi : (σ.hd t).length ≤ i
  · obtain rfl : 4 = z := by rw [← hz]; simp [az, cod, hw, nbc, nb, gp.ask, hi]
    exact (act_7 h _ _ i f j c n no (fun W hg => quiet (h.new hg) (lay_e _ 7 t i f j c n (z := 4) rfl (fun W' hg' => value_7 _ t i f j c n (fun W2 hg2 => get_no ((((h.new hg).new hg').new hg2).tw ht) (.inr (by omega))))))).mono (fun e w' q => Aok.bad (by omega) q)
  · have hi' : i < (σ.hd t).length := by omega
    by_cases h16 : 16 ≤ (σ.hd t).length
    · obtain rfl : 3 = z := by rw [← hz]; simp [az, cod, hw, nbc, nb, gp.ask, hi, h16]
      exact (act_7 h _ _ i f j c n no (fun W hg => quiet (h.new hg) (lay_full ((h.new hg).tw ht) (by have := ok.hl t; omega) 7 t i f j c n (fun W' hg' => value_7 (x1 := ((σ.hd t).getD i (0, 0)).1) (x2 := ((σ.hd t).getD i (0, 0)).2) _ t i f j c n (fun W2 hg2 => get_yes ((((h.new hg).new hg').new hg2).tw ht) hi' (ok.hl t) rfl))))).mono (fun e w' q => Aok.bad (by omega) q)
    · obtain rfl : 0 = z := by rw [← hz]; simp [az, cod, hw, nbc, nb, gp.ask, hi, h16]
      exact (act_7 h _ _ i f j c n no (fun W hg => VP_4 h ht hl (x1 := ((σ.hd t).getD i (0, 0)).1) (x2 := ((σ.hd t).getD i (0, 0)).2) (fun e => ok.hr t _ (va.getD_mem hi') e) (by omega) hg (fun W' hg' => value_7 (x1 := ((σ.hd t).getD i (0, 0)).1) (x2 := ((σ.hd t).getD i (0, 0)).2) _ t i f j c n (fun W2 hg2 => get_yes ((((h.new hg).new hg').new hg2).tw ht) hi' (ok.hl t) rfl)))).mono (fun e w' q => Aok.good q rfl rfl)
theorem kind_8 (h : PwI w K g σ R tc A nc vs bs) (hw : wh σ 8 t = 0) (hz : az σ 8 t i f j c n no = z) : Calls Tryd.prog 40 #[.pointer (some ⟨g, 0, none⟩), .pointer (some ⟨R, t * 34, none⟩), .agg #[.int .i64 8, .int .i64 (t : Int), .int .i64 (i : Int), .int .i64 (f : Int), .int .i64 (j : Int), .int .i64 c, .int .i64 n], .int .i64 no] w (Aok w K g σ R tc 8 t i f j n z) := by
  obtain ⟨ht, hl⟩ := live_of hw (by omega) (by omega)
  have ok := h.ok
  by_cases h0 : (σ.hd t).length = 0
  · obtain rfl : 4 = z := by rw [← hz]; simp [az, cod, hw, nbc, nb, gp.ask, h0]
    exact (act_8 h _ _ i f j c n no (fun W hg => quiet (h.new hg) (pop_no ((h.new hg).tw ht) h0))).mono (fun e w' q => Aok.bad (by omega) q)
  · obtain rfl : 0 = z := by rw [← hz]; simp [az, cod, hw, nbc, nb, gp.ask, h0]
    exact (act_8 h _ _ i f j c n no (fun W hg => (pop_yes ((h.new hg).tw ht) (by omega) (ok.hl t) (v1 := ((σ.hd t).getD ((σ.hd t).length - 1) (0, 0)).1) (v2 := ((σ.hd t).getD ((σ.hd t).length - 1) (0, 0)).2) rfl).mono (fun e w' q => ⟨q.1, Pn.held (h.new hg) ht hl q.2 (by have := ok.hl t; simp; omega) (fun v hv e => ok.hr t v (List.mem_of_mem_take hv) e)⟩))).mono (fun e w' q => Aok.good q rfl rfl)
theorem kind_12 (h : PwI w K g σ R tc A nc vs bs) (hw : wh σ 12 t = 0) (hz : az σ 12 t i f j c n no = z) : Calls Tryd.prog 40 #[.pointer (some ⟨g, 0, none⟩), .pointer (some ⟨R, t * 34, none⟩), .agg #[.int .i64 12, .int .i64 (t : Int), .int .i64 (i : Int), .int .i64 (f : Int), .int .i64 (j : Int), .int .i64 c, .int .i64 n], .int .i64 no] w (Aok w K g σ R tc 12 t i f j n z) := by
  obtain ⟨ht, hl⟩ := live_of hw (by omega) (by omega)
  have ok := h.ok
  by_cases hi : (σ.hd t).length ≤ i
  · obtain rfl : 4 = z := by rw [← hz]; simp [az, cod, hw, nbc, nb, gp.ask, ob, hi]
    exact (act_12 h _ _ i f j c n no (fun W hg => quiet (h.new hg) (size_e _ 12 t i f j c n (z := 4) rfl (fun W1 hg1 => fields_i ((h.new hg).new hg1) ht 12 t f j c n i hi)))).mono (fun e w' q => Aok.bad (by omega) q)
  · have hi' : i < (σ.hd t).length := by omega
    by_cases h2 : ((σ.hd t).getD i (0, 0)).1 = 2
    · have hr := ok.hr t _ (va.getD_mem hi') h2
      have hv : (σ.hd t).getD i (0, 0) = (2, ((yo σ t i : Nat) : Int)) := Prod.ext h2 (by show ((σ.hd t).getD i (0, 0)).2 = (((σ.hd t).getD i (0, 0)).2.toNat : Int); omega)
      have hy : yo σ t i < σ.M := by unfold yo; omega
      have ho := ob_y (f := f) (b := false) hi' h2
      obtain rfl : 0 = z := by rw [← hz]; simp [az, cod, hw, nbc, nb, gp.ask, ho]
      exact (act_12 h _ _ i f j c n no (fun W hg => quiet (h.new hg) (size_y (h.new hg) ht 12 t f j c n i hi' hv hy rfl))).mono (fun e w' q => Aok.good q rfl rfl)
    · obtain rfl : 12 = z := by rw [← hz]; simp only [az, cod, hw, nbc, nb, gp.ask, ob, if_neg hi, if_pos h2]; simp
      exact (act_12 h _ _ i f j c n no (fun W hg => quiet (h.new hg) (size_e _ 12 t i f j c n (z := 12) rfl (fun W1 hg1 => fields_k ((h.new hg).new hg1) ht 12 t f j c n i hi' (v1 := ((σ.hd t).getD i (0, 0)).1) (v2 := ((σ.hd t).getD i (0, 0)).2) rfl (by simpa using h2))))).mono (fun e w' q => Aok.bad (by omega) q)
theorem kind_9 (h : PwI w K g σ R tc A nc vs bs) (hw : wh σ 9 t = 0) (hz : az σ 9 t i f j c n no = z) : Calls Tryd.prog 40 #[.pointer (some ⟨g, 0, none⟩), .pointer (some ⟨R, t * 34, none⟩), .agg #[.int .i64 9, .int .i64 (t : Int), .int .i64 (i : Int), .int .i64 (f : Int), .int .i64 (j : Int), .int .i64 c, .int .i64 n], .int .i64 no] w (Aok w K g σ R tc 9 t i f j n z) := by
  obtain ⟨ht, hl⟩ := live_of hw (by omega) (by omega)
  have ok := h.ok
  by_cases hi : (σ.hd t).length ≤ i
  · obtain rfl : 4 = z := by rw [← hz]; simp [az, cod, hw, nbc, nb, gp.ask, ob, hi]
    exact (act_9 h _ _ i f j c n no (fun W hg => quiet (h.new hg) (lay_e _ 9 t i f j c n (z := 4) rfl (fun W1 hg1 => value_9e _ t i f j c n rfl (fun W2 hg2 => field_e _ 9 t i f j c n rfl (fun W3 hg3 => fields_i ((((h.new hg).new hg1).new hg2).new hg3) ht 9 t f j c n i hi)))))).mono (fun e w' q => Aok.bad (by omega) q)
  · have hi' : i < (σ.hd t).length := by omega
    by_cases h2 : ((σ.hd t).getD i (0, 0)).1 = 2
    · have hr := ok.hr t _ (va.getD_mem hi') h2
      have hv : (σ.hd t).getD i (0, 0) = (2, ((yo σ t i : Nat) : Int)) := Prod.ext h2 (by show ((σ.hd t).getD i (0, 0)).2 = (((σ.hd t).getD i (0, 0)).2.toNat : Int); omega)
      have hy : yo σ t i < σ.M := by unfold yo; omega
      by_cases hf : (σ.nd (yo σ t i)).length ≤ f
      · have ho : ob σ t i f true = 4 := by rw [ob_y (f := f) (b := true) hi' h2, if_pos ⟨rfl, hf⟩]
        obtain rfl : 4 = z := by rw [← hz]; simp [az, cod, hw, nbc, nb, gp.ask, ho]
        exact (act_9 h _ _ i f j c n no (fun W hg => quiet (h.new hg) (lay_e _ 9 t i f j c n (z := 4) rfl (fun W1 hg1 => value_9e _ t i f j c n rfl (fun W2 hg2 => field_f (((h.new hg).new hg1).new hg2) ht 9 t j c n i f hi' hv hy hf))))).mono (fun e w' q => Aok.bad (by omega) q)
      · have hf' : f < (σ.nd (yo σ t i)).length := by omega
        have ho : ob σ t i f true = 0 := by rw [ob_y (f := f) (b := true) hi' h2, if_neg (fun e => hf e.2)]
        have hvv := ok.nr _ _ hy (va.getD_mem hf')
        by_cases h16 : 16 ≤ (σ.hd t).length
        · obtain rfl : 3 = z := by rw [← hz]; simp [az, cod, hw, nbc, nb, gp.ask, ho, h16]
          exact (act_9 h _ _ i f j c n no (fun W hg => quiet (h.new hg) (lay_full ((h.new hg).tw ht) (by have := ok.hl t; omega) 9 t i f j c n (fun W' hg' => value_9y (v1 := ((σ.nd (yo σ t i)).getD f (0, 0)).1) (v2 := ((σ.nd (yo σ t i)).getD f (0, 0)).2) ((h.new hg).new hg') ht t j c n i f hi' hv hy hf' rfl)))).mono (fun e w' q => Aok.bad (by omega) q)
        · obtain rfl : 0 = z := by rw [← hz]; simp [az, cod, hw, nbc, nb, gp.ask, ho, h16]
          exact (act_9 h _ _ i f j c n no (fun W hg => VP_4 h ht hl (x1 := ((σ.nd (yo σ t i)).getD f (0, 0)).1) (x2 := ((σ.nd (yo σ t i)).getD f (0, 0)).2) hvv (by omega) hg (fun W' hg' => value_9y (v1 := ((σ.nd (yo σ t i)).getD f (0, 0)).1) (v2 := ((σ.nd (yo σ t i)).getD f (0, 0)).2) ((h.new hg).new hg') ht t j c n i f hi' hv hy hf' rfl))).mono (fun e w' q => Aok.good q rfl rfl)
    · obtain rfl : 12 = z := by rw [← hz]; simp only [az, cod, hw, nbc, nb, gp.ask, ob, if_neg hi, if_pos h2]; simp
      exact (act_9 h _ _ i f j c n no (fun W hg => quiet (h.new hg) (lay_e _ 9 t i f j c n (z := 12) rfl (fun W1 hg1 => value_9e _ t i f j c n rfl (fun W2 hg2 => field_e _ 9 t i f j c n rfl (fun W3 hg3 => fields_k ((((h.new hg).new hg1).new hg2).new hg3) ht 9 t f j c n i hi' (v1 := ((σ.hd t).getD i (0, 0)).1) (v2 := ((σ.hd t).getD i (0, 0)).2) rfl (by simpa using h2))))))).mono (fun e w' q => Aok.bad (by omega) q)
theorem kind_10 (h : PwI w K g σ R tc A nc vs bs) (hw : wh σ 10 t = 0) (hz : az σ 10 t i f j c n no = z) : Calls Tryd.prog 40 #[.pointer (some ⟨g, 0, none⟩), .pointer (some ⟨R, t * 34, none⟩), .agg #[.int .i64 10, .int .i64 (t : Int), .int .i64 (i : Int), .int .i64 (f : Int), .int .i64 (j : Int), .int .i64 c, .int .i64 n], .int .i64 no] w (Aok w K g σ R tc 10 t i f j n z) := by
  obtain ⟨ht, hl⟩ := live_of hw (by omega) (by omega)
  have ok := h.ok
  by_cases hi : (σ.hd t).length ≤ i
  · obtain rfl : 4 = z := by rw [← hz]; simp [az, cod, hw, nbc, nb, gp.ask, ob, hi]
    exact (act_10 h _ _ i f j c n no (x1 := 0) (x2 := 0) (fun W hg => quiet (h.new hg) (write_e _ 10 t i f j c n (z := 4) rfl (fun W2 hg2 => field_e _ 10 t i f j c n rfl (fun W3 hg3 => fields_i (((h.new hg).new hg2).new hg3) ht 10 t f j c n i hi))))).mono (fun e w' q => Aok.bad (by omega) q)
  · have hi' : i < (σ.hd t).length := by omega
    by_cases h2 : ((σ.hd t).getD i (0, 0)).1 = 2
    · have hr := ok.hr t _ (va.getD_mem hi') h2
      have hv : (σ.hd t).getD i (0, 0) = (2, ((yo σ t i : Nat) : Int)) := Prod.ext h2 (by show ((σ.hd t).getD i (0, 0)).2 = (((σ.hd t).getD i (0, 0)).2.toNat : Int); omega)
      have hy : yo σ t i < σ.M := by unfold yo; omega
      by_cases hf : (σ.nd (yo σ t i)).length ≤ f
      · have ho : ob σ t i f true = 4 := by rw [ob_y (f := f) (b := true) hi' h2, if_pos ⟨rfl, hf⟩]
        obtain rfl : 4 = z := by rw [← hz]; simp [az, cod, hw, nbc, nb, gp.ask, ho]
        exact (act_10 h _ _ i f j c n no (x1 := 0) (x2 := 0) (fun W hg => quiet (h.new hg) (write_e _ 10 t i f j c n (z := 4) rfl (fun W2 hg2 => field_f ((h.new hg).new hg2) ht 10 t j c n i f hi' hv hy hf)))).mono (fun e w' q => Aok.bad (by omega) q)
      · have hf' : f < (σ.nd (yo σ t i)).length := by omega
        have ho : ob σ t i f true = 0 := by rw [ob_y (f := f) (b := true) hi' h2, if_neg (fun e => hf e.2)]
        by_cases hj : (σ.hd t).length ≤ j
        · obtain rfl : 4 = z := by rw [← hz]; simp [az, cod, hw, nbc, nb, gp.ask, ho, hj]
          exact (act_10 h _ _ i f j c n no (x1 := 0) (x2 := 0) (fun W hg => quiet (h.new hg) (write_j (h.new hg) ht 10 t c n i f j hi' hv hy hf' hj))).mono (fun e w' q => Aok.bad (by omega) q)
        · have hj' : j < (σ.hd t).length := by omega
          obtain rfl : 0 = z := by rw [← hz]; simp [az, cod, hw, nbc, nb, gp.ask, ho, hj]
          refine (act_10 h _ _ i f j c n no (x1 := 0) (x2 := 0) (fun W hg => (write_y (h.new hg) ht 10 t c n i f j hi' hv hy hf' hj' (x1 := ((σ.hd t).getD j (0, 0)).1) (x2 := ((σ.hd t).getD j (0, 0)).2) rfl).mono ?_)).mono (fun e w' q => Aok.good q rfl rfl)
          rintro e w' ⟨rfl, wz, hwz, rfl⟩
          have P := (h.new hg).new hwz
          exact ⟨rfl, K, A, nc, vs, bs, P.fset hy hf' (fun e => ok.hr t _ (va.getD_mem hj') e), (gr.Gr.new hwz).trans (.one ((gr.grown_set _ _ _ _).trans (gr.grown_set _ _ _ _)) (h.node _ hy (by omega)).1), fun k hk => .inl hk⟩
    · obtain rfl : 12 = z := by rw [← hz]; simp only [az, cod, hw, nbc, nb, gp.ask, ob, if_neg hi, if_pos h2]; simp
      exact (act_10 h _ _ i f j c n no (x1 := 0) (x2 := 0) (fun W hg => quiet (h.new hg) (write_e _ 10 t i f j c n (z := 12) rfl (fun W2 hg2 => field_e _ 10 t i f j c n rfl (fun W3 hg3 => fields_k (((h.new hg).new hg2).new hg3) ht 10 t f j c n i hi' (v1 := ((σ.hd t).getD i (0, 0)).1) (v2 := ((σ.hd t).getD i (0, 0)).2) rfl (by simpa using h2)))))).mono (fun e w' q => Aok.bad (by omega) q)
theorem kind_11 (h : PwI w K g σ R tc A nc vs bs) (hw : wh σ 11 t = 0) (hz : az σ 11 t i f j c n no = z) : Calls Tryd.prog 40 #[.pointer (some ⟨g, 0, none⟩), .pointer (some ⟨R, t * 34, none⟩), .agg #[.int .i64 11, .int .i64 (t : Int), .int .i64 (i : Int), .int .i64 (f : Int), .int .i64 (j : Int), .int .i64 c, .int .i64 n], .int .i64 no] w (Aok w K g σ R tc 11 t i f j n z) := by
  obtain ⟨ht, hl⟩ := live_of hw (by omega) (by omega)
  have ok := h.ok
  by_cases hi : (σ.hd t).length ≤ i
  · obtain rfl : 4 = z := by rw [← hz]; simp [az, cod, hw, nbc, nb, gp.ask, hi]
    exact (act_11 h _ _ i f j c n no (fun W hg => quiet (h.new hg) (same_i ((h.new hg).tw ht) (ok.hl t) 11 t f c n i j hi))).mono (fun e w' q => Aok.bad (by omega) q)
  · have hi' : i < (σ.hd t).length := by omega
    by_cases hj : (σ.hd t).length ≤ j
    · obtain rfl : 4 = z := by rw [← hz]; simp [az, cod, hw, nbc, nb, gp.ask, hj]
      exact (act_11 h _ _ i f j c n no (fun W hg => quiet (h.new hg) (same_j ((h.new hg).tw ht) (ok.hl t) 11 t f c n i j hi' hj (v1 := ((σ.hd t).getD i (0, 0)).1) (v2 := ((σ.hd t).getD i (0, 0)).2) rfl))).mono (fun e w' q => Aok.bad (by omega) q)
    · have hj' : j < (σ.hd t).length := by omega
      obtain rfl : 0 = z := by rw [← hz]; simp [az, cod, hw, nbc, nb, gp.ask, hi, hj]
      obtain ⟨x, hx⟩ : ∃ x, (σ.hd t).getD i (0, 0) = x := ⟨_, rfl⟩
      obtain ⟨y, hy⟩ : ∃ y, (σ.hd t).getD j (0, 0) = y := ⟨_, rfl⟩
      have ea : an σ 11 t i f j n = (1, if x = y then 1 else 0) := by
        show (1, if (σ.hd t).getD i (0, 0) = (σ.hd t).getD j (0, 0) then (1 : Int) else 0) = _
        rw [hx, hy]
      by_cases e1 : x.1 = y.1
      · by_cases e2 : x.2 = y.2
        · rw [if_pos (Prod.ext e1 e2)] at ea
          exact (act_11 h _ _ i f j c n no (fun W hg => quiet (h.new hg) (same_a ((h.new hg).tw ht) (ok.hl t) 11 t f c n i j hi' hj' hx hy (by simpa using e1) (by simpa using e2)))).mono (fun e w' q => Aok.good q ea rfl)
        · rw [if_neg (fun e => e2 (by rw [e]))] at ea
          exact (act_11 h _ _ i f j c n no (fun W hg => quiet (h.new hg) (same_c ((h.new hg).tw ht) (ok.hl t) 11 t f c n i j hi' hj' hx hy (by simpa using e1) (by simpa using e2)))).mono (fun e w' q => Aok.good q ea rfl)
      · rw [if_neg (fun e => e1 (by rw [e]))] at ea
        exact (act_11 h _ _ i f j c n no (fun W hg => quiet (h.new hg) (same_b ((h.new hg).tw ht) (ok.hl t) 11 t f c n i j hi' hj' hx hy (by simpa using e1)))).mono (fun e w' q => Aok.good q ea rfl)
theorem ticks_z {k t i f j c : Int} {n z : Int} (w : World) (hz : (if tk n = true then 0 else 4) = z) : Calls Tryd.prog 38 #[.agg #[.int .i64 k, .int .i64 t, .int .i64 i, .int .i64 f, .int .i64 j, .int .i64 c, .int .i64 n]] w fun e w' => e = .returned (.int .i64 z) ∧ w.grownBy w' none := by
  subst hz
  exact ticks_any w rfl
theorem kind_13 (h : PwI w K g σ R tc A nc vs bs) (hw : wh σ 13 t = 0) (hz : az σ 13 t i f j c n no = z) : Calls Tryd.prog 40 #[.pointer (some ⟨g, 0, none⟩), .pointer (some ⟨R, t * 34, none⟩), .agg #[.int .i64 13, .int .i64 (t : Int), .int .i64 (i : Int), .int .i64 (f : Int), .int .i64 (j : Int), .int .i64 c, .int .i64 n], .int .i64 no] w (Aok w K g σ R tc 13 t i f j n z) := by
  obtain ⟨ht, hl⟩ := live_of hw (by omega) (by omega)
  have ok := h.ok
  cases hn : tk n with
  | false =>
    have c1 : n < 1 ∨ 64 < n := by unfold tk at hn; simp at hn; omega
    obtain rfl : 4 = z := by rw [← hz]; rcases c1 with c1 | c1 <;> simp [az, cod, hw, nbc, nb, gp.ask, c1]
    exact (act_13 h _ _ i f j c n no (x1 := 0) (x2 := 0) (fun W hg => quiet (h.new hg) (ticks_z W (by rw [hn]; rfl)))).mono (fun e w' q => Aok.bad (by omega) q)
  | true =>
    have c1 : ¬ (n < 1) ∧ ¬ (64 < n) := by unfold tk at hn; simp at hn; omega
    obtain rfl : 0 = z := by rw [← hz]; simp [az, cod, hw, nbc, nb, gp.ask, c1]
    exact (act_13 h _ _ i f j c n no (x1 := 0) (x2 := 0) (fun W hg => quiet (h.new hg) (ticks_z W (by rw [hn]; rfl)))).mono (fun e w' q => Aok.good q rfl rfl)
theorem kind_14 (h : PwI w K g σ R tc A nc vs bs) (hw : wh σ 14 t = 0) (hz : az σ 14 t i f j c n no = z) : Calls Tryd.prog 40 #[.pointer (some ⟨g, 0, none⟩), .pointer (some ⟨R, t * 34, none⟩), .agg #[.int .i64 14, .int .i64 (t : Int), .int .i64 (i : Int), .int .i64 (f : Int), .int .i64 (j : Int), .int .i64 c, .int .i64 n], .int .i64 no] w (Aok w K g σ R tc 14 t i f j n z) := by
  obtain ⟨ht, hl⟩ := live_of hw (by omega) (by omega)
  have ok := h.ok
  obtain rfl : 0 = z := by rw [← hz]; simp [az, cod, hw, nbc, nb, gp.ask]
  exact (act_14 h _ _ i f j c n no).mono (fun e w' q => Aok.good q rfl rfl)
theorem kind_15 (h : PwI w K g σ R tc A nc vs bs) (hw : wh σ 15 t = 0) (hz : az σ 15 t i f j c n no = z) : Calls Tryd.prog 40 #[.pointer (some ⟨g, 0, none⟩), .pointer (some ⟨R, t * 34, none⟩), .agg #[.int .i64 15, .int .i64 (t : Int), .int .i64 (i : Int), .int .i64 (f : Int), .int .i64 (j : Int), .int .i64 c, .int .i64 n], .int .i64 no] w (Aok w K g σ R tc 15 t i f j n z) := by
  obtain ⟨ht, hl⟩ := live_of hw (by omega) (by omega)
  have ok := h.ok
  cases hn : tk n with
  | false =>
    have c1 : n < 1 ∨ 64 < n := by unfold tk at hn; simp at hn; omega
    obtain rfl : 4 = z := by rw [← hz]; rcases c1 with c1 | c1 <;> simp [az, cod, hw, nbc, nb, gp.ask, c1]
    exact (act_15 h _ _ i f j c n no (x1 := 0) (x2 := 0) (fun W hg => quiet (h.new hg) (ahead_z no (h.new hg).c0 hn rfl (by simp)))).mono (fun e w' q => Aok.bad (by omega) q)
  | true =>
    have c1 : ¬ (n < 1) ∧ ¬ (64 < n) := by unfold tk at hn; simp at hn; omega
    cases hc : ck σ.q c with
    | false =>
      have c2 : c < 1 ∨ σ.q < c := by unfold ck at hc; simp at hc; omega
      obtain rfl : 4 = z := by rw [← hz]; rcases c2 with c2 | c2 <;> simp [az, cod, hw, nbc, nb, gp.ask, c2]
      exact (act_15 h _ _ i f j c n no (x1 := 0) (x2 := 0) (fun W hg => quiet (h.new hg) (ahead_z no (h.new hg).c0 hn hc (by simp)))).mono (fun e w' q => Aok.bad (by omega) q)
    | true =>
      have c2 : ¬ (c < 1) ∧ ¬ (σ.q < c) := by unfold ck at hc; simp at hc; omega
      obtain rfl : no = z := by rw [← hz]; simp [az, cod, hw, nbc, nb, gp.ask, c1, c2]
      have q := act_15 h (t * 34) t i f j c n no (x1 := 0) (x2 := 0) (z := no) (fun W hg => quiet (h.new hg) (ahead_z no (h.new hg).c0 hn hc (by simp)))
      by_cases hno : no = 0
      · rw [hno] at q ⊢
        exact q.mono (fun e w' q => Aok.good q rfl rfl)
      · exact q.mono (fun e w' q => Aok.bad hno q)
end
end Go.Proofs.YtfhebjkoojodiaaDoor.gq
