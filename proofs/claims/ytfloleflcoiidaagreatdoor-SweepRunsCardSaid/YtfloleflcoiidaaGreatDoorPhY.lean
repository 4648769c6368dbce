/- Joined: PhE, PhF, PhG. -/
import Derived.Test.YtfloleflcoiidaaGreatDoorPhX
import Derived.RegionTactic
import Derived.Deep.DeepCutAuto
/- The plain heap's calls: Owner, begin. -/
namespace Go.Proofs.YtfloleflcoiidaaGreatDoor.ph
open Go.ChangeShapes Go.WideShapes Go.ChangeAt Go.RowKit gen calls cls geos ce bo st
set_option linter.unusedVariables false
set_option maxHeartbeats 8000000
set_option maxRecDepth 100000
section
variable {w w' : World} {K V M X : List Nat} {H : Nat} {vk vo vo' : Value} {vs : List Value} {os os' : List Pb} {y : Hq}
/-- No thread ahead of t has page p, nor has t it as a class ahead of k. -/
theorem owner_is {T : Nat} {own : List ca.Ow} (G : ca.Good T own) {t k : Nat} {p : Int} (hp : 0 ≤ p) (hm : ca.page own t k = p) : (ca.owner own p).1 = t := by
  have h := page_mem (own := own) (t := t) (k := k) (by omega)
  rw [hm] at h
  have := ca.owner_in G h
  exact this ▸ rfl
theorem owner_not {T : Nat} {own : List ca.Ow} (G : ca.Good T own) {p : Int} (h : ∀ t k : Nat, t < T → 1 ≤ k → k ≤ 4 → ca.page own t k ≠ p) : (ca.owner own p).1 = -1 := by
  have := ca.owner_no (m := own) (p := p) (fun x hx e => by
    have b := G.bnd x hx
    have := ca.page_in G hx
    refine h x.1.toNat x.2.1.toNat (by omega) (by omega) (by omega) ?_
    rw [show ((x.1.toNat : Nat) : Int) = x.1 by omega, show ((x.2.1.toNat : Nat) : Int) = x.2.1 by omega, this, e])
  rw [this]
theorem rOwner_any (h : Ph w K V H vk vs vo os y) (G : ca.Good y.T y.own) (hT : y.T ≤ 9) {p : Nat} (hp : p < 64) :
    Calls Tryz.prog 91 #[.pointer (some ⟨H, 0, none⟩), .int .i64 p] w fun e w' => e = int1 (ca.owner y.own p).1 ∧ w = w' := by
  have cT := h.cT
  have CO := Lib.hid (fun t k (ht : t < 9) (hk : k < 5) => h.own_at (t := t) (k := k) ht hk)
  have HG := Lib.hid G
  obtain ⟨T, hTT⟩ : ∃ T, y.T = T := ⟨_, rfl⟩
  rw [hTT] at cT HG hT
  clear h G hTT
  go_enter Tryz.func91, Tryz.ntmps91
  go_wp2
  go_loopw [5, 6] (fun i _ wr => ∃ t : Nat, t ≤ T ∧ i = .int .i64 t ∧ (∀ t' k : Nat, t' < t → 1 ≤ k → k ≤ 4 → ca.page y.own t' k ≠ p) ∧ w = wr) (fun i _ _ => T - (intOf i).toNat)
  case atStart => exact ⟨0, Nat.zero_le _, rfl, fun t' k h => absurd h (by omega), rfl⟩
  case round =>
    obtain ⟨t, ht, rfl, hno, rfl⟩ := hrel
    have HNO := Lib.hid hno
    clear hno
    by_cases hlt : t < T
    · have l1 : (0 : Int) ≤ (t : Int) := by omega
      have l2 : (t : Int) < 9 := by omega
      go_wp2
      go_loopw [6] (fun i wr => ∃ k : Nat, 1 ≤ k ∧ k ≤ 5 ∧ i = .int .i64 k ∧ (∀ k' : Nat, 1 ≤ k' → k' < k → ca.page y.own t k' ≠ p) ∧ w = wr) (fun i _ => 5 - (intOf i).toNat)
      case atStart => exact ⟨1, by omega, by omega, rfl, fun k' h1 h2 => absurd h2 (by omega), rfl⟩
      case round =>
        obtain ⟨k, hk1, hk5, rfl, hnk, rfl⟩ := hrel
        have HNK := Lib.hid hnk
        clear hnk
        by_cases hlk : k ≤ 4
        · have c := CO.out t k (by omega) (by omega)
          have m1 : (0 : Int) ≤ (k : Int) := by omega
          have m2 : (k : Int) < 5 := by omega
          have PG := Lib.hid (show ∃ q, ca.page y.own t k = q from ⟨_, rfl⟩)
          obtain ⟨q, hq⟩ := PG.out
          rw [hq] at c
          have HQ := Lib.hid hq
          clear hq PG
          by_cases he : q = p
          · subst he
            have RS := Lib.hid (owner_is HG.out (by omega) HQ.out)
            have t1 : ((p : Int) + 1 == (p : Int) + 1) = true := by simp
            go_wp2
            go_ret
            exact ⟨by rw [RS.out]; rfl, rfl⟩
          · have t1 : (q + 1 == (p : Int) + 1) = false := by simp; omega
            have HE := Lib.hid he
            clear he
            go_wp2
            go_roundw
            case rel =>
              refine ⟨k + 1, by omega, by omega, by go_num, fun k' h1 h2 => ?_, trivial⟩
              by_cases e : k' = k
              · rw [e, HQ.out]; exact HE.out
              · exact HNK.out k' h1 (by omega)
            case measure => simp [intOf]; omega
        · obtain rfl : k = 5 := by omega
          go_wp2
          go_roundw
          case rel =>
            refine ⟨t + 1, by omega, by go_num, fun t' k' h1 h2 h3 => ?_, trivial⟩
            by_cases e : t' = t
            · rw [e]; exact HNK.out k' h2 (by omega)
            · exact HNO.out t' k' (by omega) h2 h3
          case measure => simp [intOf]; omega
    · obtain rfl : t = T := by omega
      have RS := Lib.hid (owner_not HG.out HNO.out)
      go_wp2
      go_ret
      exact ⟨by rw [RS.out]; rfl, rfl⟩
/-! ### begin -/
/-- A boxed object at X, its fields in R. -/
structure Mk (w wx : World) (Y R : Nat) (a m : Int) (n : Nat) : Prop where
  bx : wx.heap[Y]? = some (.cells #[.int .i64 a, .int .i64 m, .slice (some ⟨R, 0, none⟩) n n] 65 (0, 0))
  rw_ : wx.heap[R]? = some (.cells (va.vc (List.replicate n (0, 0))).toArray 199 (0, 0))
  y0 : w.heap.size ≤ Y
  r0 : w.heap.size ≤ R
  gr : w.grownBy wx none
theorem Mk.a {zs : List Value} {n : Nat} (hz : va.vc (List.replicate n (0, 0)) = zs) (a m : Int) : Mk w (((w.alloc (.cells zs.toArray 199)).alloc (.cells #[.int .i64 a, .int .i64 m, .slice (some ⟨w.heap.size, 0, none⟩) n n] 65)).drew) (w.heap.size + 1) w.heap.size a m n := by
  subst hz
  have G1 := World.grownBy_alloc w (.cells (va.vc (List.replicate n (0, 0))).toArray 199) none
  have G2 := World.grownBy_alloc (w.alloc (.cells (va.vc (List.replicate n (0, 0))).toArray 199)) (.cells #[.int .i64 a, .int .i64 m, .slice (some ⟨w.heap.size, 0, none⟩) n n] 65) none
  have e2 := heap_alloc_new (w.alloc (.cells (va.vc (List.replicate n (0, 0))).toArray 199)) (.cells #[.int .i64 a, .int .i64 m, .slice (some ⟨w.heap.size, 0, none⟩) n n] 65)
  rw [show (w.alloc (.cells (va.vc (List.replicate n (0, 0))).toArray 199)).heap.size = w.heap.size + 1 by simp] at e2
  have e1 := heap_alloc_new w (.cells (va.vc (List.replicate n (0, 0))).toArray 199)
  exact ⟨e2, (G2.block w.heap.size (by simp) (by simp)).trans e1, by omega, Nat.le_refl _, (G1.trans G2).trans (ch.grown_drew _ _)⟩
theorem Mk.b {zs : List Value} {n : Nat} (hz : va.vc (List.replicate n (0, 0)) = zs) (a m : Int) : Mk w (((w.alloc (.cells #[.int .i64 a, .int .i64 m, .slice (some ⟨w.heap.size + 1, 0, none⟩) n n] 65)).alloc (.cells zs.toArray 199)).drew) w.heap.size (w.heap.size + 1) a m n := by
  subst hz
  have G1 := World.grownBy_alloc w (.cells #[.int .i64 a, .int .i64 m, .slice (some ⟨w.heap.size + 1, 0, none⟩) n n] 65) none
  have G2 := World.grownBy_alloc (w.alloc (.cells #[.int .i64 a, .int .i64 m, .slice (some ⟨w.heap.size + 1, 0, none⟩) n n] 65)) (.cells (va.vc (List.replicate n (0, 0))).toArray 199) none
  have e2 := heap_alloc_new (w.alloc (.cells #[.int .i64 a, .int .i64 m, .slice (some ⟨w.heap.size + 1, 0, none⟩) n n] 65)) (.cells (va.vc (List.replicate n (0, 0))).toArray 199)
  rw [show (w.alloc (.cells #[.int .i64 a, .int .i64 m, .slice (some ⟨w.heap.size + 1, 0, none⟩) n n] 65)).heap.size = w.heap.size + 1 by simp] at e2
  have e1 := heap_alloc_new w (.cells #[.int .i64 a, .int .i64 m, .slice (some ⟨w.heap.size + 1, 0, none⟩) n n] 65)
  exact ⟨(G2.block w.heap.size (by simp) (by simp)).trans e1, e2, Nat.le_refl _, by omega, (G1.trans G2).trans (ch.grown_drew _ _)⟩
end
end Go.Proofs.YtfloleflcoiidaaGreatDoor.ph

/- The plain heap's begin: the walk. -/
namespace Go.Proofs.YtfloleflcoiidaaGreatDoor.ph
open Go.ChangeShapes Go.WideShapes Go.ChangeAt Go.RowKit gen calls cls geos ce bo st
set_option linter.unusedVariables false
set_option maxHeartbeats 8000000
set_option maxRecDepth 100000
section
variable {w w' : World} {K V M X : List Nat} {H : Nat} {vk vo vo' : Value} {vs : List Value} {os os' : List Pb} {y : Hq}
/-- What stands in the new list when k objects are copied: the new one stands at d. -/
def outk (os : List Pb) (d : Nat) (xo : Pb) (k : Nat) : List Pb := if k ≤ d then os.take k else os.take d ++ xo :: (os.drop d).take (k - d)
theorem outk_len (os : List Pb) (d : Nat) (xo : Pb) (k : Nat) : (outk os d xo k).length ≤ os.length + 1 := by
  unfold outk
  split
  · rw [List.length_take]; omega
  · rw [List.length_append, List.length_cons, List.length_take, List.length_take, List.length_drop]; omega
theorem outk_low {os : List Pb} {d : Nat} (xo : Pb) {k : Nat} {o : Pb} (hk : k < d) (ho : os[k]? = some o) : outk os d xo (k + 1) = outk os d xo k ++ [o] := by
  unfold outk
  rw [if_pos (by omega), if_pos (by omega), List.take_add_one, ho]
  rfl
theorem outk_at {os : List Pb} {d : Nat} (xo : Pb) {o : Pb} (ho : os[d]? = some o) : outk os d xo (d + 1) = (outk os d xo d ++ [xo]) ++ [o] := by
  have hd := (List.getElem?_eq_some_iff.1 ho).1
  unfold outk
  rw [if_neg (by omega), if_pos (Nat.le_refl _), show d + 1 - d = 0 + 1 by omega, List.take_add_one, List.getElem?_drop, Nat.add_zero, ho]
  simp
theorem outk_high {os : List Pb} {d : Nat} (xo : Pb) {k : Nat} {o : Pb} (hk : d < k) (ho : os[k]? = some o) : outk os d xo (k + 1) = outk os d xo k ++ [o] := by
  unfold outk
  rw [if_neg (by omega), if_neg (by omega), show k + 1 - d = (k - d) + 1 by omega, List.take_add_one, List.getElem?_drop, show d + (k - d) = k by omega, ho]
  simp
theorem outk_end {os : List Pb} {d : Nat} (xo : Pb) (hd : d < os.length) : outk os d xo os.length = os.take d ++ xo :: os.drop d := by
  unfold outk
  rw [if_neg (by omega), List.take_of_length_le (l := os.drop d) (by rw [List.length_drop]; omega)]
theorem outk_none {os : List Pb} {d : Nat} (xo : Pb) (hd : os.length = d) : outk os d xo os.length ++ [xo] = os.take d ++ xo :: os.drop d := by
  unfold outk
  rw [if_pos (by omega), List.drop_of_length_le (by omega), hd]
theorem grown_lp {a b c : World} {base : Nat} {v : Value} {m : List Pb} {o : Obj} (hg : a.grownBy b none) (hl : Lp b base v m) (hb : a.heap.size ≤ base) (h : (b.alloc o).grownBy c v.ownBlock) : a.grownBy c none :=
  (hg.trans (World.grownBy_alloc b o none)).andThen h (fun j hj => .inl (Nat.le_trans hb (hl.from_ j hj)))
/-- What begin leaves: W, and then the list is written. -/
structure Bg (w W : World) (H B R : Nat) (v : Value) (a : Int) (n d cnt : Nat) (os : List Pb) : Prop where
  lp : Lp W B v (os.take d ++ ⟨a, cnt, .slice (some ⟨R, 0, none⟩) n n, List.replicate n (0, 0)⟩ :: os.drop d)
  b0 : w.heap.size ≤ B
  r0 : w.heap.size ≤ R
  row : W.heap[R]? = some (.cells (va.vc (List.replicate n (0, 0))).toArray 199 (0, 0))
  mid : ∃ W0, w.grownBy W0 none ∧ (W0.setCell ⟨H, 112, none⟩ (.int .i64 ((cnt + 1 : Nat) : Int))).grownBy W none
theorem rbegin_any (h : Ph w K V H vk vs vo os y) {a : Int} {n d : Nat} (hn : n ≤ 127) (hc : y.cnt < 1099511627776) (hl : y.ob.length ≤ 4096) (hd : d ≤ y.ob.length)
    (h1 : ∀ (k : Nat) o, k < d → y.ob[k]? = some o → o.1 < a) (h2 : ∀ (k : Nat) o, d ≤ k → y.ob[k]? = some o → a < o.1) :
    Calls Tryz.prog 58 #[.pointer (some ⟨H, 0, none⟩), .int .i64 a, .int .i64 n] w fun e w' => e = .returned (.tuple #[]) ∧ ∃ (B R : Nat) (v : Value) (W : World), w' = W.setCell ⟨H, 111, none⟩ v ∧ Bg w W H B R v a n d y.cnt os := by
  have mk := va.make_vas n (by omega)
  have cM := h.cM
  obtain ⟨zs, hzs⟩ : ∃ zs, va.vc (List.replicate n (0, 0)) = zs := ⟨_, rfl⟩
  rw [hzs] at mk
  have hH := h.HK
  have n1 : ¬ (H = w.heap.size) := by omega
  have ZS := Lib.hid hzs
  obtain ⟨N, hN⟩ : ∃ N, y.ob.length = N := ⟨_, rfl⟩
  obtain ⟨A, c, e1, s1, s2⟩ := h.shape
  rw [hN] at e1 s1 hl hd
  subst e1
  have PM := Lib.hid (fun W (hg : w.grownBy W none) => (h.gr (Gr.new (L := []) hg) (by simp)).made (y.cnt + 1))
  have AT := Lib.hid (fun W (W0 : World) (h0 : w.grownBy W0 none) (hg : (W0.setCell ⟨H, 112, none⟩ (.int .i64 ((y.cnt + 1 : Nat) : Int))).grownBy W none) i (hi : i < N) => (((h.gr (Gr.new (L := []) h0) (by simp)).made (y.cnt + 1)).gr (Gr.new (L := []) hg) (by simp)).at_ (i := i) (by show i < y.ob.length; omega))
  have CO := Lib.hid (fun W (W0 : World) (h0 : w.grownBy W0 none) (hg : (W0.setCell ⟨H, 112, none⟩ (.int .i64 ((y.cnt + 1 : Nat) : Int))).grownBy W none) => (((h.gr (Gr.new (L := []) h0) (by simp)).made (y.cnt + 1)).gr (Gr.new (L := []) hg) (by simp)).cO)
  have CF := Lib.hid (fun W (W0 : World) (h0 : w.grownBy W0 none) (hg : (W0.setCell ⟨H, 112, none⟩ (.int .i64 ((y.cnt + 1 : Nat) : Int))).grownBy W none) => (((h.gr (Gr.new (L := []) h0) (by simp)).made (y.cnt + 1)).gr (Gr.new (L := []) hg) (by simp)).fz 111)
  have C0 := Lib.hid (fun W (hg : w.grownBy W none) => (show W.cell? ⟨H, 112, none⟩ = some (.int .i64 y.cnt) ∧ W.frozen? ⟨H, 112, none⟩ = false ∧ H < W.heap.size from ⟨(h.gr (Gr.new (L := []) hg) (by simp)).cM, (h.gr (Gr.new (L := []) hg) (by simp)).fz 112, Nat.lt_of_lt_of_le hH hg.size⟩))
  have SL := Lib.hid (fun o (ho : o ∈ os) => (show ∃ A n c, o.v = .slice A n c from by obtain ⟨A, c, e, _⟩ := h.read ho; exact ⟨A, _, c, e⟩))
  have OL := Lib.hid (show os.length = N by rw [h.len]; exact hN)
  have H1 := Lib.hid h1
  have H2 := Lib.hid h2
  have EP := Lib.hid (fun (p : Pb) (o : Ob3) (e : pob p = o) => (⟨by rw [← e]; rfl, by rw [← e]; rfl⟩ : o.1 = p.a ∧ o.2.1 = p.q))
  obtain ⟨m, hm⟩ : ∃ m, y.cnt = m := ⟨_, rfl⟩
  rw [hm] at PM AT CO CF C0 cM hc ⊢
  have m0 : (0 : Int) ≤ (m : Int) := by omega
  have m1 : (m : Int) < 1099511627776 := by omega
  have em : ((m + 1 : Nat) : Int) = (m : Int) + 1 := by omega
  rw [em] at PM AT CO CF
  have EM := Lib.hid em
  unfold maxLen at s2
  clear h h1 h2 hN hm hc hzs em
  go_enter Tryz.func58, Tryz.ntmps58
  go_upto_region 1 with fail
  go_cut [7] (fun p wx => ∃ Y R, p = .pointer (some ⟨Y, 0, none⟩) ∧ Mk w wx Y R a m n)
  case first =>
    go_region
    all_goals
      go_wp2
      go_meet
      first | exact ⟨_, _, rfl, Mk.a ZS.out a m⟩ | exact ⟨_, _, rfl, Mk.b ZS.out a m⟩
  case rest =>
    obtain ⟨Y, R, rfl, hM⟩ := hcut
    have MM := Lib.hid hM
    obtain ⟨c112, z112, l112⟩ := C0.out _ hM.gr
    clear hM cM n1 mk
    obtain ⟨xo, hxo⟩ : ∃ xo : Pb, xo = ⟨a, m, .slice (some ⟨R, 0, none⟩) n n, List.replicate n (0, 0)⟩ := ⟨_, rfl⟩
    have XO := Lib.hid hxo
    have XV := Lib.hid (show ∃ A n c, xo.v = .slice A n c from ⟨_, _, _, by rw [hxo]⟩)
    have YH := Lib.hid (show Y ≠ H by have := MM.out.y0; omega)
    have XB := Lib.hid (fun W (hW : (wc.setCell ⟨H, 112, none⟩ (.int .i64 ((m : Int) + 1))).grownBy W none) => (show W.cell? ⟨Y, 0, none⟩ = some (.int .i64 a) ∧ W.cell? ⟨Y, 1, none⟩ = some (.int .i64 m) ∧ W.cell? ⟨Y, 2, none⟩ = some (.slice (some ⟨R, 0, none⟩) n n) from by
      have hb := (Gr.new (L := []) hW).heap ((set_gr wc H 112 (.int .i64 ((m : Int) + 1))).heap MM.out.bx (by simpa using YH.out)) (by simp)
      exact ⟨by rw [cell_of_row W Y 0 _ _ _ hb]; rfl, by rw [cell_of_row W Y 1 _ _ _ hb]; rfl, by rw [cell_of_row W Y 2 _ _ _ hb]; rfl⟩))
    have SH := Lib.hid (show H < (wc.setCell ⟨H, 112, none⟩ (.int .i64 ((m : Int) + 1))).heap.size by simpa using l112)
    clear hxo
    go_wp2
    go_loopw [6, 8, 9] (fun v u i wr => ∃ (k : Nat) (A' : Option Addr) (q c' : Nat), k ≤ N ∧ i = .int .i64 k ∧ u = .bool (decide (d < k)) ∧ q = (outk os d xo k).length ∧ v = .slice A' q c' ∧ Lp wr wc.heap.size (.slice A' q c') (outk os d xo k) ∧ (wc.setCell ⟨H, 112, none⟩ (.int .i64 ((m : Int) + 1))).grownBy wr none) (fun _ _ i _ => N - (intOf i).toNat)
    case atStart => exact ⟨0, none, 0, 0, Nat.zero_le _, rfl, by simp, by unfold outk; simp, rfl, by unfold outk; rw [if_pos (Nat.zero_le _)]; exact Lp.nil _ _, World.grownBy.refl _ _⟩
    case round =>
      obtain ⟨k, A', q, c', hk, rfl, rfl, hq, rfl, ho, hg⟩ := hrel
      have HO := Lib.hid ho
      have HG := Lib.hid hg
      have HQ := Lib.hid hq
      have SZ := Lib.hid (show wc.heap.size ≤ wr.heap.size by have := hg.size; simpa using this)
      have QL := Lib.hid (outk_len os d xo k)
      have ho111 := CO.out _ _ MM.out.gr hg
      clear ho hg hq
      by_cases hlt : k < N
      · obtain ⟨o, p, b, c'', i1, i2, i3, i4, i5, i6, i7, i8, g0, g1, g2, _⟩ := AT.out _ _ MM.out.gr HG.out k hlt
        injection i4 with i4 i9 i10
        subst i4
        obtain ⟨q1, q2⟩ := EP.out p o i3
        have HP := Lib.hid (SL.out p (List.mem_of_getElem? i2))
        have I2 := Lib.hid i2
        have AT6 := Lib.hid (fun W (hW : (wc.setCell ⟨H, 112, none⟩ (.int .i64 ((m : Int) + 1))).grownBy W none) => (show W.cell? ⟨b, k * 3, none⟩ = some (.int .i64 p.a) ∧ W.cell? ⟨b, k * 3 + 1, none⟩ = some (.int .i64 p.q) ∧ W.cell? ⟨b, k * 3 + 2, none⟩ = some p.v from by
          obtain ⟨o', p', b', d', j1, j2, j3, j4, _, _, _, _, k0, k1, k2, _⟩ := AT.out _ _ MM.out.gr hW k hlt
          injection j4 with j4
          injection j4 with j4
          injection j4 with j4
          subst j4
          rw [i1] at j1
          rw [i2] at j2
          injection j1 with j1
          injection j2 with j2
          subst j1 j2
          rw [q1] at k0
          rw [q2] at k1
          exact ⟨k0, k1, k2⟩))
        rw [q1] at g0
        rw [q2] at g1
        have l1 : (0 : Int) ≤ (k : Int) := by omega
        have l2 : (k : Int) < N := by omega
        have K1 := Lib.hid (fun (e : k < d) => (show p.a < a from by rw [← q1]; exact H1.out k o e i1))
        have K2 := Lib.hid (fun (e : d ≤ k) => (show a < p.a from by rw [← q1]; exact H2.out k o e i1))
        clear i1 i2 i3 i5 i7 i8 i9 i10 q1 q2
        rcases Nat.lt_trichotomy k d with hkd | hkd | hkd
        · have t1 : decide (d < k) = false := decide_eq_false (by omega)
          have t2 : ¬ (a < p.a) := by have := K1.out hkd; omega
          have FIN := Lib.hid (outk_low xo hkd I2.out)
          have FB := Lib.hid (show decide (d < k + 1) = false from decide_eq_false (by omega))
          clear K1 K2
          go_wp2_with (refine append_ob rfl (.tmp 53) (.tmp 61) rfl wc.heap.size _ (outk os d xo k) rfl (HO.out.new (World.grownBy_alloc _ _ _)) wr.heap.size p HP.out rfl (by go_simp) (by go_simp) (by go_simp) (by have := QL.out; have := OL.out; omega) (by have := SZ.out; simp; omega) ?_; intro A6 N6 c6 w6 hN hL hG; have N6' := Lib.hid hN; have L6 := Lib.hid hL; have G6 := Lib.hid (grown_lp HG.out HO.out (by simp) hG); clear hN hL hG)
          go_roundw
          case rel => exact ⟨k + 1, A6, N6, c6, by omega, by go_num, by rw [FB.out], by rw [FIN.out]; exact N6'.out, rfl, by rw [FIN.out]; exact L6.out, G6.out⟩
          case measure => first | (simp [intOf]; done) | (simp [intOf]; omega)
        · subst hkd
          have t1 : decide (k < k) = false := decide_eq_false (by omega)
          have t2 : a < p.a := K2.out (Nat.le_refl _)
          obtain ⟨x0, x1, x2⟩ := XB.out _ HG.out
          have FIN := Lib.hid (outk_at xo I2.out)
          have FB := Lib.hid (show decide (k < k + 1) = true from decide_eq_true (by omega))
          clear K1 K2
          go_wp2_with (first
            | (refine append_ob rfl (.tmp 49) (.tmp 51) rfl wc.heap.size _ (outk os k xo k) rfl (HO.out.new (World.grownBy_alloc _ _ _)) wr.heap.size xo XV.out rfl (by rw [XO.out]; go_simp) (by rw [XO.out]; go_simp) (by rw [XO.out]; go_simp) (by have := QL.out; have := OL.out; omega) (by have := SZ.out; simp; omega) ?_; intro A5 N5 c5 w5 hN hL hG; have N5' := Lib.hid hN; have L5 := Lib.hid hL; have G5 := Lib.hid (grown_lp HG.out HO.out (by simp) hG); have o5 := CO.out _ _ MM.out.gr G5.out; obtain ⟨r0, r1, r2⟩ := AT6.out _ G5.out; clear hN hL hG)
            | (refine append_ob rfl (.tmp 53) (.tmp 61) rfl wc.heap.size _ (outk os k xo k ++ [xo]) rfl (L5.out.new (World.grownBy_alloc _ _ _)) w5.heap.size p HP.out rfl (by go_simp) (by go_simp) (by go_simp) (by have := QL.out; have := OL.out; rw [List.length_append]; simp; omega) (by have := SZ.out; have := G5.out.size; simp at this; simp; omega) ?_; intro A6 N6 c6 w6 hN hL hG; have N6' := Lib.hid hN; have L6 := Lib.hid hL; have G6 := Lib.hid (grown_lp G5.out L5.out (by simp) hG); clear hN hL hG))
          go_roundw
          case rel => exact ⟨k + 1, A6, N6, c6, by omega, by go_num, by rw [FB.out], by rw [FIN.out]; exact N6'.out, rfl, by rw [FIN.out]; exact L6.out, G6.out⟩
          case measure => first | (simp [intOf]; done) | (simp [intOf]; omega)
        · have t1 : decide (d < k) = true := decide_eq_true (by omega)
          have FIN := Lib.hid (outk_high xo hkd I2.out)
          have FB := Lib.hid (show decide (d < k + 1) = true from decide_eq_true (by omega))
          clear K1 K2
          go_wp2_with (refine append_ob rfl (.tmp 53) (.tmp 61) rfl wc.heap.size _ (outk os d xo k) rfl (HO.out.new (World.grownBy_alloc _ _ _)) wr.heap.size p HP.out rfl (by go_simp) (by go_simp) (by go_simp) (by have := QL.out; have := OL.out; omega) (by have := SZ.out; simp; omega) ?_; intro A6 N6 c6 w6 hN hL hG; have N6' := Lib.hid hN; have L6 := Lib.hid hL; have G6 := Lib.hid (grown_lp HG.out HO.out (by simp) hG); clear hN hL hG)
          go_roundw
          case rel => exact ⟨k + 1, A6, N6, c6, by omega, by go_num, by rw [FB.out], by rw [FIN.out]; exact N6'.out, rfl, by rw [FIN.out]; exact L6.out, G6.out⟩
          case measure => first | (simp [intOf]; done) | (simp [intOf]; omega)
      · obtain rfl : k = N := by omega
        obtain ⟨x0, x1, x2⟩ := XB.out _ HG.out
        have z1 := CF.out _ _ MM.out.gr HG.out
        have s1 := Nat.lt_of_lt_of_le SH.out HG.out.size
        rcases Nat.lt_or_ge d k with hdk | hdk
        · have t1 : decide (d < k) = true := decide_eq_true hdk
          have FIN := Lib.hid (outk_end (os := os) (d := d) xo (by have := OL.out; omega))
          go_wp2
          go_end0
          refine ⟨rfl, wc.heap.size, R, _, wr, rfl, ?_, MM.out.gr.size, MM.out.r0, ?_, wc, MM.out.gr, by rw [EM.out]; exact HG.out⟩
          · have := HO.out
            rw [← OL.out, FIN.out, XO.out] at this
            exact this
          · exact (Gr.new (L := []) HG.out).heap ((set_gr wc H 112 _).heap MM.out.rw_ (by have := MM.out.r0; simp; omega)) (by simp)
        · have t1 : decide (d < k) = false := decide_eq_false (by omega)
          have FIN := Lib.hid (outk_none (os := os) (d := d) xo (by have := OL.out; omega))
          go_wp2_with (refine append_ob rfl (.tmp 65) (.tmp 67) rfl wc.heap.size _ (outk os d xo k) rfl (HO.out.new (World.grownBy_alloc _ _ _)) wr.heap.size xo XV.out rfl (by rw [XO.out]; go_simp) (by rw [XO.out]; go_simp) (by rw [XO.out]; go_simp) (by have := QL.out; have := OL.out; omega) (by have := SZ.out; simp; omega) ?_; intro A5 N5 c5 w5 hN hL hG; have N5' := Lib.hid hN; have L5 := Lib.hid hL; have G5 := Lib.hid (grown_lp HG.out HO.out (by simp) hG); have z5 := CF.out _ _ MM.out.gr G5.out; have o5 := CO.out _ _ MM.out.gr G5.out; have s5 := Nat.lt_of_lt_of_le SH.out G5.out.size; clear hN hL hG)
          go_end0
          refine ⟨rfl, wc.heap.size, R, _, w5, rfl, ?_, MM.out.gr.size, MM.out.r0, ?_, wc, MM.out.gr, by rw [EM.out]; exact G5.out⟩
          · have := L5.out
            rw [← OL.out, FIN.out, XO.out] at this
            exact this
          · exact (Gr.new (L := []) G5.out).heap ((set_gr wc H 112 _).heap MM.out.rw_ (by have := MM.out.r0; simp; omega)) (by simp)
end
end Go.Proofs.YtfloleflcoiidaaGreatDoor.ph

/- The plain heap: begin, Fast, open, Slow, by lists. -/
namespace Go.Proofs.YtfloleflcoiidaaGreatDoor.ph
open Go.ChangeShapes Go.WideShapes Go.ChangeAt Go.RowKit gen calls cls geos ce bo st
set_option linter.unusedVariables false
set_option maxHeartbeats 8000000
set_option maxRecDepth 100000
/-- Rising by address. -/
def Up (l : List Ob3) : Prop := l.Pairwise fun x z => x.1 < z.1
/-- An object put where it belongs. -/
def insq (l : List Ob3) (o : Ob3) : List Ob3 := l.takeWhile (fun x => decide (x.1 < o.1)) ++ o :: l.dropWhile (fun x => decide (x.1 < o.1))
theorem dw_ge : ∀ {l : List Ob3} {a : Int}, Up l → ∀ o ∈ l.dropWhile (fun x => decide (x.1 < a)), a ≤ o.1
  | [], a, _, o, h => by simp at h
  | x :: l, a, hu, o, h => by
    obtain ⟨h1, h2⟩ := List.pairwise_cons.1 hu
    by_cases hx : x.1 < a
    · rw [List.dropWhile_cons_of_pos (by simpa using hx)] at h
      exact dw_ge h2 o h
    · rw [List.dropWhile_cons_of_neg (by simpa using hx)] at h
      rcases List.mem_cons.1 h with rfl | h
      · omega
      · have := h1 o h; omega
theorem tw_lt : ∀ {l : List Ob3} {a : Int}, ∀ o ∈ l.takeWhile (fun x => decide (x.1 < a)), o.1 < a
  | [], a, o, h => by simp at h
  | x :: l, a, o, h => by
    by_cases hx : x.1 < a
    · rw [List.takeWhile_cons_of_pos (by simpa using hx)] at h
      rcases List.mem_cons.1 h with rfl | h
      · exact hx
      · exact tw_lt o h
    · rw [List.takeWhile_cons_of_neg (by simpa using hx)] at h
      simp at h
theorem insq_up {l : List Ob3} {o : Ob3} (hu : Up l) (hn : ∀ x ∈ l, x.1 ≠ o.1) : Up (insq l o) := by
  unfold insq Up
  rw [List.pairwise_append]
  refine ⟨hu.sublist (List.takeWhile_sublist _), List.pairwise_cons.2 ⟨fun x hx => ?_, hu.sublist (List.dropWhile_sublist _)⟩, fun x hx z hz => ?_⟩
  · have := dw_ge hu x hx
    have := hn x ((List.dropWhile_sublist _).subset hx)
    omega
  · have h1 := tw_lt x hx
    rcases List.mem_cons.1 hz with rfl | hz
    · exact h1
    · have := dw_ge hu z hz; omega
theorem insq_mem {l : List Ob3} {o x : Ob3} : x ∈ insq l o ↔ x = o ∨ x ∈ l := by
  have h : l.takeWhile (fun x => decide (x.1 < o.1)) ++ l.dropWhile (fun x => decide (x.1 < o.1)) = l := List.takeWhile_append_dropWhile
  unfold insq
  rw [List.mem_append, List.mem_cons]
  constructor
  · rintro (h | h | h)
    · exact .inr ((List.takeWhile_sublist _).subset h)
    · exact .inl h
    · exact .inr ((List.dropWhile_sublist _).subset h)
  · rintro (h1 | h1)
    · exact .inr (.inl h1)
    · rw [← h, List.mem_append] at h1
      exact h1.elim .inl (fun e => .inr (.inr e))
section
variable {w w' w1 : World} {K K' V M X : List Nat} {H : Nat} {vk vo vo' : Value} {vs : List Value} {os os' : List Pb} {y y' : Hq} {v : Value} {e : Ending}
theorem Pa.after (hK : ∀ q, q ∈ K' → q ∈ K ∨ w.heap.size ≤ q) (hg : Gr K w w1) (h : Pa K' H v y w1 e w') : Pa K H v y w e w' := by
  obtain ⟨h1, K2, h2, h3, h4⟩ := h
  exact ⟨h1, K2, fun q hq => (h2 q hq).elim (hK q) (fun e => .inr (Nat.le_trans hg.size e)), h3, hg.own h4 hK⟩
theorem Pa.same (h : Pl w K H y) (hg : w.grownBy w' none) (he : e = .returned v) : Pa K H v y w e w' := ⟨he, K, fun q hq => .inl hq, h.new hg, .new hg⟩
theorem more_or {a b q : Nat} (hab : a ≤ b) (h : q ∈ more K a b) : q ∈ K ∨ a ≤ q := ((more_in hab).1 h).imp id (fun e => e.1)
/-- One more object. -/
def Hq.begun (y : Hq) (a : Int) (n : Nat) : Hq := { y with cnt := y.cnt + 1, ob := insq y.ob (a, y.cnt, List.replicate n (0, 0)) }
theorem rbegin_pl (h : Ph w K V H vk vs vo os y) {a : Int} {n : Nat} (hn : n ≤ 127) (hc : y.cnt < 1099511627776) (hl : y.ob.length ≤ 4096) (hu : Up y.ob) (hne : ∀ o ∈ y.ob, o.1 ≠ a) :
    Calls Tryz.prog 58 #[.pointer (some ⟨H, 0, none⟩), .int .i64 a, .int .i64 n] w (Pa K H (.tuple #[]) (y.begun a n) w) := by
  have TD : y.ob.takeWhile (fun x => decide (x.1 < a)) ++ y.ob.dropWhile (fun x => decide (x.1 < a)) = y.ob := List.takeWhile_append_dropWhile
  obtain ⟨d, hd⟩ : ∃ d, (y.ob.takeWhile (fun x => decide (x.1 < a))).length = d := ⟨_, rfl⟩
  have dl : d ≤ y.ob.length := by rw [← hd]; exact (List.takeWhile_sublist _).length_le
  have T1 : y.ob.take d = y.ob.takeWhile (fun x => decide (x.1 < a)) := by
    have := List.take_left (l₁ := y.ob.takeWhile (fun x => decide (x.1 < a))) (l₂ := y.ob.dropWhile (fun x => decide (x.1 < a)))
    rwa [TD, hd] at this
  have T2 : y.ob.drop d = y.ob.dropWhile (fun x => decide (x.1 < a)) := by
    have := List.drop_left (l₁ := y.ob.takeWhile (fun x => decide (x.1 < a))) (l₂ := y.ob.dropWhile (fun x => decide (x.1 < a)))
    rwa [TD, hd] at this
  refine (rbegin_any h (d := d) hn hc hl dl (fun k o hk ho => ?_) (fun k o hk ho => ?_)).mono fun e w' ⟨he, B, R, v, W, hw, hb⟩ => ?_
  · refine tw_lt (l := y.ob) o ?_
    rw [← T1]
    exact List.mem_of_getElem? (by rw [List.getElem?_take, if_pos hk]; exact ho)
  · have m : o ∈ y.ob.dropWhile (fun x => decide (x.1 < a)) := by
      rw [← T2]
      exact List.mem_of_getElem? (i := k - d) (by rw [List.getElem?_drop, show d + (k - d) = k by omega]; exact ho)
    have := dw_ge hu o m
    have := hne o ((List.dropWhile_sublist _).subset m)
    omega
  · obtain ⟨W0, g0, g1⟩ := hb.mid
    have h1 := h.gr (Gr.new (L := []) g0) (by simp)
    have h2 := h1.made (y.cnt + 1)
    have h3 := h2.gr (Gr.new (L := []) g1) (by simp)
    have lv : va.Lv W 0 (.slice (some ⟨R, 0, none⟩) n n) (List.replicate n (0, 0)) := by
      have := va.Lv.whole (base := 0) hb.row (Nat.zero_le _) (by simp; unfold maxLen; omega)
      simpa using this
    have RW : R < W.heap.size := (Array.getElem?_eq_some_iff.1 hb.row).1
    have h4 := h3.objs (X := R :: v.ownBlock.toList) (os' := os.take d ++ ⟨a, y.cnt, .slice (some ⟨R, 0, none⟩) n n, List.replicate n (0, 0)⟩ :: os.drop d) (hb.lp.mono (Nat.zero_le _)) (fun q hq => by
      rcases List.mem_cons.1 hq with rfl | hq
      · exact RW
      · exact hb.lp.lt q (by cases hv : v.ownBlock <;> rw [hv] at hq <;> simp at hq; rw [hq])) (fun q hq => ⟨by rw [hq]; simp, fun hm => by
        have := hb.lp.from_ q hq
        have := hb.b0
        have := h.kl q hm
        omega⟩) (fun o ho => ?_) (ob' := insq y.ob (a, y.cnt, List.replicate n (0, 0))) ?_
    · subst hw
      refine ⟨he, _, fun q hq => ?_, ⟨_, _, _, _, _, h4⟩, ?_⟩
      · rcases List.mem_append.1 hq with hq | hq
        · right
          rcases List.mem_cons.1 hq with rfl | hq
          · exact hb.r0
          · exact Nat.le_trans hb.b0 (hb.lp.from_ q (by cases hv : v.ownBlock <;> rw [hv] at hq <;> simp at hq; rw [hq]))
        · exact .inl hq
      · exact (((Gr.new (L := K) g0).trans (.set _ _ _ _ h.hk)).trans (.new g1)).trans (.set _ _ _ _ h.hk)
    · rcases List.mem_append.1 ho with ho | ho
      · exact ⟨(h3.fl o (List.mem_of_mem_take ho)).1, fun q hq => List.mem_append.2 (.inr ((h3.fl o (List.mem_of_mem_take ho)).2 q hq))⟩
      · rcases List.mem_cons.1 ho with rfl | ho
        · exact ⟨lv, fun q hq => by
            have e : q = R := by injection hq with hq; exact hq.symm
            rw [e]
            simp⟩
        · exact ⟨(h3.fl o (List.mem_of_mem_drop ho)).1, fun q hq => List.mem_append.2 (.inr ((h3.fl o (List.mem_of_mem_drop ho)).2 q hq))⟩
    · unfold insq
      dsimp only
      rw [← T1, ← T2, ← h.eq, List.map_append, List.map_cons, List.map_take, List.map_drop]
      rfl
end
end Go.Proofs.YtfloleflcoiidaaGreatDoor.ph
