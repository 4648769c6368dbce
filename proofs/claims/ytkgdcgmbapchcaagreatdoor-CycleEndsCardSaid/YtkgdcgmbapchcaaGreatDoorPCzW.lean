/- Texts that this claim stands on. -/
import Derived.Deep.AppendLies
import Derived.BigQuiet
import Derived.Test.YtkgdcgmbapchcaaGreatDoorPCzS
import Derived.Test.YtkgdcgmbapchcaaGreatDoorPBmQ
namespace Go.Proofs.YtkgdcgmbapchcaaGreatDoor.cy
open Go.ChangeShapes Go.WideShapes Go.ChangeAt Go.RowKit gen calls cls geos ce st sh
set_option linter.unusedVariables false
set_option maxHeartbeats 8000000
set_option maxRecDepth 100000
section
variable {w0 W w w1 w' : World} {k : Kn} {c : Cb} {L0 K0 L K M : List Nat} {σ τ : Cy}
theorem roots_at (H : Cw w k c L K σ) (hi : Inv k σ) {t : Nat} (ht : t < 8) : Calls Tryz.prog 39 #[.pointer (some ⟨c.B, 0, none⟩), .int .i64 t] w (va.VasAns (σ.rt.getD t []) w) := by
  cases hl : σ.lv t with
  | false =>
    have := Roots_dead H hl
    rw [(hi.dead hl).1]
    exact this
  | true => exact Roots_any H ht hl
theorem lv_app {wr w2 : World} {B b n : Nat} {v u : Value} {l : List Va} {xs : List Value} {o : Obj} (h : va.Lv wr b u l) (ho : wr.ownsRow B 3 1 v n xs) (hg : (wr.alloc o).grownBy w2 v.ownBlock) : va.Lv w2 b u l := by
  refine (h.new (World.grownBy_alloc wr o none)).kept hg ?_
  rcases ho.2 with ⟨rfl, _⟩ | ⟨g, cap, cur, rfl, _, hb, _⟩
  · cases e : u.ownBlock with
    | none => exact .inl rfl
    | some q => exact .inr (by intro e2; cases e2)
  · exact .inr (h.off hb (fun cs z e => by injection e with _ e2; exact absurd e2 (by decide)))
theorem own_new {base n s : Nat} {t : TypeId} {v : Value} {xs : List Value} (h : w.ownsRow base t s v n xs) (hg : w.grownBy w' none) : w'.ownsRow base t s v n xs := h.kept hg (by
  cases e : v.ownBlock with
  | none => exact .inl rfl
  | some q => exact .inr (by intro e2; cases e2))
theorem rd_new {B n d : Nat} {A : Option Addr} {xs : List Int} (h : Rd w B A n d xs) (hg : w.grownBy w' none) : Rd w' B A n d xs := ⟨h.1, h.2.1, fun ad e i hi => ⟨(h.2.2 ad e i hi).1, hg.cell (h.2.2 ad e i hi).2 (by simp)⟩⟩
theorem new_at (w : World) (o o2 : Obj) : ((w.alloc o).alloc o2).heap[w.heap.size + 1]? = some o2 := by
  have := heap_alloc_new (w.alloc o) o2
  rwa [show (w.alloc o).heap.size = w.heap.size + 1 by simp] at this
theorem own_one (w : World) (x : Int) : (w.alloc (.cells #[.int .i64 x] 3)).ownsRow w.heap.size 3 1 (.slice (some ⟨w.heap.size, 0, none⟩) 1 1) 1 ([x].map (Value.int .i64)) :=
  ⟨rfl, .inr ⟨w.heap.size, 1, #[.int .i64 x], rfl, Nat.le_refl _, heap_alloc_new _ _, Nat.le_refl _, by unfold maxLen; omega, rfl, rfl⟩⟩
theorem fget_at {x : Hs} {a : Int} {i n : Nat} (ha : a ∈ x.tk) (hn : (tc.fls x a).length = n) (hi : i < n) : fget x a i = some ((tc.fls x a).getD i (0, 0)) := by
  unfold fget
  rw [if_pos ⟨ha, by omega⟩, Int.toNat_natCast, List.getD_eq_getElem?_getD, List.getElem?_eq_getElem (by omega)]
  rfl
theorem fls_lt (x : Hs) (a : Int) : (tc.fls x a).length < 128 := by rw [tc.fls_len]; omega
theorem fd_at {fl : List Va} {i n : Nat} {v2 : Int} (hn : fl.length = n) (hi : i < n) (hv : fl.getD i (0, 0) = (2, v2)) : fl[i]? = some (2, v2) := by
  rw [List.getD_eq_getElem?_getD, List.getElem?_eq_getElem (by omega)] at hv
  rw [List.getElem?_eq_getElem (by omega)]
  exact congrArg some hv
theorem reached_any (H : Cw w k c L K σ) (hi : Inv k σ) {xs : List Int} (hx : xs.Pairwise (· < ·)) (hm : ∀ a, a ∈ xs ↔ Rea k σ a) {m : Nat} (hn : xs.length = m) :
    Calls Tryz.prog 16 #[.pointer (some ⟨c.B, 0, none⟩)] w fun e w' => ∃ A d, e = .returned (.tuple #[.slice A m d, .bool true]) ∧ w'.ownsRow w.heap.size 3 1 (.slice A m d) m (xs.map (Value.int .i64)) ∧ w.grownBy w' none := by
  obtain ⟨i0, hi0, hz0, hz1, hz2⟩ := info_parts li.info_int
  have E : Hid (i0.zero = some (.int .i64 0) ∧ i0.size = 1 ∧ i0.bytes = 8 ∧ Tryz.prog.info? 3 = some i0) := ⟨hz0, hz1, hz2, hi0⟩
  have CW := Lib.hid (fun W (hg : w.grownBy W none) => H.new hg)
  have RT := Lib.hid (fun (t : Nat) (ht : t < 8) W (hg : w.grownBy W none) => roots_at (H.new hg) hi ht)
  have FD := Lib.hid (fun W (hg : w.grownBy W none) a => Fields_any (H.new hg) a)
  have RD := Lib.hid (fun W (hg : w.grownBy W none) a i => Read_any (H.new hg) hi.wk a i)
  have GL := Lib.hid (Global_any H)
  have HI := Lib.hid hi
  have HX := Lib.hid (And.intro hx (And.intro hm hn))
  have OW := Lib.hid (own_one w k.gl)
  have ML : 4096 ≤ maxLen := by unfold maxLen; omega
  clear hi0 hz0 hz1 hz2 H hi hx hm hn
  go_enter Tryz.func16, Tryz.ntmps16
  go_wp2_with (go_at_call 42; (with_reducible refine GL.out.mono ?_); rintro e w1 ⟨rfl, hw⟩; subst hw)
  go_loopw [4, 5] (fun vo i wr => ∃ (out : List Int) (t n : Nat) (Ao : Option Addr) (co : Nat), t ≤ 8 ∧ i = .int .i64 t ∧ vo = .slice Ao n co ∧ out.length = n ∧ Fo k σ out ∧ Rh σ t out ∧ wr.ownsRow w.heap.size 3 1 (.slice Ao n co) n (out.map (Value.int .i64)) ∧ w.grownBy wr none) (fun _ i _ => 8 - (intOf i).toNat)
  case atStart => exact ⟨[(k.gl : Int)], 0, 1, _, 1, by omega, rfl, rfl, rfl, .start, .zero _ _, OW.out, World.grownBy_alloc _ _ _⟩
  case round =>
    obtain ⟨out, t, n, Ao, co, ht, rfl, rfl, hn, hF, hR, ho, hg⟩ := hrel
    have F1 := Lib.hid hF
    have R1 := Lib.hid hR
    have O1 := Lib.hid ho
    have G1 := Lib.hid hg
    have N1 := Lib.hid hn
    clear hF hR ho hg hn OW
    by_cases h8 : t < 8
    · have l1 : (t : Int) < 8 := by omega
      have l0 : (0 : Int) ≤ t := by omega
      have RC := Lib.hid (RT.out t h8 _ G1.out)
      obtain ⟨l, hl⟩ : ∃ l, σ.rt.getD t [] = l := ⟨_, rfl⟩
      obtain ⟨m2, hm2⟩ : ∃ m2, l.length = m2 := ⟨_, rfl⟩
      rw [hl] at RC
      have LM := Lib.hid (show m2 ≤ 16 ∧ ∀ v2 : Int, (2, v2) ∈ l → Rea k σ v2 from ⟨by rw [← hm2, ← hl]; exact (HI.out.rtr t).1, fun v2 hv => .rt (t := t) (by rw [hl]; exact hv)⟩)
      have m16 := LM.out.1
      have HL := Lib.hid (And.intro hl hm2)
      unfold va.VasAns at RC
      rw [hm2] at RC
      clear hl hm2
      go_wp2_with (go_at_call 39; (with_reducible refine RC.out.mono ?_); rintro e w2 ⟨Al, cl, rfl, hlv, hg2⟩; have G2 := Lib.hid (G1.out.trans hg2); have V2 := Lib.hid hlv; have O2 := Lib.hid (show w2.ownsRow w.heap.size 3 1 (.slice Ao n co) n (out.map (Value.int .i64)) from own_new O1.out hg2); clear hlv hg2)
      go_loopw [4, 7] (fun vo i wr => ∃ (out : List Int) (j n : Nat) (Ao : Option Addr) (co : Nat), j ≤ m2 ∧ i = .int .i64 j ∧ vo = .slice Ao n co ∧ out.length = n ∧ Fo k σ out ∧ Rh σ t out ∧ Rp l j out ∧ wr.ownsRow w.heap.size 3 1 (.slice Ao n co) n (out.map (Value.int .i64)) ∧ va.Lv wr w.heap.size (.slice Al m2 cl) l ∧ w.grownBy wr none) (fun _ i _ => m2 - (intOf i).toNat)
      case atStart => exact ⟨out, 0, n, Ao, co, Nat.zero_le _, rfl, rfl, N1.out, F1.out, R1.out, .zero _ _, O2.out, V2.out.mono G1.out.size, G2.out⟩
      case round =>
        obtain ⟨out, j, n, Ao, co, hj, rfl, rfl, hn, hF, hR, hP, ho, hv, hg⟩ := hrel
        have n8 : n ≤ 2048 := by rw [← hn]; exact hF.len HI.out
        have F3 := Lib.hid hF
        have R3 := Lib.hid hR
        have P3 := Lib.hid hP
        have O3 := Lib.hid ho
        have V3 := Lib.hid hv
        have G3 := Lib.hid hg
        have N3 := Lib.hid hn
        have RO := Lib.hid (bm.rd_own ho)
        clear hF hR hP ho hv hg hn
        by_cases hjm : j < m2
        · have JM := Lib.hid hjm
          obtain ⟨b, off, rfl, q0, q1⟩ := (V3.out.rv HL.out.2.symm).at_ hjm
          have l2 : (j : Int) < m2 := by omega
          have l3 : (0 : Int) ≤ j := by omega
          have hme := va.getD_mem (m := l) (i := j) (by rw [HL.out.2]; exact hjm)
          obtain ⟨v, hv⟩ : ∃ v, l.getD j (0, 0) = v := ⟨_, rfl⟩
          rw [hv] at q0 q1 hme
          obtain ⟨v1, v2⟩ := v
          dsimp only at q0 q1
          have HV := Lib.hid hv
          have HME := Lib.hid hme
          clear hjm hv hme
          by_cases h2 : v1 = 2
          · subst h2
            by_cases hin : v2 ∈ out
            · have e1 := Lib.hid (decide_eq_true hin)
              have HIN := Lib.hid hin
              clear hin
              go_wp2_with (go_at_call 25; (with_reducible refine (bm.In_any (by omega) RO.out _).mono ?_); rintro e w' ⟨rfl, hw⟩; subst hw; rw [e1.out])
              go_roundw
              case rel => exact ⟨out, j + 1, n, Ao, co, JM.out, by go_num, rfl, N3.out, F3.out, R3.out, P3.out.old (by rw [HV.out]; exact HIN.out), O3.out, V3.out, G3.out⟩
              case measure => have := JM.out; first | (simp [intOf]; done) | (simp [intOf]; omega)
            · have e1 := Lib.hid (decide_eq_false hin)
              have HIN := Lib.hid hin
              clear hin
              go_wp2_with (first
                | (go_at_call 25; (with_reducible refine (bm.In_any (by omega) RO.out _).mono ?_); rintro e w' ⟨rfl, hw⟩; subst hw; rw [e1.out])
                | (refine wpList_append_lies _ rfl (.tmp 45) (.tmp 51) 41 rfl w.heap.size 3 i0 (.int .i64 0) 1 8 Tryz.underlying41 E.out.2.2.2 E.out.1 E.out.2.1 E.out.2.2.1 rfl (by decide) _ n (out.map (Value.int .i64)) rfl (O3.out.alloc _) ⟨_, 0, none⟩ 1 1 [.int .i64 v2] rfl rfl (World.news_of_block (heap_alloc_new _ _)) (by intro u hu; rw [List.mem_singleton.1 hu]; rfl) (by omega) (by omega) (by omega) (by have := G3.out.size; simp; omega) _ rfl ?_; intro g cap w5 own5 gr5 at5 lt5; have O5 := Lib.hid (show w5.ownsRow w.heap.size 3 1 (.slice (some ⟨g, 0, none⟩) (n + 1) cap) (n + 1) ((out ++ [v2]).map (Value.int .i64)) from by rw [List.map_append]; exact own5); have G5 := Lib.hid (bm.grown_one G3.out O3.out (Nat.le_refl _) gr5); have V5 := Lib.hid (lv_app V3.out O3.out gr5); clear own5 gr5 at5 lt5))
              go_roundw
              case rel => exact ⟨out ++ [v2], j + 1, n + 1, _, cap, JM.out, by go_num, rfl, by rw [List.length_append, N3.out]; rfl, F3.out.add (LM.out.2 v2 HME.out) HIN.out, R3.out.add _, by have := P3.out.add; rw [HV.out] at this; exact this, O5.out, V5.out, G5.out⟩
              case measure => have := JM.out; first | (simp [intOf]; done) | (simp [intOf]; omega)
          · have t1 : (v1 == 2) = false := by simpa using h2
            have H2 := Lib.hid h2
            clear h2
            go_wp2
            go_roundw
            case rel => exact ⟨out, j + 1, n, Ao, co, JM.out, by go_num, rfl, N3.out, F3.out, R3.out, P3.out.skip (by rw [HV.out]; exact H2.out), O3.out, V3.out, G3.out⟩
            case measure => have := JM.out; first | (simp [intOf]; done) | (simp [intOf]; omega)
        · obtain rfl : j = m2 := by omega
          go_wp2
          go_roundw
          case rel => exact ⟨out, t + 1, n, Ao, co, h8, by go_num, rfl, N3.out, F3.out, R3.out.next (by rw [HL.out.1]; exact P3.out) (by rw [HL.out.1]; exact HL.out.2), O3.out, G3.out⟩
          case measure => first | (simp [intOf]; done) | (simp [intOf]; omega)
    · have e8 : t = 8 := by omega
      have l9 : ¬ (t : Int) < 8 := by omega
      have R8 := Lib.hid (show Rh σ 8 out from by have := R1.out; rwa [e8] at this)
      clear h8 e8 ht
      have N1' := N1
      have O1' := O1
      have G1' := G1
      go_wp2
      go_loopw [4, 8] (fun vo i wr => ∃ (out : List Int) (q n : Nat) (Ao : Option Addr) (co : Nat), q ≤ n ∧ i = .int .i64 q ∧ vo = .slice Ao n co ∧ out.length = n ∧ Fo k σ out ∧ Rh σ 8 out ∧ Fh σ q out ∧ wr.ownsRow w.heap.size 3 1 (.slice Ao n co) n (out.map (Value.int .i64)) ∧ w.grownBy wr none) (fun _ i _ => 2049 - (intOf i).toNat)
      case atStart => exact ⟨out, 0, n, Ao, co, Nat.zero_le _, rfl, rfl, N1'.out, F1.out, R8.out, .zero _ _, O1'.out, G1'.out⟩
      case round =>
        obtain ⟨out, q, n, Ao, co, hq, rfl, rfl, hn, hF, hR, hH, ho, hg⟩ := hrel
        have n8 : n ≤ 2048 := by rw [← hn]; exact hF.len HI.out
        have F3 := Lib.hid hF
        have R3 := Lib.hid hR
        have H3 := Lib.hid hH
        have O3 := Lib.hid ho
        have G3 := Lib.hid hg
        have N3 := Lib.hid hn
        have RO := Lib.hid (bm.rd_own ho)
        clear hF hR hH ho hg hn
        by_cases hqn : q < n
        · have QN := Lib.hid hqn
          obtain ⟨b, off, rfl, q0⟩ := RO.out.at_ hqn
          have hme := bm.getD_mem (xs := out) (k := q) (by rw [N3.out]; exact hqn) 0
          obtain ⟨z, hz⟩ : ∃ z, out.getD q 0 = z := ⟨_, rfl⟩
          rw [hz] at q0 hme
          have HZ := Lib.hid hz
          have ZR := Lib.hid (F3.out.re z hme)
          obtain ⟨fl, hfl⟩ : ∃ fl, tc.fls σ.x z = fl := ⟨_, rfl⟩
          obtain ⟨nf, hnf⟩ : ∃ nf, fl.length = nf := ⟨_, rfl⟩
          have nf8 : nf < 128 := by rw [← hnf, ← hfl]; exact fls_lt _ _
          have zt := (ZR.out.good HI.out).1
          have FA := Lib.hid (FD.out _ G3.out z)
          rw [show flen σ.x z = (nf : Int) from by unfold flen; rw [if_pos zt, hfl, hnf]] at FA
          have RA := Lib.hid (fun W (hg : w.grownBy W none) (i : Nat) (h : i < nf) => (show Calls Tryz.prog 32 #[.pointer (some ⟨c.B, 0, none⟩), .int .i64 z, .int .i64 i] W fun e w' => e = wd.ans (fl.getD i (0, 0)).1 (fl.getD i (0, 0)).2 true ∧ W.grownBy w' none from by
            have := RD.out W hg z i
            rw [fget_at zt (by rw [hfl]; exact hnf) h, hfl] at this
            exact this))
          have NF := Lib.hid (And.intro hfl hnf)
          have FR := Lib.hid (fun (i : Nat) (h : i < nf) v2 (hv : fl.getD i (0, 0) = (2, v2)) => show Rea k σ v2 from .fd ZR.out (by rw [hfl]; exact fd_at hnf h hv))
          have l1 : (q : Int) < n := by omega
          have l0 : (0 : Int) ≤ q := by omega
          have l3 : decide ((nf : Int) < 0) = false := decide_eq_false (by omega)
          clear hqn hz hme hfl hnf zt
          go_wp2_with (go_at_call 40; (with_reducible refine FA.out.mono ?_); rintro e w2 ⟨rfl, hg2⟩; have G2 := Lib.hid (G3.out.trans hg2); have O2 := Lib.hid (own_new O3.out hg2); clear hg2)
          go_loopw [4, 10] (fun vo i wr => ∃ (out : List Int) (j n : Nat) (Ao : Option Addr) (co : Nat), j ≤ nf ∧ i = .int .i64 j ∧ vo = .slice Ao n co ∧ out.length = n ∧ q < n ∧ Fo k σ out ∧ Rh σ 8 out ∧ Fh σ q out ∧ out.getD q 0 = z ∧ Rp fl j out ∧ wr.ownsRow w.heap.size 3 1 (.slice Ao n co) n (out.map (Value.int .i64)) ∧ w.grownBy wr none) (fun _ i _ => nf - (intOf i).toNat)
          case atStart => exact ⟨out, 0, n, _, co, Nat.zero_le _, rfl, rfl, N3.out, QN.out, F3.out, R3.out, H3.out, HZ.out, .zero _ _, O2.out, G2.out⟩
          case round =>
            clear O3 G3 N3 RO F3 R3 H3 HZ QN q0 n8 O2 G2 FA l1 l3
            obtain ⟨out, j, n, Ao, co, hj, rfl, rfl, hn, hqn, hF, hR, hH, hz, hP, ho, hg⟩ := hrel
            have n8 : n ≤ 2048 := by rw [← hn]; exact hF.len HI.out
            have F3 := Lib.hid hF
            have R3 := Lib.hid hR
            have H3 := Lib.hid hH
            have P3 := Lib.hid hP
            have O3 := Lib.hid ho
            have G3 := Lib.hid hg
            have N3 := Lib.hid hn
            have QN := Lib.hid hqn
            have HZ := Lib.hid hz
            have RO := Lib.hid (bm.rd_own ho)
            obtain ⟨b, off, rfl, q0⟩ := RO.out.at_ hqn
            rw [hz] at q0
            have l1 : (q : Int) < n := by omega
            clear hF hR hH hP ho hg hn hz hqn
            by_cases hjm : j < nf
            · have JM := Lib.hid hjm
              have l2 : (j : Int) < nf := by omega
              have l3 : (0 : Int) ≤ j := by omega
              obtain ⟨v, hv⟩ : ∃ v, fl.getD j (0, 0) = v := ⟨_, rfl⟩
              have RC := Lib.hid (RA.out _ G3.out j hjm)
              rw [hv] at RC
              obtain ⟨v1, v2⟩ := v
              dsimp only at RC
              have HV := Lib.hid hv
              clear hjm hv
              by_cases h2 : v1 = 2
              · subst h2
                have RV := Lib.hid (FR.out j JM.out v2 HV.out)
                by_cases hin : v2 ∈ out
                · have e1 := Lib.hid (decide_eq_true hin)
                  have HIN := Lib.hid hin
                  clear hin
                  go_wp2_with (first
                    | (go_at_call 32; (with_reducible refine RC.out.mono ?_); rintro e w4 ⟨rfl, hg4⟩; have G4 := Lib.hid (G3.out.trans hg4); have O4 := Lib.hid (fun W (hg : w4.grownBy W none) => own_new O3.out (hg4.trans hg)); have O4' := Lib.hid (fun o1 => O4.out (w4.alloc o1) (World.grownBy_alloc _ _ _)); have G4' := Lib.hid (fun o1 => G4.out.trans (World.grownBy_alloc w4 o1 none)); clear hg4)
                    | (go_at_call 25; (with_reducible refine (bm.In_any (by omega) (bm.rd_own (O4.out _ (World.grownBy_alloc _ _ _))) _).mono ?_); rintro e w' ⟨rfl, hw⟩; subst hw; rw [e1.out]))
                  go_roundw
                  case rel => exact ⟨out, j + 1, n, _, co, JM.out, by go_num, rfl, N3.out, QN.out, F3.out, R3.out, H3.out, HZ.out, P3.out.old (by rw [HV.out]; exact HIN.out), O4.out _ (World.grownBy_alloc _ _ _), G4.out.trans (World.grownBy_alloc _ _ _)⟩
                  case measure => have := JM.out; first | (simp [intOf]; done) | (simp [intOf]; omega)
                · have e1 := Lib.hid (decide_eq_false hin)
                  have HIN := Lib.hid hin
                  clear hin
                  go_wp2_with (first
                    | (go_at_call 32; (with_reducible refine RC.out.mono ?_); rintro e w4 ⟨rfl, hg4⟩; have G4 := Lib.hid (G3.out.trans hg4); have O4 := Lib.hid (fun W (hg : w4.grownBy W none) => own_new O3.out (hg4.trans hg)); have O4' := Lib.hid (fun o1 => O4.out (w4.alloc o1) (World.grownBy_alloc _ _ _)); have G4' := Lib.hid (fun o1 => G4.out.trans (World.grownBy_alloc w4 o1 none)); clear hg4)
                    | (go_at_call 25; (with_reducible refine (bm.In_any (by omega) (bm.rd_own (O4.out _ (World.grownBy_alloc _ _ _))) _).mono ?_); rintro e w' ⟨rfl, hw⟩; subst hw; rw [e1.out])
                    | (refine wpList_append_lies _ rfl (.tmp 93) (.tmp 96) 41 rfl w.heap.size 3 i0 (.int .i64 0) 1 8 Tryz.underlying41 E.out.2.2.2 E.out.1 E.out.2.1 E.out.2.2.1 rfl (by decide) _ n (out.map (Value.int .i64)) rfl ((O4'.out _).alloc _) ⟨_, 0, none⟩ 1 1 [.int .i64 v2] rfl rfl (World.news_of_block (new_at w4 _ _)) (by intro u hu; rw [List.mem_singleton.1 hu]; rfl) (by omega) (by omega) (by omega) (by have := G4.out.size; simp; omega) _ rfl ?_; intro g cap w5 own5 gr5 at5 lt5; have O5 := Lib.hid (show w5.ownsRow w.heap.size 3 1 (.slice (some ⟨g, 0, none⟩) (n + 1) cap) (n + 1) ((out ++ [v2]).map (Value.int .i64)) from by rw [List.map_append]; exact own5); have G5 := Lib.hid (bm.grown_one (G4'.out _) (O4'.out _) (Nat.le_refl _) gr5); clear own5 gr5 at5 lt5))
                  go_roundw
                  case rel => exact ⟨out ++ [v2], j + 1, n + 1, _, cap, JM.out, by go_num, rfl, by rw [List.length_append, N3.out]; rfl, Nat.lt_succ_of_lt QN.out, F3.out.add RV.out HIN.out, R3.out.add _, H3.out.add (by rw [N3.out]; exact Nat.le_of_lt QN.out) _, by rw [List.getD_eq_getElem?_getD, List.getElem?_append_left (by rw [N3.out]; exact QN.out), ← List.getD_eq_getElem?_getD]; exact HZ.out, by have := P3.out.add; rw [HV.out] at this; exact this, O5.out, G5.out⟩
                  case measure => have := JM.out; first | (simp [intOf]; done) | (simp [intOf]; omega)
              · have t1 : (v1 == 2) = false := by simpa using h2
                have H2 := Lib.hid h2
                clear h2
                go_wp2_with (go_at_call 32; (with_reducible refine RC.out.mono ?_); rintro e w4 ⟨rfl, hg4⟩; have G4 := Lib.hid (G3.out.trans hg4); have O4 := Lib.hid (fun W (hg : w4.grownBy W none) => own_new O3.out (hg4.trans hg)); have O4' := Lib.hid (fun o1 => O4.out (w4.alloc o1) (World.grownBy_alloc _ _ _)); have G4' := Lib.hid (fun o1 => G4.out.trans (World.grownBy_alloc w4 o1 none)); clear hg4)
                go_roundw
                case rel => exact ⟨out, j + 1, n, _, co, JM.out, by go_num, rfl, N3.out, QN.out, F3.out, R3.out, H3.out, HZ.out, P3.out.skip (by rw [HV.out]; exact H2.out), O4.out _ (World.grownBy_alloc _ _ _), G4.out.trans (World.grownBy_alloc _ _ _)⟩
                case measure => have := JM.out; first | (simp [intOf]; done) | (simp [intOf]; omega)
            · obtain rfl : j = nf := by omega
              go_wp2
              go_roundw
              case rel => exact ⟨out, q + 1, n, _, co, QN.out, by go_num, rfl, N3.out, F3.out, R3.out, H3.out.next HZ.out (by rw [NF.out.1]; exact P3.out) (by rw [NF.out.1]; exact NF.out.2), O3.out, G3.out⟩
              case measure => first | (simp [intOf]; done) | (simp [intOf]; omega)
        · obtain rfl : q = n := by omega
          have RI := Lib.hid (show ∀ W A c, Rd W W.heap.size A q c out → Calls Tryz.prog 63 #[.slice A q c] W fun e w' => ∃ A' d', e = .returned (.slice A' m d') ∧ w'.ownsRow W.heap.size 3 1 (.slice A' m d') m (xs.map (Value.int .i64)) ∧ W.grownBy w' none from fun W A c h => (bm.Rising_any (B := 0) (by omega) h).mono fun e w' ⟨A', d', k1, k2, k3⟩ => by
            have e2 : bm.rising out = xs := bm.up_eq (bm.rising_up _) HX.out.1 fun a => by rw [bm.mem_rising, HX.out.2.1 a]; exact F3.out.all HI.out R3.out (by rw [N3.out]; exact H3.out) a
            rw [e2, HX.out.2.2] at k1 k2
            exact ⟨A', d', k1, k2, k3⟩)
          go_wp2_with (go_at_call 63; (with_reducible refine (RI.out _ _ _ RO.out).mono ?_); rintro e w7 ⟨A7, d7, rfl, own7, gr7⟩; have O7 := Lib.hid (bm.own_mono own7 G3.out.size); have G7 := Lib.hid (G3.out.trans gr7); clear own7 gr7)
          go_ret2
          exact ⟨A7, d7, rfl, O7.out, G7.out⟩
theorem serials_any (H : Cw w k c L K σ) {A : Option Addr} {m d : Nat} {xs ys : List Int} (hr : Rd w w.heap.size A m d xs) (hm : m ≤ 2048) (hs : ∀ a ∈ xs, a ∈ σ.x.tk) (hy : bm.rising (xs.map (ser σ.x)) = ys) {n : Nat} (hn : ys.length = n) :
    Calls Tryz.prog 17 #[.pointer (some ⟨c.B, 0, none⟩), .slice A m d] w fun e w' => ∃ A' d', e = .returned (.slice A' n d') ∧ w'.ownsRow w.heap.size 3 1 (.slice A' n d') n (ys.map (Value.int .i64)) ∧ w.grownBy w' none := by
  obtain ⟨i0, hi0, hz0, hz1, hz2⟩ := info_parts li.info_int
  have E : Hid (i0.zero = some (.int .i64 0) ∧ i0.size = 1 ∧ i0.bytes = 8 ∧ Tryz.prog.info? 3 = some i0) := ⟨hz0, hz1, hz2, hi0⟩
  have SR := Lib.hid (fun W (hg : w.grownBy W none) a (ha : a ∈ xs) => (show Calls Tryz.prog 41 #[.pointer (some ⟨c.B, 0, none⟩), .int .i64 a] W fun e w' => e = .returned (.int .i64 (ser σ.x a)) ∧ W.grownBy w' none from by have := Serial_any (H.new hg) a; rw [if_pos (hs a ha)] at this; exact this))
  have HR := Lib.hid hr
  have HY := Lib.hid (And.intro hy hn)
  have ML : 4096 ≤ maxLen := by unfold maxLen; omega
  have LX := Lib.hid hr.1
  clear hi0 hz0 hz1 hz2 H hr hs hy hn
  go_enter Tryz.func17, Tryz.ntmps17
  go_wp2
  go_loopw [5, 6] (fun vo i wr => ∃ (j : Nat) (Ao : Option Addr) (co : Nat), j ≤ m ∧ i = .int .i64 j ∧ vo = .slice Ao j co ∧ wr.ownsRow w.heap.size 3 1 (.slice Ao j co) j (((xs.take j).map (ser σ.x)).map (Value.int .i64)) ∧ w.grownBy wr none) (fun _ i _ => m - (intOf i).toNat)
  case atStart => exact ⟨0, none, 0, Nat.zero_le _, rfl, rfl, World.ownsRow_nil _ _ _ _, World.grownBy.refl _ _⟩
  case round =>
    obtain ⟨j, Ao, co, hj, rfl, rfl, ho, hg⟩ := hrel
    have O1 := Lib.hid ho
    have G1 := Lib.hid hg
    by_cases hjm : j < m
    · have JM := Lib.hid hjm
      obtain ⟨b, off, rfl, q0⟩ := (rd_new HR.out hg).at_ hjm
      have hme := bm.getD_mem (xs := xs) (k := j) (by rw [LX.out]; exact hjm) 0
      have TM := Lib.hid (bm.take_more (xs := xs) (k := j) (by rw [LX.out]; exact hjm) 0)
      have l1 : (j : Int) < m := by omega
      have l0 : (0 : Int) ≤ j := by omega
      generalize xs.getD j 0 = z at q0 hme TM
      have SC := Lib.hid (SR.out _ hg z hme)
      clear ho hg hjm hme
      go_wp2_with (first
        | (go_at_call 41; (with_reducible refine SC.out.mono ?_); rintro e w2 ⟨rfl, hg2⟩; have G2 := Lib.hid (G1.out.trans hg2); have O2 := Lib.hid (show w2.ownsRow w.heap.size 3 1 (.slice Ao j co) j (((xs.take j).map (ser σ.x)).map (Value.int .i64)) from own_new O1.out hg2); clear hg2)
        | (refine wpList_append_lies _ rfl (.tmp 13) (.tmp 20) 41 rfl w.heap.size 3 i0 (.int .i64 0) 1 8 Tryz.underlying41 E.out.2.2.2 E.out.1 E.out.2.1 E.out.2.2.1 rfl (by decide) _ j (((xs.take j).map (ser σ.x)).map (Value.int .i64)) rfl (O2.out.alloc _) ⟨_, 0, none⟩ 1 1 [.int .i64 (ser σ.x z)] rfl rfl (World.news_of_block (heap_alloc_new _ _)) (by intro u hu; rw [List.mem_singleton.1 hu]; rfl) (by omega) (by omega) (by omega) (by have := G2.out.size; simp; omega) _ rfl ?_; intro g cap w5 own5 gr5 at5 lt5; have O5 := Lib.hid (show w5.ownsRow w.heap.size 3 1 (.slice (some ⟨g, 0, none⟩) (j + 1) cap) (j + 1) (((xs.take (j + 1)).map (ser σ.x)).map (Value.int .i64)) from by rw [TM.out, List.map_append, List.map_append]; exact own5); have G5 := Lib.hid (bm.grown_one G2.out O2.out (Nat.le_refl _) gr5); clear own5 gr5 at5 lt5))
      go_roundw
      case rel => exact ⟨j + 1, _, cap, JM.out, by go_num, rfl, O5.out, G5.out⟩
      case measure => have := JM.out; first | (simp [intOf]; done) | (simp [intOf]; omega)
    · obtain rfl : j = m := by omega
      have RO := Lib.hid (bm.rd_own ho)
      have RA := Lib.hid (show ∀ W A c, Rd W W.heap.size A j c ((xs.take j).map (ser σ.x)) → Calls Tryz.prog 63 #[.slice A j c] W fun e w' => ∃ A' d', e = .returned (.slice A' n d') ∧ w'.ownsRow W.heap.size 3 1 (.slice A' n d') n (ys.map (Value.int .i64)) ∧ W.grownBy w' none from fun W A c h => (bm.Rising_any (B := 0) (by omega) h).mono fun e w' ⟨A', d', k1, k2, k3⟩ => by
        rw [List.take_of_length_le (Nat.le_of_eq LX.out), HY.out.1, HY.out.2] at k1 k2
        exact ⟨A', d', k1, k2, k3⟩)
      clear ho hg
      go_wp2_with (go_at_call 63; (with_reducible refine (RA.out _ _ _ RO.out).mono ?_); rintro e w7 ⟨A7, d7, rfl, own7, gr7⟩; have O7 := Lib.hid (bm.own_mono own7 G1.out.size); have G7 := Lib.hid (G1.out.trans gr7); clear own7 gr7)
      go_ret
      exact ⟨A7, d7, rfl, O7.out, G7.out⟩
end
end Go.Proofs.YtkgdcgmbapchcaaGreatDoor.cy
