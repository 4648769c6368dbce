/- The statement's own step. (Printed by wip/tools/genSkG.py.) -/
import Derived.Test.YtokjiklmeolleaaSkF
import Derived.Deep.DeepCutAuto
namespace Go.Proofs.Ytokjiklmeolleaa.sk
open Go.ChangeShapes Go.WideShapes Go.ChangeAt Go.RowKit gen li en gr
set_option linter.unusedVariables false
set_option maxHeartbeats 8000000
set_option maxRecDepth 100000
section
variable {w W W2 : World} {K : List Nat} {g r : Nat} {b : Bool} {x1 x2 : Int} {m : List Va}
theorem step_push_no {A : Option Addr} {N c : Nat} (h : Sk w K g r b m) (hr : 1 ≤ r) (hl : Lv w 0 (.slice A N c) m) (hN : N = m.length) (hv : ∀ q, (Value.slice A N c).ownBlock = some q → q ∉ K) (hm : m.length = r) (x1 x2 : Int) : Calls Try.prog 19 #[.pointer (some ⟨g, 0, none⟩), .agg #[.slice A N c, .int .i64 r, .bool b], .agg #[.int .i64 1, .int .i64 x1, .int .i64 x2]] w (StA K (.slice A N c) g r w) := by
  obtain ⟨W0, hW0⟩ : ∃ W0, W0 = (((w.alloc (.cells #[.slice A N c, .int .i64 r, .bool b] 26)).alloc (.cells #[.int .i64 1, .int .i64 x1, .int .i64 x2] 51)).alloc (.cells #[.slice none 0 0, .int .i64 0, .bool false] 26)) := ⟨_, rfl⟩
  have S0 := Lib.hid (show St w K (.slice A N c) g r b 1 x1 x2 K b m (.slice A N c) m W0 by rw [hW0]; exact St.start h hl hv 1 x1 x2)
  have HN := Lib.hid hN
  have hi := h.hi
  have l16 : N ≤ 256 := by rw [hN]; exact h.le
  obtain ⟨⟨a0, a1, a2⟩, o0, o1, o2⟩ := S0.out.f
  have f := (⟨a0, a1, a2, o1, o2⟩ : _ ∧ _ ∧ _ ∧ _ ∧ _)
  obtain ⟨⟨y0, y1, y2⟩, z0, z1, z2, lt0⟩ := S0.out.z
  have u1 : ¬ (w.heap.size = w.heap.size + 1 + 1) := by omega
  have u2 : ¬ (w.heap.size + 1 + 1 = w.heap.size) := by omega
  have u3 : ¬ (w.heap.size + 1 = w.heap.size + 1 + 1) := by omega
  have u4 : ¬ (w.heap.size + 1 + 1 = w.heap.size + 1) := by omega
  have PN := Lib.hid (fun W (hg : W0.grownBy W none) => Push_no ((S0.out.new hg).sk) hm x1 x2)
  rw [show decide (0 < r) = true from decide_eq_true hr] at PN
  have t1 : r ≤ N := by omega
  clear h hl hv hN hm
  go_enter Try.func19, Try.ntmps19
  go_upto_region 1 with fail
  rw [← hW0]
  clear hW0
  go_wp2
  go_region_held3 (fun W => W.cell? ⟨w.heap.size, 0, none⟩ = some (.slice A N c) ∧ W.cell? ⟨w.heap.size, 1, none⟩ = some (.int .i64 r) ∧ W.cell? ⟨w.heap.size, 2, none⟩ = some (.bool b) ∧ W.cell? ⟨w.heap.size + 1, 1, none⟩ = some (.int .i64 x1) ∧ W.cell? ⟨w.heap.size + 1, 2, none⟩ = some (.int .i64 x2)) (first | exact f | exact ff | go_keep) (first
    | (go_at_call 11; (with_reducible refine (PN.out _ (by first | exact World.grownBy.refl _ _ | exact grown_drew _ _ | exact li.grown_drewN _ _ _)).mono ?_); rintro e w2 ⟨rfl, hs, hg⟩; have S2 := Lib.hid ((S0.out.new (by first | exact World.grownBy.refl _ _ | exact grown_drew _ _ | exact li.grown_drewN _ _ _)).write hs (fun q h => .inl h) hg); obtain ⟨⟨a0, a1, a2⟩, o0, o1, o2⟩ := S2.out.f; have ff := (⟨a0, a1, a2, o1, o2⟩ : _ ∧ _ ∧ _ ∧ _ ∧ _); obtain ⟨⟨y0, y1, y2⟩, z0, z1, z2, lt2⟩ := S2.out.z; clear hs hg))
  go_wp2
  have GR := grown_three w2 (w.heap.size + 1 + 1) (.slice A N c) (.int .i64 (r : Int)) (.bool true)
  refine bodyPost_ret (v := .tuple #[.agg #[.slice A N c, .int .i64 r, .bool true], .bool true]) ?_ rfl ?_
  · simp [results, Try.results19, go_sem, *]
  · first | exact S2.out.fin HN.out GR | exact S2.out.fin HN.out (GR.trans (grown_drew _ _)) | exact (S2.out.new (grown_drew _ _)).fin HN.out GR
theorem step_settle {A : Option Addr} {N c : Nat} (h : Sk w K g r b m) (hr : 1 ≤ r) (hl : Lv w 0 (.slice A N c) m) (hN : N = m.length) (hv : ∀ q, (Value.slice A N c).ownBlock = some q → q ∉ K) (k x1 x2 : Int) (h1 : (k == 1) = false) (h2 : (k == 2) = false) : Calls Try.prog 19 #[.pointer (some ⟨g, 0, none⟩), .agg #[.slice A N c, .int .i64 r, .bool b], .agg #[.int .i64 k, .int .i64 x1, .int .i64 x2]] w (StA K (.slice A N c) g r w) := by
  obtain ⟨W0, hW0⟩ : ∃ W0, W0 = (((w.alloc (.cells #[.slice A N c, .int .i64 r, .bool b] 26)).alloc (.cells #[.int .i64 k, .int .i64 x1, .int .i64 x2] 51)).alloc (.cells #[.slice none 0 0, .int .i64 0, .bool false] 26)) := ⟨_, rfl⟩
  have S0 := Lib.hid (show St w K (.slice A N c) g r b k x1 x2 K b m (.slice A N c) m W0 by rw [hW0]; exact St.start h hl hv k x1 x2)
  have HN := Lib.hid hN
  have hi := h.hi
  have l16 : N ≤ 256 := by rw [hN]; exact h.le
  obtain ⟨⟨a0, a1, a2⟩, o0, o1, o2⟩ := S0.out.f
  have f := (⟨a0, a1, a2, o1, o2⟩ : _ ∧ _ ∧ _ ∧ _ ∧ _)
  obtain ⟨⟨y0, y1, y2⟩, z0, z1, z2, lt0⟩ := S0.out.z
  have u1 : ¬ (w.heap.size = w.heap.size + 1 + 1) := by omega
  have u2 : ¬ (w.heap.size + 1 + 1 = w.heap.size) := by omega
  have u3 : ¬ (w.heap.size + 1 = w.heap.size + 1 + 1) := by omega
  have u4 : ¬ (w.heap.size + 1 + 1 = w.heap.size + 1) := by omega
  have PN := Lib.hid (fun W (hg : W0.grownBy W none) => Settle_any ((S0.out.new hg).sk))
  clear h hl hv hN
  go_enter Try.func19, Try.ntmps19
  go_upto_region 1 with fail
  rw [← hW0]
  clear hW0
  go_wp2
  go_region_held3 (fun W => W.cell? ⟨w.heap.size, 0, none⟩ = some (.slice A N c) ∧ W.cell? ⟨w.heap.size, 1, none⟩ = some (.int .i64 r) ∧ W.cell? ⟨w.heap.size, 2, none⟩ = some (.bool b) ∧ W.cell? ⟨w.heap.size + 1, 1, none⟩ = some (.int .i64 x1) ∧ W.cell? ⟨w.heap.size + 1, 2, none⟩ = some (.int .i64 x2)) (first | exact f | exact ff | go_keep) (first
    | (go_at_call 18; (with_reducible refine (PN.out _ (by first | exact World.grownBy.refl _ _ | exact grown_drew _ _ | exact li.grown_drewN _ _ _)).mono ?_); rintro e w2 ⟨rfl, hs, hg⟩; have S2 := Lib.hid ((S0.out.new (by first | exact World.grownBy.refl _ _ | exact grown_drew _ _ | exact li.grown_drewN _ _ _)).write hs (fun q h => .inl h) hg); obtain ⟨⟨a0, a1, a2⟩, o0, o1, o2⟩ := S2.out.f; have ff := (⟨a0, a1, a2, o1, o2⟩ : _ ∧ _ ∧ _ ∧ _ ∧ _); obtain ⟨⟨y0, y1, y2⟩, z0, z1, z2, lt2⟩ := S2.out.z; clear hs hg))
  go_wp2
  have GR := grown_three w2 (w.heap.size + 1 + 1) (.slice A N c) (.int .i64 (r : Int)) (.bool false)
  refine bodyPost_ret (v := .tuple #[.agg #[.slice A N c, .int .i64 r, .bool false], .bool true]) ?_ rfl ?_
  · simp [results, Try.results19, go_sem, *]
  · first | exact S2.out.fin HN.out GR | exact S2.out.fin HN.out (GR.trans (grown_drew _ _)) | exact (S2.out.new (grown_drew _ _)).fin HN.out GR
theorem Lv.grow {a b c : World} {base : Nat} {v : Value} {m : List Va} (h : a.grownBy b none) (hl : Lv b base v m) (k : b.grownBy c v.ownBlock) (hb : a.heap.size ≤ base) : a.grownBy c none := h.andThen k (fun q e => .inl (Nat.le_trans hb (hl.from_ q e)))
theorem step_push_yes {A : Option Addr} {N c : Nat} (h : Sk w K g r b m) (hr : 1 ≤ r) (hl : Lv w 0 (.slice A N c) m) (hN : N = m.length) (hv : ∀ q, (Value.slice A N c).ownBlock = some q → q ∉ K) (hm : m.length < r) (x1 x2 : Int) : Calls Try.prog 19 #[.pointer (some ⟨g, 0, none⟩), .agg #[.slice A N c, .int .i64 r, .bool b], .agg #[.int .i64 1, .int .i64 x1, .int .i64 x2]] w (StA K (.slice A N c) g r w) := by
  obtain ⟨W0, hW0⟩ : ∃ W0, W0 = (((w.alloc (.cells #[.slice A N c, .int .i64 r, .bool b] 26)).alloc (.cells #[.int .i64 1, .int .i64 x1, .int .i64 x2] 51)).alloc (.cells #[.slice none 0 0, .int .i64 0, .bool false] 26)) := ⟨_, rfl⟩
  have S0 := Lib.hid (show St w K (.slice A N c) g r b 1 x1 x2 K b m (.slice A N c) m W0 by rw [hW0]; exact St.start h hl hv 1 x1 x2)
  have HN := Lib.hid hN
  have hi := h.hi
  have l16 : N ≤ 256 := by rw [hN]; exact h.le
  obtain ⟨⟨a0, a1, a2⟩, o0, o1, o2⟩ := S0.out.f
  have f := (⟨a0, a1, a2, o1, o2⟩ : _ ∧ _ ∧ _ ∧ _ ∧ _)
  obtain ⟨⟨y0, y1, y2⟩, z0, z1, z2, lt0⟩ := S0.out.z
  have u1 : ¬ (w.heap.size = w.heap.size + 1 + 1) := by omega
  have u2 : ¬ (w.heap.size + 1 + 1 = w.heap.size) := by omega
  have u3 : ¬ (w.heap.size + 1 = w.heap.size + 1 + 1) := by omega
  have u4 : ¬ (w.heap.size + 1 + 1 = w.heap.size + 1) := by omega
  have PN := Lib.hid (fun W (hW : Sk W K g r b m) => Push_yes hW hm x1 x2)
  have HA := Lib.hid (show A = none → N = 0 ∧ c = 0 from fun e => by
    subst e
    rcases hl.2 with ⟨e, _⟩ | ⟨g, cap, cur, e, _⟩
    · injection e with _ e2 e3; exact ⟨e2, e3⟩
    · cases e)
  have t1 : ¬ r ≤ N := by omega
  have HM := Lib.hid hm
  clear h hl hv hN hm
  go_enter Try.func19, Try.ntmps19
  go_upto_region 1 with fail
  rw [← hW0]
  clear hW0
  go_wp2_with (first
    | (have mark := S2; refine append_vas rfl (.tmp 36) (.tmp 39) rfl W0.heap.size (.slice A2 N2 k2) ([] ++ m) rfl (L2.out.new (World.grownBy_alloc _ _ _)) (some ⟨w2.heap.size, 0, none⟩) 1 1 _ [(x1, x2)] rfl (fun e => by cases e) (Rv.one (by go_simp) (by go_simp)) (by have := HN.out; simp; omega) (by have := G2.out.size; simp; omega) ?_; intro A3 N3 k3 w3 hn3 hl3 hg3; have HN3 := Lib.hid (show N3 = (m ++ [(x1, x2)]).length from hn3); have S3 := Lib.hid (S0.out.made (Lv.grow (G2.out.trans (World.grownBy_alloc _ _ _)) (L2.out.new (World.grownBy_alloc _ _ _)) hg3 (Nat.le_refl _)) (show Lv w3 W0.heap.size (.slice A3 N3 k3) (m ++ [(x1, x2)]) from hl3)); obtain ⟨⟨a0, a1, a2⟩, o0, o1, o2⟩ := S3.out.f; have f3 := (⟨a0, a1, a2, o1, o2⟩ : _ ∧ _ ∧ _ ∧ _ ∧ _); obtain ⟨⟨y0, y1, y2⟩, z0, z1, z2, lt2⟩ := S3.out.z; clear hn3 hl3 hg3)
    | (refine append_vas rfl (.tmp 32) (.tmp 34) rfl W0.heap.size (.slice none 0 0) [] rfl (Lv.nil _ _) A N c W0.heap.size m rfl HA.out (S0.out.li.rv HN.out) (by simp; omega) (Nat.le_refl _) ?_; intro A2 N2 k2 w2 hn2 hl2 hg2; have HN2 := Lib.hid hn2; have L2 := Lib.hid hl2; have hg2' : W0.grownBy w2 none := hg2; have G2 := Lib.hid hg2'; have S2 := Lib.hid (S0.out.new hg2'); obtain ⟨⟨a0, a1, a2⟩, o0, o1, o2⟩ := S2.out.f; have f2 := (⟨a0, a1, a2, o1, o2⟩ : _ ∧ _ ∧ _ ∧ _ ∧ _); obtain ⟨⟨y0, y1, y2⟩, z0, z1, z2, lt2⟩ := S2.out.z; clear hn2 hl2 hg2 hg2'))
  go_region_held3 (fun W => W.cell? ⟨w.heap.size, 0, none⟩ = some (.slice A N c) ∧ W.cell? ⟨w.heap.size, 1, none⟩ = some (.int .i64 r) ∧ W.cell? ⟨w.heap.size, 2, none⟩ = some (.bool b) ∧ W.cell? ⟨w.heap.size + 1, 1, none⟩ = some (.int .i64 x1) ∧ W.cell? ⟨w.heap.size + 1, 2, none⟩ = some (.int .i64 x2)) (first | exact f3 | exact ff | go_keep) (first
    | (go_at_call 11; (with_reducible refine (PN.out _ ((S3.out.new (by first | exact World.grownBy.refl _ _ | exact grown_drew _ _ | exact li.grown_drewN _ _ _)).sk)).mono ?_); rintro e w4 ⟨rfl, K4, hk, hs, hg⟩; have S4 := Lib.hid ((S3.out.new (by first | exact World.grownBy.refl _ _ | exact grown_drew _ _ | exact li.grown_drewN _ _ _)).write hs hk hg); obtain ⟨⟨a0, a1, a2⟩, o0, o1, o2⟩ := S4.out.f; have ff := (⟨a0, a1, a2, o1, o2⟩ : _ ∧ _ ∧ _ ∧ _ ∧ _); obtain ⟨⟨y0, y1, y2⟩, z0, z1, z2, lt2⟩ := S4.out.z; clear hs hk hg))
  go_wp2
  have GR := grown_three w4 (w.heap.size + 1 + 1) (.slice A3 N3 k3) (.int .i64 (r : Int)) (.bool b)
  refine bodyPost_ret (v := .tuple #[.agg #[.slice A3 N3 k3, .int .i64 r, .bool b], .bool true]) ?_ rfl ?_
  · simp [results, Try.results19, go_sem, *]
  · first | exact S4.out.fin HN3.out GR | exact S4.out.fin HN3.out (GR.trans (grown_drew _ _)) | exact (S4.out.new (grown_drew _ _)).fin HN3.out GR
theorem step_pop_no {A : Option Addr} {N c : Nat} (h : Sk w K g r b []) (hr : 1 ≤ r) (hl : Lv w 0 (.slice A N c) []) (hN : N = ([] : List Va).length) (hv : ∀ q, (Value.slice A N c).ownBlock = some q → q ∉ K) (x1 x2 : Int) : Calls Try.prog 19 #[.pointer (some ⟨g, 0, none⟩), .agg #[.slice A N c, .int .i64 r, .bool b], .agg #[.int .i64 2, .int .i64 x1, .int .i64 x2]] w (StA K (.slice A N c) g r w) := by
  obtain ⟨W0, hW0⟩ : ∃ W0, W0 = (((w.alloc (.cells #[.slice A N c, .int .i64 r, .bool b] 26)).alloc (.cells #[.int .i64 2, .int .i64 x1, .int .i64 x2] 51)).alloc (.cells #[.slice none 0 0, .int .i64 0, .bool false] 26)) := ⟨_, rfl⟩
  have S0 := Lib.hid (show St w K (.slice A N c) g r b 2 x1 x2 K b [] (.slice A N c) [] W0 by rw [hW0]; exact St.start h hl hv 2 x1 x2)
  have HN := Lib.hid hN
  have hi := h.hi
  have l16 : N ≤ 256 := by rw [hN]; exact h.le
  obtain ⟨⟨a0, a1, a2⟩, o0, o1, o2⟩ := S0.out.f
  have f := (⟨a0, a1, a2, o1, o2⟩ : _ ∧ _ ∧ _ ∧ _ ∧ _)
  obtain ⟨⟨y0, y1, y2⟩, z0, z1, z2, lt0⟩ := S0.out.z
  have u1 : ¬ (w.heap.size = w.heap.size + 1 + 1) := by omega
  have u2 : ¬ (w.heap.size + 1 + 1 = w.heap.size) := by omega
  have u3 : ¬ (w.heap.size + 1 = w.heap.size + 1 + 1) := by omega
  have u4 : ¬ (w.heap.size + 1 + 1 = w.heap.size + 1) := by omega
  have PN := Lib.hid (fun W (hg : W0.grownBy W none) => Pop_none ((S0.out.new hg).sk))
  obtain rfl : N = 0 := hN
  clear h hl hv
  go_enter Try.func19, Try.ntmps19
  go_upto_region 1 with fail
  rw [← hW0]
  clear hW0
  go_wp2_with (first
    | (go_at_call 13; (with_reducible refine (PN.out _ (by first | exact World.grownBy.refl _ _ | exact grown_drew _ _ | exact li.grown_drewN _ _ _)).mono ?_); rintro e w2 ⟨rfl, hg⟩; have S2 := Lib.hid (S0.out.new (World.grownBy.trans (by first | exact World.grownBy.refl _ _ | exact grown_drew _ _ | exact li.grown_drewN _ _ _) hg)); obtain ⟨⟨a0, a1, a2⟩, o0, o1, o2⟩ := S2.out.f; have ff := (⟨a0, a1, a2, o1, o2⟩ : _ ∧ _ ∧ _ ∧ _ ∧ _); obtain ⟨⟨y0, y1, y2⟩, z0, z1, z2, lt2⟩ := S2.out.z; have S3 := Lib.hid (S2.out.new (World.grownBy_alloc w2 (.cells #[.int .i64 0, .int .i64 0] 36) none)); clear hg))
  obtain ⟨W3, hW3⟩ : ∃ W3, W3 = w2.alloc (.cells #[.int .i64 0, .int .i64 0] 36) := ⟨_, rfl⟩
  obtain ⟨Be, hBe⟩ : ∃ Be, Be = w2.heap.size := ⟨_, rfl⟩
  have E3 := Lib.hid (show En W3 Be 0 0 by rw [hW3, hBe]; exact En.made w2 0 0)
  rw [← hW3] at S3
  rw [← hW3, ← hBe]
  obtain ⟨⟨a0, a1, a2⟩, o0, o1, o2⟩ := S3.out.f
  obtain ⟨⟨y0, y1, y2⟩, z0, z1, z2, lt3⟩ := S3.out.z
  obtain ⟨i0, i1, _, _, ltb⟩ := E3.out.f
  clear hW3 hBe lt2 lt0
  go_region
  go_wp2
  have GR := grown_three W3 (w.heap.size + 1 + 1) (.slice A 0 c) (.int .i64 (r : Int)) (.bool b)
  refine bodyPost_ret (v := .tuple #[.agg #[.slice A 0 c, .int .i64 r, .bool b], .bool true]) ?_ rfl ?_
  · simp [results, Try.results19, go_sem, *]
  · first | exact S3.out.fin rfl GR | exact S3.out.fin rfl (GR.trans (grown_drew _ _)) | exact (S3.out.new (grown_drew _ _)).fin rfl GR
theorem step_pop_yes {e1 e2 : Int} {A : Option Addr} {N c : Nat} (h : Sk w K g r b (m ++ [(e1, e2)])) (hr : 1 ≤ r) (hl : Lv w 0 (.slice A N c) (m ++ [(e1, e2)])) (hN : N = (m ++ [(e1, e2)]).length) (hv : ∀ q, (Value.slice A N c).ownBlock = some q → q ∉ K) (x1 x2 : Int) : Calls Try.prog 19 #[.pointer (some ⟨g, 0, none⟩), .agg #[.slice A N c, .int .i64 r, .bool b], .agg #[.int .i64 2, .int .i64 x1, .int .i64 x2]] w (StA K (.slice A N c) g r w) := by
  obtain ⟨W0, hW0⟩ : ∃ W0, W0 = (((w.alloc (.cells #[.slice A N c, .int .i64 r, .bool b] 26)).alloc (.cells #[.int .i64 2, .int .i64 x1, .int .i64 x2] 51)).alloc (.cells #[.slice none 0 0, .int .i64 0, .bool false] 26)) := ⟨_, rfl⟩
  have S0 := Lib.hid (show St w K (.slice A N c) g r b 2 x1 x2 K b (m ++ [(e1, e2)]) (.slice A N c) (m ++ [(e1, e2)]) W0 by rw [hW0]; exact St.start h hl hv 2 x1 x2)
  have HN := Lib.hid hN
  have hi := h.hi
  have l16 : N ≤ 256 := by rw [hN]; exact h.le
  obtain ⟨⟨a0, a1, a2⟩, o0, o1, o2⟩ := S0.out.f
  have f := (⟨a0, a1, a2, o1, o2⟩ : _ ∧ _ ∧ _ ∧ _ ∧ _)
  obtain ⟨⟨y0, y1, y2⟩, z0, z1, z2, lt0⟩ := S0.out.z
  have u1 : ¬ (w.heap.size = w.heap.size + 1 + 1) := by omega
  have u2 : ¬ (w.heap.size + 1 + 1 = w.heap.size) := by omega
  have u3 : ¬ (w.heap.size + 1 = w.heap.size + 1 + 1) := by omega
  have u4 : ¬ (w.heap.size + 1 + 1 = w.heap.size + 1) := by omega
  obtain ⟨p, hp⟩ : ∃ p, m.length = p := ⟨_, rfl⟩
  have HP := Lib.hid hp
  have hN' : N = p + 1 := by rw [hN]; simp [hp]
  have PN := Lib.hid (fun W (hg : W0.grownBy W none) => Pop_yes ((S0.out.new hg).sk))
  have HX := Lib.hid (show (m ++ [(e1, e2)]).getD p (0, 0) = (e1, e2) by rw [← hp]; simp)
  obtain ⟨lc, lm⟩ : N ≤ c ∧ c ≤ maxLen := by
    obtain ⟨_, _, _, e, e2, h1, h2⟩ := hl.shape
    injection e with e3 e4 e5
    omega
  obtain ⟨q, rfl⟩ : ∃ q, A = some ⟨q, 0, none⟩ := by
    rcases hl.2 with ⟨e, _⟩ | ⟨q, _, _, e, _⟩
    · injection e with _ e _
      omega
    · injection e with e _ _
      exact ⟨q, e⟩
  unfold maxLen at lm
  subst hN'
  have l1 : (0 : Int) ≤ (p : Int) := by omega
  have CE := Lib.hid (fun W v2 (h : Lv W 0 v2 (m ++ [(e1, e2)])) (hv : v2 = .slice (some ⟨q, 0, none⟩) (p + 1) c) => (show W.cell? ⟨q, p * 2, none⟩ = some (.int .i64 e1) ∧ W.cell? ⟨q, p * 2 + 1, none⟩ = some (.int .i64 e2) from by
    subst hv
    obtain ⟨b1, o1, e, g1, g2⟩ := (h.rv hN).at_ (i := p) (by omega)
    injection e with e
    injection e with e4 e5 _
    subst e4 e5
    rw [HX.out, Nat.zero_add] at g1 g2
    exact ⟨g1, g2⟩))
  clear h hl hv hN hp
  go_enter Try.func19, Try.ntmps19
  go_upto_region 1 with fail
  rw [← hW0]
  clear hW0
  go_wp2_with (first
    | (go_at_call 13; (with_reducible refine (PN.out _ (by first | exact World.grownBy.refl _ _ | exact grown_drew _ _ | exact li.grown_drewN _ _ _)).mono ?_); rintro e w2 ⟨rfl, hs, hg⟩; have S2 := Lib.hid ((S0.out.new (by first | exact World.grownBy.refl _ _ | exact grown_drew _ _ | exact li.grown_drewN _ _ _)).write hs (fun q h => .inl h) hg); obtain ⟨⟨a0, a1, a2⟩, o0, o1, o2⟩ := S2.out.f; have ff := (⟨a0, a1, a2, o1, o2⟩ : _ ∧ _ ∧ _ ∧ _ ∧ _); obtain ⟨⟨y0, y1, y2⟩, z0, z1, z2, lt2⟩ := S2.out.z; obtain ⟨d0, d1⟩ := CE.out _ _ S2.out.li rfl; have lq : q < w2.heap.size := World.block_lt_of_cell? _ _ d0; have S3 := Lib.hid (S2.out.new (World.grownBy_alloc w2 (.cells #[.int .i64 e1, .int .i64 e2] 36) none)); clear hs hg))
  obtain ⟨W3, hW3⟩ : ∃ W3, W3 = w2.alloc (.cells #[.int .i64 e1, .int .i64 e2] 36) := ⟨_, rfl⟩
  obtain ⟨Be, hBe⟩ : ∃ Be, Be = w2.heap.size := ⟨_, rfl⟩
  have E3 := Lib.hid (show En W3 Be e1 e2 by rw [hW3, hBe]; exact En.made w2 e1 e2)
  rw [← hW3] at S3
  rw [← hW3, ← hBe]
  obtain ⟨⟨a0, a1, a2⟩, o0, o1, o2⟩ := S3.out.f
  obtain ⟨⟨y0, y1, y2⟩, z0, z1, z2, lt3⟩ := S3.out.z
  obtain ⟨d0, d1⟩ := CE.out _ _ S3.out.li rfl
  obtain ⟨i0, i1, _, _, ltb⟩ := E3.out.f
  have f3 := (⟨a0, a1, a2, d0, d1, i0, i1⟩ : _ ∧ _ ∧ _ ∧ _ ∧ _ ∧ _ ∧ _)
  have nb1 : ¬ (Be = w.heap.size + 1 + 1) := by omega
  have nb2 : ¬ (w.heap.size + 1 + 1 = Be) := by omega
  have nq : ¬ (q = w.heap.size + 1 + 1) := fun e => S3.out.li.off S3.out.rs (fun cs z => by simp) (by rw [e]; rfl)
  have nq2 : ¬ (w.heap.size + 1 + 1 = q) := fun e => nq e.symm
  have LQ := Lib.hid (show Lv W3 0 (.slice (some ⟨q, 0, none⟩) p c) m from by
    have := Lv.take S3.out.li (j := p) (by rw [List.length_append, HP.out]; rfl) (by omega)
    rwa [List.take_left' HP.out] at this)
  have S4 := Lib.hid (S3.out.list LQ.out (fun q' e => S3.out.vv q' e))
  have l2 : (p : Int) < 256 := by omega
  have l3 : (p : Int) ≤ c := by omega
  have hw : IntKind.i64.wrap ((p : Int) + 1 - 1) = p := by rw [show (p : Int) + 1 - 1 = p by omega]; exact Go.IntWalk.i64_in _ ⟨by omega, by omega⟩
  have hw2 : IntKind.i64.wrap (p : Int) = p := Go.IntWalk.i64_in _ ⟨by omega, by omega⟩
  have l4 : (p : Int) < (p : Int) + 1 := by omega
  have l5 : (p : Int) < ((p + 1 : Nat) : Int) := by omega
  have l6 : p < p + 1 := by omega
  have l7 : p ≤ c := by omega
  clear hW3 hBe lt2 lt0 lq
  go_region_held3 (fun W => W.cell? ⟨w.heap.size, 0, none⟩ = some (.slice (some ⟨q, 0, none⟩) (p + 1) c) ∧ W.cell? ⟨w.heap.size, 1, none⟩ = some (.int .i64 r) ∧ W.cell? ⟨w.heap.size, 2, none⟩ = some (.bool b) ∧ W.cell? ⟨q, p * 2, none⟩ = some (.int .i64 e1) ∧ W.cell? ⟨q, p * 2 + 1, none⟩ = some (.int .i64 e2) ∧ W.cell? ⟨Be, 0, none⟩ = some (.int .i64 e1) ∧ W.cell? ⟨Be, 1, none⟩ = some (.int .i64 e2)) (first | exact f3 | go_keep) (first | fail)
  go_wp2
  have GR := grown_three W3 (w.heap.size + 1 + 1) (.slice (some ⟨q, 0, none⟩) p c) (.int .i64 (r : Int)) (.bool b)
  refine bodyPost_ret (v := .tuple #[.agg #[.slice (some ⟨q, 0, none⟩) p c, .int .i64 r, .bool b], .bool true]) ?_ rfl ?_
  · simp [results, Try.results19, go_sem, *]
  · first | exact S4.out.fin HP.out.symm GR | exact S4.out.fin HP.out.symm (GR.trans (grown_drew _ _)) | exact (S4.out.new (grown_drew _ _)).fin HP.out.symm GR
end
end Go.Proofs.Ytokjiklmeolleaa.sk
