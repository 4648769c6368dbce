/- A cache: a clone goes on by itself; of one that nobody made nothing is told. -/
import Derived.Test.YtagahkofjgbfhaaCaM
import Derived.Test.YtagahkofjgbfhaaCaN
namespace Go.Proofs.Ytagahkofjgbfhaa.ca
open Go.ChangeShapes Go.WideShapes Go.ChangeAt Go.RowKit Go.Maps gen calls cls
set_option linter.unusedVariables false
set_option maxHeartbeats 32000000
set_option maxRecDepth 100000
theorem nob_none (w : World) : Nob w none := .inl rfl
theorem CacheClones_any (n0 : Int) (A1 : Option Addr) (n1 c1 : Nat) (f1 : Nat → Nat → Int) (A2 : Option Addr) (n2 c2 : Nat) (f2 : Nat → Nat → Int) (A3 : Option Addr) (n3 c3 : Nat) (f3 : Nat → Nat → Int) (w : World)
    (hc1 : n1 ≤ c1) (hm1 : c1 ≤ maxLen) (ho1 : Rws w w.heap.size A1 n1 4 f1) (hc2 : n2 ≤ c2) (hm2 : c2 ≤ maxLen) (ho2 : Rws w w.heap.size A2 n2 4 f2) (hc3 : n3 ≤ c3) (hm3 : c3 ≤ maxLen) (ho3 : Rws w w.heap.size A3 n3 4 f3) :
    Calls Try.prog 5 #[.int .i64 n0, .slice A1 n1 c1, .slice A2 n2 c2, .slice A3 n3 c3] w fun e w' => e = .returned (.bool true) ∧ w.grownBy w' none := by
  obtain ⟨K, hk, h9⟩ := nat_near n0
  have O1 := Lib.hid ho1
  have O2 := Lib.hid ho2
  have O3 := Lib.hid ho3
  have HD1 := Lib.hid (show 0 < n1 → ∃ ad, A1 = some ad from ho1.some)
  have HD2 := Lib.hid (show 0 < n2 → ∃ ad, A2 = some ad from ho2.some)
  have HD3 := Lib.hid (show 0 < n3 → ∃ ad, A3 = some ad from ho3.some)
  have HL1 := Lib.hid hc1
  have HL2 := Lib.hid hc2
  have HL3 := Lib.hid hc3
  have HM1 := Lib.hid hm1
  have HM2 := Lib.hid hm2
  have HM3 := Lib.hid hm3
  have HK := Lib.hid hk
  have NW := Lib.hid (fun w => New_any n0 K hk h9 w)
  have FF := Lib.hid (show fits 0 = true ∧ fits 1 = true by decide)
  clear hk h9 ho1 ho2 ho3 hc1 hc2 hc3 hm1 hm2 hm3
  go_enter Try.func5, Try.ntmps5
  go_wp2_with (first
    | (go_at_call 6; (with_reducible refine (alive_any _).mono ?_); rintro e w1 ⟨rfl, hg⟩; have GT := Lib.hid hg; clear hg)
    | (go_at_call 9; (with_reducible refine (bm.Near_any _ _ _ _).mono ?_); rintro e w' ⟨rfl, rfl⟩; rw [HK.out])
    | (go_at_call 8; (with_reducible refine (NW.out _).mono ?_); rintro e w2 ⟨c, mb, rfl, hc, hl, hg⟩; have C0 := Lib.hid hc; have LO := Lib.hid (Nat.le_trans GT.out.size hl.2); have GT := Lib.hid (GT.out.trans hg); clear hc hl hg)
    | (go_at_call 10; (with_reducible refine (few_any A1 n1 c1 _ HL1.out HM1.out HD1.out).mono ?_); rintro e w' ⟨⟨l1, k1, hl1, hl2, rfl⟩, rfl⟩; have R1 := Lib.hid (And.intro hl1 hl2); clear hl1 hl2)
    | (go_at_call 10; (with_reducible refine (few_any A2 n2 c2 _ HL2.out HM2.out HD2.out).mono ?_); rintro e w' ⟨⟨l2, k2, hl1, hl2, rfl⟩, rfl⟩; have R2 := Lib.hid (And.intro hl1 hl2); clear hl1 hl2)
    | (go_at_call 10; (with_reducible refine (few_any A3 n3 c3 _ HL3.out HM3.out HD3.out).mono ?_); rintro e w' ⟨⟨l3, k3, hl1, hl2, rfl⟩, rfl⟩; have R3 := Lib.hid (And.intro hl1 hl2); clear hl1 hl2)
    | (have mark := V4; go_at_call 7; (with_reducible refine (run_any K3.out V3.out ((O2.out.less R2.out.2).kept GT.out (by simp)) LK.out R2.out.1).mono ?_); rintro e w8 ⟨v5, m5, D5, rfl, hc, hl, hg⟩; have GT := Lib.hid (GT.out.andThen hg (fun j hj => by cases hj; exact .inl LK.out)); have ODD := Lib.hid (fun W (hg : (w8.alloc (.cells #[.int .i64 0, .map none] 46)).grownBy W none) => (show Nob W (some ⟨w8.heap.size, 0, none⟩) from .inr ⟨w8.heap.size, rfl, hg.cell (by simp [go_sem]) (by simp), hg.cell (by simp [go_sem]) (by simp)⟩)); have GO := Lib.hid (World.grownBy.refl (w8.alloc (.cells #[.int .i64 0, .map none] 46)) none); have GT := Lib.hid (GT.out.trans (World.grownBy_alloc w8 (.cells #[.int .i64 0, .map none] 46) none)); clear hc hl hg)
    | (have mark := V3; go_at_call 7; (with_reducible refine (run_any C2'.out V2'.out ((O3.out.less R3.out.2).kept GT.out (by simp)) LO.out R3.out.1).mono ?_); rintro e w7 ⟨v4, m4, D4, rfl, hc, hl, hg⟩; have V4 := Lib.hid hl; have K3 := Lib.hid (K3.out.kept hg (by simpa using NE.out.1) (by simpa using NE.out.2.1)); have V3 := Lib.hid (V3.out.kept hg (.inr (Lo.far C2'.out V3.out))); have GT := Lib.hid (GT.out.andThen hg (fun j hj => by cases hj; exact .inl LO.out)); clear hc hl hg)
    | (have mark := V2; go_at_call 7; (with_reducible refine (run_any K2.out V1'.out ((O3.out.less R3.out.2).kept GT.out (by simp)) LK.out R3.out.1).mono ?_); rintro e w6 ⟨v3, m3, D3, rfl, hc, hl, hg⟩; have V3 := Lib.hid hl; have K3 := Lib.hid hc; have C2' := Lib.hid (C2.out.kept hg (by simpa using NE.out.2.2.1) (by simpa using NE.out.2.2.2)); have V2' := Lib.hid (V2.out.kept hg (.inr (Lo.far K2.out V2.out))); have GT := Lib.hid (GT.out.andThen hg (fun j hj => by cases hj; exact .inl LK.out)); clear hc hl hg)
    | (have mark := K1; go_at_call 7; (with_reducible refine (run_any C1'.out V1'.out ((O2.out.less R2.out.2).kept GT.out (by simp)) LO.out R2.out.1).mono ?_); rintro e w5 ⟨v2, m2, D2, rfl, hc, hl, hg⟩; have V2 := Lib.hid hl; have C2 := Lib.hid hc; have K2 := Lib.hid (K1.out.kept hg (by simpa using NE.out.1) (by simpa using NE.out.2.1)); have V1' := Lib.hid (V1'.out.kept hg (.inr (Lo.far C1'.out V1'.out))); have GT := Lib.hid (GT.out.andThen hg (fun j hj => by cases hj; exact .inl LO.out)); clear hc hl hg)
    | (go_at_call 7; (with_reducible refine (run_any C0.out (Lo.nil _ _) ((O1.out.less R1.out.2).kept GT.out (by simp)) LO.out R1.out.1).mono ?_); rintro e w3 ⟨v1, m1, D1, rfl, hc, hl, hg⟩; have V1 := Lib.hid hl; have C1 := Lib.hid hc; have GT := Lib.hid (GT.out.andThen hg (fun j hj => by cases hj; exact .inl LO.out)); clear hc hl hg)
    | (go_at_call 17; (with_reducible refine (Clone_any C1.out).mono ?_); rintro e w4 ⟨c9, b9, rfl, hc, hl, hg⟩; have K1 := Lib.hid hc; have C1' := Lib.hid (C1.out.new hg); have V1' := Lib.hid (V1.out.new hg); have LK := Lib.hid (Nat.le_trans GT.out.size hl.2); have NE := Lib.hid (show (¬ c9 = mb) ∧ (¬ b9 = mb) ∧ (¬ c = b9) ∧ ¬ mb = b9 by have h1 := C1.out.lt; omega); have GT := Lib.hid (GT.out.trans hg); clear hc hl hg)
    | (go_at_call 13; (with_reducible refine (Owner_nob (P := none) (nob_none _) 0).mono ?_); rintro e wx ⟨rfl, hg⟩; have GO := Lib.hid (GO.out.trans hg); have GT := Lib.hid (GT.out.trans hg); clear hg)
    | (go_at_call 13; (with_reducible refine (Owner_nob (ODD.out _ GO.out) 0).mono ?_); rintro e wx ⟨rfl, hg⟩; have GO := Lib.hid (GO.out.trans hg); have GT := Lib.hid (GT.out.trans hg); clear hg)
    | (go_at_call 14; (with_reducible refine (Page_nob (P := none) (nob_none _) 0 1 FF.out.1 FF.out.2).mono ?_); rintro e wx ⟨rfl, hg⟩; have GO := Lib.hid (GO.out.trans hg); have GT := Lib.hid (GT.out.trans hg); clear hg)
    | (go_at_call 14; (with_reducible refine (Page_nob (ODD.out _ GO.out) 0 1 FF.out.1 FF.out.2).mono ?_); rintro e wx ⟨rfl, hg⟩; have GO := Lib.hid (GO.out.trans hg); have GT := Lib.hid (GT.out.trans hg); clear hg)
    | (go_at_call 12; (with_reducible refine (Set_nob (P := none) (nob_none _) 1 0).mono ?_); rintro e wx ⟨rfl, hg⟩; have GO := Lib.hid (GO.out.trans hg); have GT := Lib.hid (GT.out.trans hg); clear hg)
    | (go_at_call 12; (with_reducible refine (Set_nob (ODD.out _ GO.out) 1 0).mono ?_); rintro e wx ⟨rfl, hg⟩; have GO := Lib.hid (GO.out.trans hg); have GT := Lib.hid (GT.out.trans hg); clear hg)
    | (go_at_call 11; (with_reducible refine (Drop_nob (P := none) (nob_none _) 0).mono ?_); rintro e wx ⟨rfl, hg⟩; have GO := Lib.hid (GO.out.trans hg); have GT := Lib.hid (GT.out.trans hg); clear hg)
    | (go_at_call 11; (with_reducible refine (Drop_nob (ODD.out _ GO.out) 0).mono ?_); rintro e wx ⟨rfl, hg⟩; have GO := Lib.hid (GO.out.trans hg); have GT := Lib.hid (GT.out.trans hg); clear hg)
    | (go_at_call 16; (with_reducible refine (All_nob (P := none) (nob_none _)).mono ?_); rintro e wx ⟨rfl, hg⟩; have GO := Lib.hid (GO.out.trans hg); have GT := Lib.hid (GT.out.trans hg); clear hg)
    | (go_at_call 16; (with_reducible refine (All_nob (ODD.out _ GO.out)).mono ?_); rintro e wx ⟨rfl, hg⟩; have GO := Lib.hid (GO.out.trans hg); have GT := Lib.hid (GT.out.trans hg); clear hg)
    | (go_at_call 17; (with_reducible refine (Clone_nob (P := none) (nob_none _)).mono ?_); rintro e wx ⟨rfl, hg⟩; have GO := Lib.hid (GO.out.trans hg); have GT := Lib.hid (GT.out.trans hg); clear hg)
    | (go_at_call 17; (with_reducible refine (Clone_nob (ODD.out _ GO.out)).mono ?_); rintro e wx ⟨rfl, hg⟩; have GO := Lib.hid (GO.out.trans hg); have GT := Lib.hid (GT.out.trans hg); clear hg))
  go_ret
  exact ⟨rfl, GT.out⟩
end Go.Proofs.Ytagahkofjgbfhaa.ca
