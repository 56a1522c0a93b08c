/-
  The law BankBytes returns true. Conditions: what the slices hold is of its kinds.
-/
import Derived.Test.YthdcgkikhindiaaGBkO
import Derived.Test.YthdcgkikhindiaaGBr1
import Derived.Test.YthdcgkikhindiaaGBr2
namespace Go.Proofs.Ythdcgkikhindiaa
open Go.RowKit Go.Shelf
set_option linter.unusedVariables false
namespace Bk
open Pm

/-- A bank in newer memory stands when older blocks are written to. -/
theorem nb_kep {S : Nat → Prop} {w0 W V : World} {X : List Value} {zs ps : List Int} (h : NB w0 W X zs ps) (k : Kk.Kep S W V) (hS : ∀ i, S i → i < w0.heap.size) : BV V X zs ps := by
  obtain ⟨⟨v, e, hf⟩, hbv⟩ := h
  have h2 := Kk.Kep.owns k (fun i hi hs => by have h1 := (hf.1.lt i hi).1; have h3 := hS i hs; omega) hf.1
  obtain ⟨A, c, rfl, hsu⟩ := su_of_own h2
  injection e with e
  obtain rfl : X = bkC (.slice A zs.length c) ps := by simpa using e
  exact ⟨A, c, rfl, hsu, hbv.good⟩

set_option maxRecDepth 20000 in
set_option maxHeartbeats 16000000 in
theorem bytes_ (A : Option Addr) (n c : Nat) (zs : List Int) (p0 p1 p2 p3 : Int) (D : Option Addr) (nd cd : Nat) (raw : List Int) (w : World) (hi : SU w A n c zs) (hn : n ≤ 9223372036854775807) (hz : Words zs) (hp : Words [p0, p1, p2, p3])
    (hr : Kk.Sl w D nd cd raw) (hrb : ∀ z ∈ raw, 0 ≤ z ∧ z ≤ 255) (hnd : nd ≤ 9223372036854775807) :
    Calls Try.prog 4 #[.agg #[.slice A n c, .int .u64 p0, .int .u64 p1, .int .u64 p2, .int .u64 p3], .slice D nd cd] w fun e w' => e = .returned (.bool true) ∧ Kk.Bel w w' := by
  have uB := Try.underlying26
  have uF := Try.underlying49
  obtain ⟨ps, hps⟩ : ∃ ps, [p0, p1, p2, p3] = ps := ⟨_, rfl⟩
  obtain ⟨Y, hY⟩ : ∃ Y, Y = bkC (.slice A n c) ps := ⟨_, rfl⟩
  have hYA : (#[.slice A n c, .int .u64 p0, .int .u64 p1, .int .u64 p2, .int .u64 p3] : Array Value) = Y.toArray := by rw [hY, ← hps]; rfl
  rw [hYA]
  rw [hps] at hp
  obtain ⟨W0, hW0⟩ : ∃ W0, w.alloc (.cells Y.toArray 26) = W0 := ⟨_, rfl⟩
  have B0 := Lib.hid (show Kk.Bel w W0 by rw [← hW0]; exact (Kk.Bel.refl w).alloc _)
  have r0 : W0.rangeAt w.heap.size 0 Y := by rw [← hW0]; exact rngB (Kk.Blk.new w _ 26)
  obtain ⟨p, hp0⟩ : ∃ p, w.heap.size = p := ⟨_, rfl⟩
  rw [hp0] at r0
  have R0 := Lib.hid r0
  have c0 : W0.cell? ⟨p, 0, none⟩ = some (.slice A n c) := by rw [hY] at r0; exact bk_slice r0
  have HI := Lib.hid (hi.bel B0.out)
  have HR := Lib.hid (hr.bel B0.out)
  have HRB := Lib.hid (Cd.bytes_of hrb)
  have HP := Lib.hid hp0
  have HW0 := Lib.hid hW0
  have hlz := hi.len
  have HGD := Lib.hid (show n ≤ 1000000 → Good zs ps from fun h => ⟨hz, hp, by rw [← hps]; rfl, by omega⟩)
  have iY := Lib.hid (show (Try.prog.info? 26).map (·.size) = some Y.length by rw [hY, ← hps]; exact info_bank)
  have CB := Lib.hid (fun (V : World) (hb : Kk.Bel W0 V) (hn : n ≤ 1000000000) => (show Calls Try.prog 10 #[.agg Y.toArray] V fun e w' => ∃ U, e = .returned U ∧ FB V w' U zs ps by rw [← hYA, ← hps]; exact copyBank A n c zs p0 p1 p2 p3 V (HI.out.bel hb) hn))
  have HBV := Lib.hid (show Good zs ps → ∀ V, Kk.Bel W0 V → BV V Y zs ps from fun hg V hb => ⟨A, c, by rw [hlz]; exact hY, by rw [hlz]; exact HI.out.bel hb, hg⟩)
  have EF := Lib.hid eql_fault
  clear hi hr hrb hz hp hp0 hW0 r0 hY hYA hlz hps
  go_enter Try.func4, Try.ntmps4
  go_upto_region 1 with fail
  rw [HW0.out, HP.out]
  by_cases h70 : 70 < n
  · have h70' : (70 : Int) < n := by omega
    go_wp2_with fail
    refine (awake W0).mono ?_
    rintro e w1 ⟨rfl, k1⟩
    have K1 := Lib.hid (B0.out.trans k1)
    clear k1
    go_wp2
    go_ret
    exact ⟨rfl, K1.out⟩
  have h70' : ¬ (70 : Int) < n := by omega
  by_cases h80 : 800 < nd
  · have h80' : (800 : Int) < nd := by omega
    go_wp2_with fail
    refine (awake W0).mono ?_
    rintro e w1 ⟨rfl, k1⟩
    have K1 := Lib.hid (B0.out.trans k1)
    clear k1
    go_wp2
    go_ret
    exact ⟨rfl, K1.out⟩
  have h80' : ¬ (800 : Int) < nd := by omega
  have HG := Lib.hid (HGD.out (by omega))
  have CB := Lib.hid (CB.out W0 (Kk.Bel.refl _) (by omega))
  clear HGD
  go_wp2_with ((with_reducible refine wpList_load_g ?_ 26 (.tmp 2) ?_ p 0 ?_ Y _ R0.out uB ?_ iY.out ?_); rfl; rfl; rfl; rfl)
  refine CB.out.mono ?_
  rintro e w1 ⟨U1, rfl, hfb⟩
  obtain ⟨Y1, rfl, hnb⟩ := hfb.nb HG.out
  have NB1 := Lib.hid hnb
  have K1 := Lib.hid (show Kk.Bel W0 w1 from hnb.bel)
  have CP := Lib.hid (Kk.copyBytes D nd cd raw w1 (HR.out.bel K1.out) (by omega))
  clear hfb hnb CB c0
  go_wp2_with fail
  refine CP.out.mono ?_
  rintro e w2 ⟨v2, rfl, hf⟩
  obtain ⟨A2, c2, rfl, hsl⟩ := (show Kk.Fresh w1 w2 v2 raw from hf).sl
  have OW := Lib.hid hf.1
  have K2 := Lib.hid (show Kk.Bel w1 w2 from hf.2)
  have SL2 := Lib.hid hsl
  have HRL := Lib.hid HR.out.len
  obtain ⟨m, hm⟩ : ∃ m, raw.length = m := ⟨_, rfl⟩
  have HM := Lib.hid (show m ≤ 800 by rw [← hm, HRL.out]; omega)
  have HML := Lib.hid hm
  rw [hm] at OW SL2
  rw [hm]
  have N2 := Lib.hid (NB.then_ NB1.out K2.out)
  have PT := Lib.hid (put_there w2 Y1 NB1.out.2.len)
  have PI := Lib.hid NB1.out.infoA
  have PO := Lib.hid NB1.out.one
  have HLT2 := Lib.hid (show ∀ k, (Value.slice A2 m c2).ownBlock = some k → w1.heap.size ≤ k ∧ k < w2.heap.size from fun k hk => OW.out.lt k hk)
  clear hf hsl CP hm
  go_upto_region 4 with ((with_reducible refine wpList_store_mid ?_ 26 (.tmp 5) (.tmp 27) ?_ (World.heap w2).size 0 Y1.toArray ?_ ?_ PT.out PI.out PO.out ?_); rfl; rfl; rfl; rfl)
  have VB := Lib.hid (put_var N2.out (Kk.Bel.refl _))
  have K3 := Lib.hid (put_bel w2 Y1)
  obtain ⟨b, hb⟩ : ∃ q, (World.heap w2).size = q := ⟨_, rfl⟩
  obtain ⟨w3, hw⟩ : ∃ v, (World.alloc w2 (.cells ZB 26)).setCells (World.heap w2).size 0 Y1 = v := ⟨_, rfl⟩
  rw [hw]
  rw [hw] at VB K3
  rw [hb] at VB ⊢
  clear hw hb PT PI PO N2
  have KW := Lib.hid (show Kk.Bel W0 w3 from K1.out.trans (K2.out.trans K3.out))
  obtain ⟨q, hq⟩ : ∃ q, chk zs ps = q := ⟨_, rfl⟩
  have CV := Lib.hid (bytesV Y1 zs ps w3 VB.out.bv)
  rw [hq] at CV
  go_wp2_with ((with_reducible refine wpList_load_g ?_ 26 (.tmp 5) ?_ b 0 ?_ Y1 _ (Var.rng VB.out) uB ?_ (NB.info VB.out.nb) ?_); rfl; rfl; rfl; rfl)
  refine CV.out.mono ?_
  rintro e w4 ⟨v4, rfl, hf⟩
  obtain ⟨A4, c4, rfl, hsl4⟩ := (show Kk.Fresh w3 w4 v4 (bytesB zs ps) from hf).sl
  have K4 := Lib.hid (show Kk.Bel w3 w4 from hf.2)
  have SL4 := Lib.hid hsl4
  have VB := Lib.hid (VB.out.bel K4.out)
  have KW := Lib.hid (KW.out.trans K4.out)
  have R4 := Lib.hid (rng_bel R0.out KW.out)
  have CR := Lib.hid (bytesR Y zs ps w4 (HBV.out HG.out w4 KW.out))
  rw [hq] at CR
  clear hf hsl4 CV
  go_wp2_with ((with_reducible refine wpList_load_g ?_ 26 (.tmp 2) ?_ p 0 ?_ Y _ R4.out uB ?_ iY.out ?_); rfl; rfl; rfl; rfl)
  refine CR.out.mono ?_
  rintro e w5 ⟨v5, rfl, hf⟩
  obtain ⟨A5, c5, rfl, hsl5⟩ := (show Kk.Fresh w4 w5 v5 (bytesB zs ps) from hf).sl
  have K5 := Lib.hid (show Kk.Bel w4 w5 from hf.2)
  have VB := Lib.hid (VB.out.bel K5.out)
  have KW := Lib.hid (KW.out.trans K5.out)
  have R4 := Lib.hid (rng_bel R4.out K5.out)
  have CM := Lib.hid (Kk.same A4 A5 (bytesB zs ps).length c4 (bytesB zs ps).length c5 (bytesB zs ps) w5 (SL4.out.ints.bel K5.out) hsl5.ints)
  have CS := Lib.hid (sameBank Y1 Y zs ps zs ps w5 VB.out.bv (HBV.out HG.out w5 KW.out))
  rw [show decide (zs = zs ∧ ps = ps) = true by simp] at CS
  obtain ⟨lb, hlb⟩ : ∃ l, (bytesB zs ps).length = l := ⟨_, rfl⟩
  rw [hlb] at CM
  rw [hlb]
  clear hf hsl5 CR hlb hq
  go_wp2_with fail
  refine CM.out.mono ?_
  rintro e w5' ⟨rfl, hk⟩
  subst hk
  go_wp2_with (first | ((with_reducible refine wpList_load_g ?_ 26 (.tmp 5) ?_ b 0 ?_ Y1 _ (Var.rng VB.out) uB ?_ (NB.info VB.out.nb) ?_); rfl; rfl; rfl; rfl) | ((with_reducible refine wpList_load_g ?_ 26 (.tmp 2) ?_ p 0 ?_ Y _ R4.out uB ?_ iY.out ?_); rfl; rfl; rfl; rfl))
  refine CS.out.mono ?_
  rintro e w6 ⟨rfl, k6⟩
  have K6 := Lib.hid k6
  have KW := Lib.hid (KW.out.trans K6.out)
  have KA := Lib.hid (show Kk.Bel w2 w6 from K3.out.trans (K4.out.trans (K5.out.trans K6.out)))
  clear k6 CM CS VB R4 SL4 K3 K4 K5 K6 R0
  obtain ⟨n2, l2, ke, fe, hrun, hown⟩ := run_some raw HRB.out
  have CR := Lib.hid (readV A2 m c2 raw w6 (show Kk.Sl w6 A2 m c2 raw from SL2.out.bel KA.out) (by have := HM.out; omega) HRB.out n2 l2 ke fe hrun)
  have CQ := Lib.hid (fun V (hb : Kk.Bel W0 V) => readR D nd cd raw V (HR.out.bel hb) (by omega) HRB.out n2 l2 ke fe hrun (fun h => (hown h).1))
  obtain ⟨e1, he1⟩ : ∃ x, (rdF raw n2 l2 ke fe).1 = x := ⟨_, rfl⟩
  obtain ⟨e2, he2⟩ : ∃ x, (rdF raw n2 l2 ke fe).2 = x := ⟨_, rfl⟩
  obtain ⟨dz, hdz⟩ : ∃ x, rdZ raw n2 l2 ke fe = x := ⟨_, rfl⟩
  obtain ⟨dp, hdp⟩ : ∃ x, rdP raw n2 l2 ke fe = x := ⟨_, rfl⟩
  rw [he1, he2, hdz, hdp] at CR CQ
  clear hrun hown he1 he2 hdz hdp
  have HL6 := Lib.hid (show W0.heap.size ≤ w6.heap.size ∧ w2.heap.size ≤ w6.heap.size from ⟨Below.size KW.out, Below.size KA.out⟩)
  have HWW := Lib.hid (show w.heap.size ≤ W0.heap.size from Below.size B0.out)
  go_wp2_with fail
  refine CR.out.mono ?_
  rintro e w7 ⟨X, rfl, hnb⟩
  have NX := Lib.hid (show NB w6 w7 X dz dp from hnb)
  have HL_a := Lib.hid hnb.2.len
  have HI_a := Lib.hid hnb.infoA
  have HO_a := Lib.hid hnb.one
  have HLE_a := Lib.hid (show w.heap.size ≤ w7.heap.size from by have h1 := Below.size hnb.bel; have h2 := HL6.out; have h3 := HWW.out; omega)
  have HQ_a := Lib.hid (show w6.heap.size ≤ w7.heap.size from Below.size hnb.bel)
  clear hnb CR
  obtain ⟨V9, hV0, ht1, ht2, hk9, hb9, hf9⟩ := put2 w7 X HL_a.out e1 e2
  have T1 := Lib.hid ht1
  have T2 := Lib.hid ht2
  have KN_a := Lib.hid hk9
  have QB_a := Lib.hid hb9
  have QF_a := Lib.hid hf9
  have I4 := Lib.hid (show (Try.prog.info? 49).map (·.size) = some (#[.int .i64 e1, .int .i64 e2] : Array Value).size from info_flt)
  have O4 := Lib.hid (flt_one e1 e2)
  have hs9 : (World.heap (World.alloc w7 (.cells #[.slice none 0 0, .int .u64 0, .int .u64 0, .int .u64 0, .int .u64 0] 26))).size = (World.heap w7).size + 1 := World.size_alloc _ _
  have hV9 : World.alloc (World.alloc w7 (.cells #[.slice none 0 0, .int .u64 0, .int .u64 0, .int .u64 0, .int .u64 0] 26)) (.cells #[.int .i64 0, .int .i64 0] 49) = V9 := hV0
  clear hV0
  clear ht1 ht2 hk9 hb9 hf9
  go_upto_region 9 with (first | ((with_reducible refine wpList_store_mid ?_ 26 (.tmp 11) (.tmp 58) ?_ (World.heap w7).size 0 X.toArray ?_ ?_ T1.out HI_a.out HO_a.out ?_); rfl; rfl; rfl; rfl) | ((with_reducible refine wpList_store_mid ?_ 49 (.tmp 12) (.tmp 59) ?_ ((World.heap w7).size + 1) 0 #[.int .i64 e1, .int .i64 e2] ?_ ?_ T2.out I4.out O4.out ?_); rfl; rfl; rfl; rfl))
  clear T1 T2 hs9 hV9 I4 O4
  obtain ⟨wa, hw9⟩ : ∃ v, (World.setCells V9 (World.heap w7).size 0 X).setCells ((World.heap w7).size + 1) 0 [.int .i64 e1, .int .i64 e2] = v := ⟨_, rfl⟩
  rw [hw9] at KN_a QB_a QF_a ⊢
  obtain ⟨q_a, hq9⟩ : ∃ q, (World.heap w7).size = q := ⟨_, rfl⟩
  have HSQ_a := Lib.hid (show w6.heap.size ≤ q_a by rw [← hq9]; exact HQ_a.out)
  rw [hq9] at QB_a QF_a ⊢
  clear hw9 hq9 V9
  have NX := Lib.hid (NB.then_ NX.out KN_a.out)
  have KW := Lib.hid (KW.out.trans (show Kk.Bel w6 wa from NX.out.bel))
  have HLA := Lib.hid (show w6.heap.size ≤ wa.heap.size from Below.size NX.out.bel)
  go_wp2_with fail
  refine (CQ.out wa KW.out).mono ?_
  rintro e w8 ⟨X7, rfl, hnb⟩
  have NZ := Lib.hid (show NB wa w8 X7 dz dp from hnb)
  have KN := Lib.hid (show Kk.Bel wa w8 from hnb.bel)
  have HL_c := Lib.hid hnb.2.len
  have HI_c := Lib.hid hnb.infoA
  have HO_c := Lib.hid hnb.one
  have HLE_c := Lib.hid (show w.heap.size ≤ w8.heap.size from by have h1 := Below.size hnb.bel; have h2 := Below.size NX.out.bel; have h3 := HL6.out; have h4 := HWW.out; omega)
  have HQ_c := Lib.hid (show w6.heap.size ≤ w8.heap.size from by have h1 := Below.size hnb.bel; have h2 := Below.size NX.out.bel; omega)
  clear hnb CQ
  obtain ⟨V9, hV0, ht1, ht2, hk9, hb9, hf9⟩ := put2 w8 X7 HL_c.out e1 e2
  have T1 := Lib.hid ht1
  have T2 := Lib.hid ht2
  have KN_c := Lib.hid hk9
  have QB_c := Lib.hid hb9
  have QF_c := Lib.hid hf9
  have I4 := Lib.hid (show (Try.prog.info? 49).map (·.size) = some (#[.int .i64 e1, .int .i64 e2] : Array Value).size from info_flt)
  have O4 := Lib.hid (flt_one e1 e2)
  have hs9 : (World.heap (World.alloc w8 (.cells #[.slice none 0 0, .int .u64 0, .int .u64 0, .int .u64 0, .int .u64 0] 26))).size = (World.heap w8).size + 1 := World.size_alloc _ _
  have hV9 : World.alloc (World.alloc w8 (.cells #[.slice none 0 0, .int .u64 0, .int .u64 0, .int .u64 0, .int .u64 0] 26)) (.cells #[.int .i64 0, .int .i64 0] 49) = V9 := hV0
  clear hV0
  clear ht1 ht2 hk9 hb9 hf9
  go_upto_region 10 with (first | ((with_reducible refine wpList_store_mid ?_ 26 (.tmp 13) (.tmp 63) ?_ (World.heap w8).size 0 X7.toArray ?_ ?_ T1.out HI_c.out HO_c.out ?_); rfl; rfl; rfl; rfl) | ((with_reducible refine wpList_store_mid ?_ 49 (.tmp 14) (.tmp 64) ?_ ((World.heap w8).size + 1) 0 #[.int .i64 e1, .int .i64 e2] ?_ ?_ T2.out I4.out O4.out ?_); rfl; rfl; rfl; rfl))
  clear T1 T2 hs9 hV9 I4 O4
  obtain ⟨wc, hw9⟩ : ∃ v, (World.setCells V9 (World.heap w8).size 0 X7).setCells ((World.heap w8).size + 1) 0 [.int .i64 e1, .int .i64 e2] = v := ⟨_, rfl⟩
  rw [hw9] at KN_c QB_c QF_c ⊢
  obtain ⟨q_c, hq9⟩ : ∃ q, (World.heap w8).size = q := ⟨_, rfl⟩
  have HSQ_c := Lib.hid (show w6.heap.size ≤ q_c by rw [← hq9]; exact HQ_c.out)
  rw [hq9] at QB_c QF_c ⊢
  clear hw9 hq9 V9
  have KC := Lib.hid (show Kk.Bel wa wc from KN.out.trans KN_c.out)
  have NX := Lib.hid (NB.then_ NX.out KC.out)
  have NZ := Lib.hid (NB.then_ NZ.out KN_c.out)
  have QB_a := Lib.hid (QB_a.out.bel KC.out)
  have QF_a := Lib.hid (QF_a.out.bel KC.out)
  have KW := Lib.hid (KW.out.trans KC.out)
  have KX := Lib.hid (show Kk.Bel w2 wc from KA.out.trans NX.out.bel)
  have CM := Lib.hid (Kk.same A2 D m c2 nd cd raw wc (SL2.out.ints.bel KX.out) (HR.out.ints.bel KW.out))
  have CO := Lib.hid (Kk.over_any w1.heap.size m (.slice A2 m c2) raw wc (by have := HM.out; omega) (Kk.owns_bel OW.out KX.out))
  go_wp2_with fail
  refine CM.out.mono ?_
  rintro e wc' ⟨rfl, hk⟩
  subst hk
  go_wp2_with fail
  refine CO.out.mono ?_
  rintro e w9 ⟨rfl, hkep⟩
  have HLT := Lib.hid (show ∀ k, (Value.slice A2 m c2).ownBlock = some k → W0.heap.size ≤ k ∧ k < w6.heap.size from fun k hk => by have h1 := HLT2.out k hk; have h2 := HL6.out; have h3 := Below.size K1.out; omega)
  have KP := Lib.hid hkep
  have BX := Lib.hid (nb_kep NX.out KP.out (fun i hi => (HLT.out i hi).2))
  have BZ := Lib.hid (nb_kep NZ.out KP.out (fun i hi => by have h1 := (HLT.out i hi).2; have h2 := Below.size NX.out.bel; have h3 := HLA.out; omega))
  have QB_a := Lib.hid (QB_a.out.kep KP.out (fun e => by have h1 := HLT.out _ e; have h2 := HSQ_a.out; omega))
  have QF_a := Lib.hid (QF_a.out.kep KP.out (fun e => by have h1 := HLT.out _ e; have h2 := HSQ_a.out; omega))
  have QB_c := Lib.hid (QB_c.out.kep KP.out (fun e => by have h1 := HLT.out _ e; have h2 := HSQ_c.out; omega))
  have QF_c := Lib.hid (QF_c.out.kep KP.out (fun e => by have h1 := HLT.out _ e; have h2 := HSQ_c.out; omega))
  have K9 := Lib.hid (show Kk.Bel w w9 from (Kk.Kep.bel KW.out KP.out (fun k hk => (HLT.out k hk).1)) |> B0.out.trans)
  have CS := Lib.hid (sameBank X X7 dz dp dz dp w9 BX.out BZ.out)
  rw [show decide (dz = dz ∧ dp = dp) = true by simp] at CS
  have RA := Lib.hid (rngB QB_a.out)
  have RC := Lib.hid (rngB QB_c.out)
  have IA := Lib.hid (show (Try.prog.info? 26).map (·.size) = some X.length by rw [HL_a.out]; exact info_bank)
  have IC := Lib.hid (show (Try.prog.info? 26).map (·.size) = some X7.length by rw [HL_c.out]; exact info_bank)
  clear hkep CM CO KP NX NZ
  go_wp2_with (first | ((with_reducible refine wpList_load_g ?_ 26 (.tmp 11) ?_ q_a 0 ?_ X _ RA.out uB ?_ IA.out ?_); rfl; rfl; rfl; rfl) | ((with_reducible refine wpList_load_g ?_ 26 (.tmp 13) ?_ q_c 0 ?_ X7 _ RC.out uB ?_ IC.out ?_); rfl; rfl; rfl; rfl))
  refine CS.out.mono ?_
  rintro e wd ⟨rfl, kd⟩
  have KD := Lib.hid kd
  have RFA := Lib.hid (rngB (QF_a.out.bel KD.out))
  have RFC := Lib.hid (rngB (QF_c.out.bel KD.out))
  have iF := Lib.hid (show (Try.prog.info? 49).map (·.size) = some ([.int .i64 e1, .int .i64 e2] : List Value).length from info_flt)
  have hef := fun W => EF.out e1 e2 e1 e2 W
  clear kd CS
  go_wp2_with (first | ((with_reducible refine wpList_load_g ?_ 49 (.tmp 12) ?_ (q_a + 1) 0 ?_ _ _ RFA.out uF ?_ iF.out ?_); rfl; rfl; rfl; rfl) | ((with_reducible refine wpList_load_g ?_ 49 (.tmp 14) ?_ (q_c + 1) 0 ?_ _ _ RFC.out uF ?_ iF.out ?_); rfl; rfl; rfl; rfl))
  refine (awake wd).mono ?_
  rintro e we ⟨rfl, ke2⟩
  have KE := Lib.hid (K9.out.trans (KD.out.trans ke2))
  clear ke2
  go_wp2
  go_ret
  exact ⟨rfl, KE.out⟩
end Bk
end Go.Proofs.Ythdcgkikhindiaa
