/-
  BankMoves: what each move makes of any bank, beside the document. Conditions: the amounts are words; the moves lie in memory.
-/
import Derived.Test.YtgdaojbflokmoaaGBm4
import Derived.Test.YtgdaojbflokmoaaBG
namespace Go.Proofs.Ytgdaojbflokmoaa
open Go.RowKit Go.Shelf
set_option linter.unusedVariables false
namespace Bk
open Pm

theorem infoL {Y : List Value} (h : Y.length = 5) : (Try.prog.info? 26).map (·.size) = some Y.length := by rw [h]; exact info_bank
theorem infoA5 {Y : List Value} (h : Y.length = 5) : (Try.prog.info? 26).map (·.size) = some Y.toArray.size := by rw [List.size_toArray, h]; exact info_bank
theorem bv_cell {W V : World} {Y : List Value} {zs ps : List Int} {p : Nat} (h : BV W Y zs ps) (hb : Kk.Blk V p Y.toArray 26) : ∃ A c, V.cell? ⟨p, 0, none⟩ = some (.slice A zs.length c) ∧ SU W A zs.length c zs ∧ Y = bkC (.slice A zs.length c) ps := by
  obtain ⟨A, c, rfl, hs, _⟩ := h
  exact ⟨A, c, hb.cell 0 rfl, hs, rfl⟩
theorem sameBankT (Y X : List Value) (zs ps : List Int) (w : World) (hY : BV w Y zs ps) (hX : BV w X zs ps) :
    Calls Try.prog 10 #[.agg Y.toArray, .agg X.toArray] w fun e w' => e = .returned (.bool true) ∧ Kk.Bel w w' := by
  have h := sameBank Y X zs ps zs ps w hY hX
  rw [decide_eq_true (show zs = zs ∧ ps = ps from ⟨rfl, rfl⟩)] at h
  exact h
theorem new_bank (W : World) (Y : List Value) (hY : Y.length = 5) : Kk.Blk ((W.alloc (.cells ZB 26)).setCells W.heap.size 0 Y) W.heap.size Y.toArray 26 := Pm.bwhole (Kk.Blk.new W _ _) (by rw [hY]; rfl)

set_option maxRecDepth 20000 in
set_option maxHeartbeats 2000000 in
theorem movesLaw (A : Option Addr) (n c : Nat) (zs0 : List Int) (q0 q1 q2 q3 acc : Int) (B : Option Addr) (nb cb : Nat) (w : World) (hi : SU w A n c zs0) (hn : n ≤ 9223372036854775807) (hz : Words zs0) (hp : Words [q0, q1, q2, q3]) (acc0 : -9223372036854775808 ≤ acc) (acc1 : acc ≤ 9223372036854775807) (hacts : Acts w B nb) :
    Calls Try.prog 3 #[.agg #[.slice A n c, .int .u64 q0, .int .u64 q1, .int .u64 q2, .int .u64 q3], .int .i64 acc, .slice B nb cb] w fun e w' => e = .returned (.bool true) ∧ Kk.Bel w w' := by
  have uB := Try.underlying26
  obtain ⟨Y0, hY0⟩ : ∃ Y0, Y0 = bkC (.slice A n c) [q0, q1, q2, q3] := ⟨_, rfl⟩
  have L0 := Lib.hid (show Y0.length = 5 by rw [hY0]; rfl)
  rw [show #[.slice A n c, .int .u64 q0, .int .u64 q1, .int .u64 q2, .int .u64 q3] = Y0.toArray by rw [hY0]; rfl]
  have HY0 := Lib.hid hY0
  have HI := Lib.hid hi
  have HZ := Lib.hid hz
  have HPP := Lib.hid hp
  have HAC := Lib.hid hacts
  clear hi hz hp hacts hY0 acc0 acc1
  obtain ⟨W0, hW0⟩ : ∃ W0, w.alloc (.cells Y0.toArray 26) = W0 := ⟨_, rfl⟩
  obtain ⟨pb, hpb⟩ : ∃ p, w.heap.size = p := ⟨_, rfl⟩
  have B0 := Lib.hid (show Kk.Bel w W0 by rw [← hW0]; exact (Kk.Bel.refl w).alloc _)
  have Pb := Lib.hid (show Kk.Blk W0 pb Y0.toArray 26 by rw [← hW0, ← hpb]; exact Kk.Blk.new w _ _)
  have HW0 := Lib.hid hW0
  have HP := Lib.hid hpb
  have cb0 : W0.cell? ⟨pb, 0, none⟩ = some (.slice A n c) := Pb.out.cell 0 (by rw [HY0.out]; rfl)
  clear hW0 hpb
  go_enter Try.func3, Try.ntmps3
  go_upto_region 1 with fail
  rw [HW0.out, HP.out]
  by_cases h70 : 70 < n
  · have h70' : (70 : Int) < (n : Int) := by omega
    go_wp2_with fail
    refine (awake _).mono ?_
    rintro e w1 ⟨rfl, kb⟩
    have K := Lib.hid (B0.out.trans kb)
    clear kb
    go_wp2_with fail
    go_ret
    exact ⟨rfl, K.out⟩
  by_cases h30 : 30 < nb
  · have h70' : (n : Int) ≤ 70 := by omega
    have h30' : (30 : Int) < (nb : Int) := by omega
    go_wp2_with fail
    refine (awake _).mono ?_
    rintro e w1 ⟨rfl, kb⟩
    have K := Lib.hid (B0.out.trans kb)
    clear kb
    go_wp2_with fail
    go_ret
    exact ⟨rfl, K.out⟩
  have h70' : (n : Int) ≤ 70 := by omega
  have h30' : (nb : Int) ≤ 30 := by omega
  have V0 := Lib.hid (show ∀ V, Kk.Bel w V → BV V Y0 zs0 [q0, q1, q2, q3] from fun V h => ⟨A, c, by rw [HI.out.len]; exact HY0.out, by have := HI.out.bel h; have e := HI.out.len; rw [e]; exact this, HZ.out, HPP.out, rfl, by rw [HI.out.len]; omega⟩)
  have RB := Lib.hid (rngB Pb.out)
  go_wp2_with ((with_reducible refine wpList_load_g ?_ 26 (.tmp 3) ?_ pb 0 ?_ Y0 _ RB.out uB ?_ (infoL L0.out) ?_); rfl; rfl; rfl; rfl)
  refine (copyBankV Y0 zs0 [q0, q1, q2, q3] W0 (V0.out _ B0.out)).mono ?_
  rintro e w2 ⟨V, rfl, hfb⟩
  obtain ⟨Yi, rfl, hnb⟩ := hfb.nb (V0.out _ B0.out).good
  have NI := Lib.hid (NB.after B0.out hnb)
  have LI := Lib.hid hnb.2.len
  have K2 := Lib.hid (B0.out.trans hnb.bel)
  have Pb2 := Lib.hid (Pb.out.bel hnb.bel)
  have PT := Lib.hid (put_there w2 Yi LI.out)
  have PI := Lib.hid (infoA5 LI.out)
  have PO := Lib.hid hnb.2.one
  clear hfb hnb cb0
  go_upto_region 4 with ((with_reducible refine wpList_store_mid ?_ 26 (.tmp 7) (.tmp 36) ?_ (World.heap w2).size 0 Yi.toArray ?_ ?_ PT.out PI.out PO.out ?_); rfl; rfl; rfl; rfl)
  have NI := Lib.hid (NI.out.then_ (put_bel w2 Yi))
  have K3 := Lib.hid (K2.out.trans (put_bel w2 Yi))
  have Pb3 := Lib.hid (Pb2.out.bel (put_bel w2 Yi))
  have Pi := Lib.hid (new_bank w2 Yi LI.out)
  have O1 := Lib.hid Pb2.out.lt
  obtain ⟨pi, hpi⟩ : ∃ q, (World.heap w2).size = q := ⟨_, rfl⟩
  obtain ⟨w3, hw3⟩ : ∃ v, (World.alloc w2 (.cells ZB 26)).setCells (World.heap w2).size 0 Yi = v := ⟨_, rfl⟩
  rw [hw3] at NI K3 Pb3 Pi
  rw [hpi] at Pi O1
  rw [hw3, hpi]
  clear hw3 hpi PT PI PO Pb2 K2
  have NI0 := Lib.hid NI.out
  have KW3 := Lib.hid K3.out
  obtain ⟨Ai, ci, ci0, hsi, eYi⟩ := bv_cell NI.out.2 Pi.out
  have CN := Lib.hid (newV Ai _ ci zs0 w3 hsi (by rw [HI.out.len]; omega) HZ.out)
  clear hsi eYi
  go_wp2_with fail
  refine CN.out.mono ?_
  rintro e w4 ⟨Yx, rfl, hnx⟩
  have LX := Lib.hid hnx.2.len
  have NX := Lib.hid hnx
  have CNB := Lib.hid hnx.bel
  have PT := Lib.hid (put_there w4 Yx LX.out)
  have PI := Lib.hid (infoA5 LX.out)
  have PO := Lib.hid hnx.2.one
  clear hnx CN ci0
  go_upto_region 5 with ((with_reducible refine wpList_store_mid ?_ 26 (.tmp 8) (.tmp 41) ?_ (World.heap w4).size 0 Yx.toArray ?_ ?_ PT.out PI.out PO.out ?_); rfl; rfl; rfl; rfl)
  have D4 := Lib.hid (NX.out.bel.trans (put_bel w4 Yx))
  have NI := Lib.hid (NI.out.then_ D4.out)
  have K4 := Lib.hid (K3.out.trans D4.out)
  have Pb4 := Lib.hid (Pb3.out.bel D4.out)
  have Pi4 := Lib.hid (Pi.out.bel D4.out)
  have NX := Lib.hid (NX.out.then_ (put_bel w4 Yx))
  have Px := Lib.hid (new_bank w4 Yx LX.out)
  have NX0 := Lib.hid NX.out
  have O2 := Lib.hid (show pi < (World.heap w4).size from Nat.lt_of_lt_of_le Pi.out.lt (Below.size CNB.out))
  have HOi := Lib.hid (show ∀ g, own Yi = some g → g < (World.heap w3).size from fun g hg => (NI0.out.own_lt g hg).2)
  have HOx := Lib.hid (show ∀ g, own Yx = some g → (World.heap w3).size ≤ g from fun g hg => (NX0.out.own_lt g hg).1)
  obtain ⟨px, hpx⟩ : ∃ q, (World.heap w4).size = q := ⟨_, rfl⟩
  obtain ⟨w5, hw5⟩ : ∃ v, (World.alloc w4 (.cells ZB 26)).setCells (World.heap w4).size 0 Yx = v := ⟨_, rfl⟩
  rw [hw5] at NI K4 Pb4 Pi4 NX Px
  rw [hpx] at Px O2
  rw [hw5, hpx]
  clear hw5 hpx PT PI PO Pb3 K3 Pi D4 CNB NI0 NX0
  have cb0 : w5.cell? ⟨pb, 0, none⟩ = some (.slice A n c) := Pb4.out.cell 0 (by rw [HY0.out]; rfl)
  have CN := Lib.hid (newR A n c zs0 w5 (HI.out.bel K4.out) (by omega) HZ.out)
  go_wp2_with fail
  refine CN.out.mono ?_
  rintro e w6 ⟨Yy, rfl, hny⟩
  have LY := Lib.hid hny.2.len
  have NY := Lib.hid hny
  have NXb := Lib.hid hny.bel
  have PT := Lib.hid (put_there w6 Yy LY.out)
  have PI := Lib.hid (infoA5 LY.out)
  have PO := Lib.hid hny.2.one
  clear hny CN cb0
  go_upto_region 6 with ((with_reducible refine wpList_store_mid ?_ 26 (.tmp 10) (.tmp 47) ?_ (World.heap w6).size 0 Yy.toArray ?_ ?_ PT.out PI.out PO.out ?_); rfl; rfl; rfl; rfl)
  have D6 := Lib.hid (NXb.out.trans (put_bel w6 Yy))
  have NI := Lib.hid (NI.out.then_ D6.out)
  have NX := Lib.hid (NX.out.then_ D6.out)
  have NY := Lib.hid (NY.out.then_ (put_bel w6 Yy))
  have O3 := Lib.hid (show px < (World.heap w6).size from Nat.lt_of_lt_of_le Px.out.lt (Below.size NXb.out))
  have BS := Lib.hid (show Bs w _ pb pi px (World.heap w6).size Y0 Yi Yx Yy from ⟨K4.out.trans D6.out, Pb4.out.bel D6.out, Pi4.out.bel D6.out, Px.out.bel D6.out, new_bank w6 Yy LY.out, L0.out, LI.out, LX.out, LY.out, by rw [HP.out]; exact Nat.le_refl _, O1.out, O2.out, O3.out⟩)
  obtain ⟨py, hpy⟩ : ∃ q, (World.heap w6).size = q := ⟨_, rfl⟩
  obtain ⟨w7, hw7⟩ : ∃ v, (World.alloc w6 (.cells ZB 26)).setCells (World.heap w6).size 0 Yy = v := ⟨_, rfl⟩
  rw [hw7] at NI NX NY
  rw [hw7, hpy] at BS
  rw [hw7, hpy]
  clear hw7 hpy PT PI PO Pb4 K4 Pi4 D6 NXb Px O1 O2 O3
  have SB := Lib.hid (sameBankT Yx Yy _ _ w7 NX.out.2 NY.out.2)
  obtain ⟨e0, he0⟩ : ∃ e, chk zs0 [0, 0, 0, 0] = e := ⟨_, rfl⟩
  rw [he0] at NX NY ⊢
  have RX := Lib.hid (rngB BS.out.bx)
  have RY := Lib.hid (rngB BS.out.by_)
  have K3 := Lib.hid (show Kk.Bel w w3 from KW3.out)
  clear he0
  go_wp2_with (first | ((with_reducible refine wpList_load_g ?_ 26 (.tmp 8) ?_ px 0 ?_ Yx _ RX.out uB ?_ (infoL LX.out) ?_); rfl; rfl; rfl; rfl) | ((with_reducible refine wpList_load_g ?_ 26 (.tmp 10) ?_ py 0 ?_ Yy _ RY.out uB ?_ (infoL LY.out) ?_); rfl; rfl; rfl; rfl))
  refine SB.out.mono ?_
  rintro e w8 ⟨rfl, kb⟩
  have BS := Lib.hid (BS.out.up kb)
  have NI := Lib.hid (NI.out.then_ kb)
  have NX := Lib.hid (NB.after K3.out (NX.out.then_ kb))
  obtain ⟨vx, eX, ox, fx⟩ := nb_row NX.out
  have cx0 : w8.cell? ⟨px, 0, none⟩ = some vx := BS.out.bx.cell 0 (by rw [eX]; rfl)
  have OV := Lib.hid (over_any _ _ vx _ w8 (by have := NX.out.2.good.2.2.2; omega) fx.1)
  have OX := Lib.hid ox
  clear kb RX RY SB NY fx eX ox
  go_wp2_with fail
  refine OV.out.mono ?_
  rintro e w9 ⟨rfl, kk⟩
  have hne : ∀ g, vx.ownBlock = some g → own Yx = some g := fun g hg => by rw [OX.out]; exact hg
  have HD : Hid (Hdr w w9 pb pi px py Y0 Yi Yx Yy zs0 [q0, q1, q2, q3]) := by
    have hS : ∀ i, vx.ownBlock = some i → w.heap.size ≤ i := fun i hi => (NX.out.own_lt i (hne i hi)).1
    have b9 := BS.out.kep kk hS (fun e => NX.out.not_bank BS.out.bb _ (hne _ e) rfl) (fun e => NX.out.not_bank BS.out.bi _ (hne _ e) rfl) (fun e => NX.out.not_bank BS.out.bx _ (hne _ e) rfl) (fun e => NX.out.not_bank BS.out.by_ _ (hne _ e) rfl)
    refine Lib.hid ⟨b9, NI.out.kept kk hS (fun g hg e => ?_), .inl ⟨b9.bel, V0.out⟩⟩
    have h1 := HOi.out g hg
    have h2 := HOx.out g (hne g e)
    omega
  clear kk hne cx0 OV OX BS NI NX HOi HOx K3 KW3
  go_wp2_with fail
  go_loopw [12] (fun u wr => ∃ (k : Nat) (Yb Yi Yx Yy : List Value) (zs ps : List Int), u = .int .i64 k ∧ k ≤ nb ∧ Hid (Hdr w wr pb pi px py Yb Yi Yx Yy zs ps)) (fun u _ => nb + 1 - (intOf u).toNat)
  case atStart => exact ⟨0, Y0, Yi, Yx, Yy, zs0, _, rfl, Nat.zero_le _, HD⟩
  case round =>
    obtain ⟨k, Yb, Yi, Yx, Yy, zs, ps, rfl, hk, hd⟩ := hrel
    obtain ⟨bs, ni, rb⟩ := hd.out
    have BS := Lib.hid bs
    have NI := Lib.hid ni
    have RK := Lib.hid rb
    have hki : (k : Int) ≤ (nb : Int) := by omega
    have RI := Lib.hid (rngB bs.bi)
    have RB := Lib.hid (rngB bs.bb)
    clear hd bs ni rb
    have S1 := Lib.hid (fun V (h : Kk.Bel wr V) => supplyV Yi zs ps V (NI.out.2.bel h))
    have S2 := Lib.hid (fun V (h : Kk.Bel wr V) => supplyR Yb zs ps V (RK.out.bv.bel h))
    have T1 := Lib.hid (fun V (h : Kk.Bel wr V) => totalV Yi zs ps V (NI.out.2.bel h))
    have T2 := Lib.hid (fun V (h : Kk.Bel wr V) => totalR Yb zs ps V (RK.out.bv.bel h))
    have H1 := Lib.hid (fun V (h : Kk.Bel wr V) => haveV acc Yi zs ps V (NI.out.2.bel h))
    have H2 := Lib.hid (fun V (h : Kk.Bel wr V) => haveR acc Yb zs ps V (RK.out.bv.bel h))
    have C1 := Lib.hid (fun V (h : Kk.Bel wr V) => checkV Yi zs ps V (NI.out.2.bel h))
    have C2 := Lib.hid (fun V (h : Kk.Bel wr V) => checkR Yb zs ps V (RK.out.bv.bel h))
    have SBB := Lib.hid (fun V (h : Kk.Bel wr V) => sameBankT Yi Yb zs ps V (NI.out.2.bel h) (RK.out.bv.bel h))
    obtain ⟨s1, hs1⟩ : ∃ s, okI (chk zs ps) (zs.sum + ps.sum) = s := ⟨_, rfl⟩
    obtain ⟨s2, hs2⟩ : ∃ s, okI (chk zs ps) zs.sum = s := ⟨_, rfl⟩
    obtain ⟨s3, hs3⟩ : ∃ s, okI (havE zs ps acc) (zs.getD acc.toNat 0) = s := ⟨_, rfl⟩
    obtain ⟨e1, he1⟩ : ∃ s, chk zs ps = s := ⟨_, rfl⟩
    obtain ⟨e2, he2⟩ : ∃ s, havE zs ps acc = s := ⟨_, rfl⟩
    rw [hs1, he1] at S1 S2
    rw [hs2, he1] at T1 T2
    rw [hs3, he2] at H1 H2
    rw [he1] at C1 C2
    clear hs1 hs2 hs3 he1 he2
    have D := Lib.hid (Kk.Bel.refl wr)
    have RIc := Lib.hid (rng_bel RI.out D.out)
    have RBc := Lib.hid (rng_bel RB.out D.out)
    go_wp2_with ((with_reducible refine wpList_load_g ?_ 26 (.tmp 7) ?_ pi 0 ?_ Yi _ RIc.out uB ?_ (infoL BS.out.li) ?_); rfl; rfl; rfl; rfl)
    refine (S1.out _ D.out).mono ?_
    rintro e v0 ⟨rfl, kb⟩
    have D := Lib.hid (D.out.trans kb)
    clear kb S1
    have RIc := Lib.hid (rng_bel RI.out D.out)
    have RBc := Lib.hid (rng_bel RB.out D.out)
    go_wp2_with ((with_reducible refine wpList_load_g ?_ 26 (.tmp 3) ?_ pb 0 ?_ Yb _ RBc.out uB ?_ (infoL BS.out.lb) ?_); rfl; rfl; rfl; rfl)
    refine (S2.out _ D.out).mono ?_
    rintro e v1 ⟨rfl, kb⟩
    have D := Lib.hid (D.out.trans kb)
    clear kb S2
    have RIc := Lib.hid (rng_bel RI.out D.out)
    have RBc := Lib.hid (rng_bel RB.out D.out)
    go_wp2_with ((with_reducible refine wpList_load_g ?_ 26 (.tmp 7) ?_ pi 0 ?_ Yi _ RIc.out uB ?_ (infoL BS.out.li) ?_); rfl; rfl; rfl; rfl)
    refine (T1.out _ D.out).mono ?_
    rintro e v2 ⟨rfl, kb⟩
    have D := Lib.hid (D.out.trans kb)
    clear kb T1
    have RIc := Lib.hid (rng_bel RI.out D.out)
    have RBc := Lib.hid (rng_bel RB.out D.out)
    go_wp2_with ((with_reducible refine wpList_load_g ?_ 26 (.tmp 3) ?_ pb 0 ?_ Yb _ RBc.out uB ?_ (infoL BS.out.lb) ?_); rfl; rfl; rfl; rfl)
    refine (T2.out _ D.out).mono ?_
    rintro e v3 ⟨rfl, kb⟩
    have D := Lib.hid (D.out.trans kb)
    clear kb T2
    have RIc := Lib.hid (rng_bel RI.out D.out)
    have RBc := Lib.hid (rng_bel RB.out D.out)
    go_wp2_with ((with_reducible refine wpList_load_g ?_ 26 (.tmp 7) ?_ pi 0 ?_ Yi _ RIc.out uB ?_ (infoL BS.out.li) ?_); rfl; rfl; rfl; rfl)
    refine (H1.out _ D.out).mono ?_
    rintro e v4 ⟨rfl, kb⟩
    have D := Lib.hid (D.out.trans kb)
    clear kb H1
    have RIc := Lib.hid (rng_bel RI.out D.out)
    have RBc := Lib.hid (rng_bel RB.out D.out)
    go_wp2_with ((with_reducible refine wpList_load_g ?_ 26 (.tmp 3) ?_ pb 0 ?_ Yb _ RBc.out uB ?_ (infoL BS.out.lb) ?_); rfl; rfl; rfl; rfl)
    refine (H2.out _ D.out).mono ?_
    rintro e v5 ⟨rfl, kb⟩
    have D := Lib.hid (D.out.trans kb)
    clear kb H2
    have RIc := Lib.hid (rng_bel RI.out D.out)
    have RBc := Lib.hid (rng_bel RB.out D.out)
    go_upto_region 18 with fail
    refine wp_region_held_drew (S := fun V => Kk.Bel wr V) (by kernel_rfl) (D.out.trans (Kk.Bel.refl _).drew) (fun hS0 => ?_)
    obtain ⟨w6, hw6⟩ : ∃ w6, v5.drew = w6 := ⟨_, rfl⟩
    rw [hw6] at hS0 ⊢
    clear hw6 D RIc RBc
    refine wpAnyH_take (i := 0) (oi := { dst := some 99, op := .load 26 (.tmp 7), type := 26, pos := "law.go:70", after := #[], guard := none }) (v := .agg Yi.toArray) rfl (by kernel_rfl) (by kernel_rfl) (by kernel_rfl) (fun _ _ _ h => h) (yieldsIf_load_mid (by rfl) _ _ rfl _ _ rfl _ _ (fun w h => rng_bel RI.out h) uB rfl (infoL BS.out.li)) hS0 ?_
    try simp only [Act.put, List.setIfInBounds_toArray, List.set_cons_zero, List.set_cons_succ]
    refine wpAnyH_take (i := 2) (oi := { dst := some 101, op := .load 26 (.tmp 3), type := 26, pos := "law.go:70", after := #[], guard := none }) (v := .agg Yb.toArray) rfl (by kernel_rfl) (by kernel_rfl) (by kernel_rfl) (fun _ _ _ h => h) (yieldsIf_load_mid (by rfl) _ _ rfl _ _ rfl _ _ (fun w h => rng_bel RB.out h) uB rfl (infoL BS.out.lb)) hS0 ?_
    try simp only [Act.put, List.setIfInBounds_toArray, List.set_cons_zero, List.set_cons_succ]
    refine wpAnyH_ready (rs := [1]) (by kernel_rfl) (by simp) ?_
    refine AllReadyH.cons (o := { dst := some 100, op := .call { callee := .value (.func 18), args := #[.tmp 99], argTypes := #[26] }, type := 30, pos := "law.go:70", after := #[{ on := 0, ground := .data }], guard := none }) rfl (fun K hK => ?_) AllReadyH.nil
    go_simp
    refine (C1.out _ hS0).mono ?_
    rintro e v1 ⟨rfl, kb0⟩
    go_wp2_with fail
    refine hK.out _ _ (hS0.trans kb0) (fun hS1 => ?_)
    clear hK K
    try simp only [Act.put, List.setIfInBounds_toArray, List.set_cons_zero, List.set_cons_succ]
    refine wpAnyH_ready (rs := [3]) (by kernel_rfl) (by simp) ?_
    refine AllReadyH.cons (o := { dst := some 102, op := .call { callee := .value (.func 19), args := #[.tmp 101], argTypes := #[26] }, type := 30, pos := "law.go:70", after := #[{ on := 2, ground := .data }, { on := 1, ground := .chain }], guard := none }) rfl (fun K hK => ?_) AllReadyH.nil
    go_simp
    refine (C2.out _ hS1).mono ?_
    rintro e v2 ⟨rfl, kb1⟩
    go_wp2_with fail
    refine hK.out _ _ (hS1.trans kb1) (fun hS2 => ?_)
    clear hK K
    try simp only [Act.put, List.setIfInBounds_toArray, List.set_cons_zero, List.set_cons_succ]
    refine wpAnyH_take (i := 4) (oi := { dst := some 103, op := .binOp .neq 30 (.tmp 100) (.tmp 102) 30, type := 4, pos := "law.go:70", after := #[{ on := 1, ground := .data }, { on := 3, ground := .data }], guard := none }) (v := .bool false) rfl (by kernel_rfl) (by kernel_rfl) (by kernel_rfl) (fun _ _ _ h => h) (Or.inl ⟨by rfl, by intro w hSw; clear hSw; go_simp⟩) hS2 ?_
    try simp only [Act.put, List.setIfInBounds_toArray, List.set_cons_zero, List.set_cons_succ]
    refine wpAnyH_take (i := 5) (oi := { dst := some 104, op := .move (.tmp 103), type := 4, pos := "law.go:70", after := #[{ on := 4, ground := .data }, { on := 3, ground := .chain }], guard := none }) (v := .bool false) rfl (by kernel_rfl) (by kernel_rfl) (by kernel_rfl) (fun _ _ _ h => h) (Or.inl ⟨by rfl, by intro w hSw; clear hSw; go_simp⟩) hS2 ?_
    try simp only [Act.put, List.setIfInBounds_toArray, List.set_cons_zero, List.set_cons_succ]
    refine wpAnyH_take (i := 6) (oi := { dst := some 105, op := .move (.tmp 13), type := 23, pos := "law.go:70", after := #[{ on := 5, ground := .guard }], guard := some (5, false) }) (v := .int .u64 s1) rfl (by kernel_rfl) (by kernel_rfl) (by kernel_rfl) (fun _ _ _ h => h) (Or.inl ⟨by rfl, by intro w hSw; clear hSw; go_simp⟩) hS2 ?_
    try simp only [Act.put, List.setIfInBounds_toArray, List.set_cons_zero, List.set_cons_succ]
    refine wpAnyH_take (i := 7) (oi := { dst := some 106, op := .move (.tmp 15), type := 23, pos := "law.go:70", after := #[{ on := 5, ground := .guard }], guard := some (5, false) }) (v := .int .u64 s1) rfl (by kernel_rfl) (by kernel_rfl) (by kernel_rfl) (fun _ _ _ h => h) (Or.inl ⟨by rfl, by intro w hSw; clear hSw; go_simp⟩) hS2 ?_
    try simp only [Act.put, List.setIfInBounds_toArray, List.set_cons_zero, List.set_cons_succ]
    refine wpAnyH_take (i := 8) (oi := { dst := some 107, op := .binOp .neq 23 (.tmp 105) (.tmp 106) 23, type := 4, pos := "law.go:70", after := #[{ on := 6, ground := .data }, { on := 7, ground := .data }, { on := 5, ground := .guard }], guard := some (5, false) }) (v := .bool false) rfl (by kernel_rfl) (by kernel_rfl) (by kernel_rfl) (fun _ _ _ h => h) (Or.inl ⟨by rfl, by intro w hSw; clear hSw; go_simp⟩) hS2 ?_
    try simp only [Act.put, List.setIfInBounds_toArray, List.set_cons_zero, List.set_cons_succ]
    refine wpAnyH_take (i := 9) (oi := { dst := some 108, op := .pick (.tmp 104) (.const (Value.bool true)) (.tmp 107), type := 4, pos := "law.go:70", after := #[{ on := 5, ground := .data }, { on := 8, ground := .data }], guard := none }) (v := .bool false) rfl (by kernel_rfl) (by kernel_rfl) (by kernel_rfl) (fun _ _ _ h => h) (Or.inl ⟨by rfl, by intro w hSw; clear hSw; go_simp⟩) hS2 ?_
    try simp only [Act.put, List.setIfInBounds_toArray, List.set_cons_zero, List.set_cons_succ]
    refine wpAnyH_take (i := 10) (oi := { dst := some 109, op := .move (.tmp 108), type := 4, pos := "law.go:70", after := #[{ on := 9, ground := .data }, { on := 5, ground := .chain }], guard := none }) (v := .bool false) rfl (by kernel_rfl) (by kernel_rfl) (by kernel_rfl) (fun _ _ _ h => h) (Or.inl ⟨by rfl, by intro w hSw; clear hSw; go_simp⟩) hS2 ?_
    try simp only [Act.put, List.setIfInBounds_toArray, List.set_cons_zero, List.set_cons_succ]
    refine wpAnyH_take (i := 11) (oi := { dst := some 110, op := .move (.tmp 14), type := 30, pos := "law.go:70", after := #[{ on := 10, ground := .guard }], guard := some (10, false) }) (v := .int .i64 e1) rfl (by kernel_rfl) (by kernel_rfl) (by kernel_rfl) (fun _ _ _ h => h) (Or.inl ⟨by rfl, by intro w hSw; clear hSw; go_simp⟩) hS2 ?_
    try simp only [Act.put, List.setIfInBounds_toArray, List.set_cons_zero, List.set_cons_succ]
    refine wpAnyH_take (i := 12) (oi := { dst := some 111, op := .move (.tmp 16), type := 30, pos := "law.go:70", after := #[{ on := 10, ground := .guard }], guard := some (10, false) }) (v := .int .i64 e1) rfl (by kernel_rfl) (by kernel_rfl) (by kernel_rfl) (fun _ _ _ h => h) (Or.inl ⟨by rfl, by intro w hSw; clear hSw; go_simp⟩) hS2 ?_
    try simp only [Act.put, List.setIfInBounds_toArray, List.set_cons_zero, List.set_cons_succ]
    refine wpAnyH_take (i := 13) (oi := { dst := some 112, op := .binOp .neq 30 (.tmp 110) (.tmp 111) 30, type := 4, pos := "law.go:70", after := #[{ on := 11, ground := .data }, { on := 12, ground := .data }, { on := 10, ground := .guard }], guard := some (10, false) }) (v := .bool false) rfl (by kernel_rfl) (by kernel_rfl) (by kernel_rfl) (fun _ _ _ h => h) (Or.inl ⟨by rfl, by intro w hSw; clear hSw; go_simp⟩) hS2 ?_
    try simp only [Act.put, List.setIfInBounds_toArray, List.set_cons_zero, List.set_cons_succ]
    refine wpAnyH_take (i := 14) (oi := { dst := some 113, op := .pick (.tmp 109) (.const (Value.bool true)) (.tmp 112), type := 4, pos := "law.go:70", after := #[{ on := 10, ground := .data }, { on := 13, ground := .data }], guard := none }) (v := .bool false) rfl (by kernel_rfl) (by kernel_rfl) (by kernel_rfl) (fun _ _ _ h => h) (Or.inl ⟨by rfl, by intro w hSw; clear hSw; go_simp⟩) hS2 ?_
    try simp only [Act.put, List.setIfInBounds_toArray, List.set_cons_zero, List.set_cons_succ]
    refine wpAnyH_take (i := 15) (oi := { dst := some 114, op := .move (.tmp 113), type := 4, pos := "law.go:70", after := #[{ on := 14, ground := .data }, { on := 10, ground := .chain }], guard := none }) (v := .bool false) rfl (by kernel_rfl) (by kernel_rfl) (by kernel_rfl) (fun _ _ _ h => h) (Or.inl ⟨by rfl, by intro w hSw; clear hSw; go_simp⟩) hS2 ?_
    try simp only [Act.put, List.setIfInBounds_toArray, List.set_cons_zero, List.set_cons_succ]
    refine wpAnyH_take (i := 16) (oi := { dst := some 115, op := .move (.tmp 17), type := 23, pos := "law.go:70", after := #[{ on := 15, ground := .guard }], guard := some (15, false) }) (v := .int .u64 s2) rfl (by kernel_rfl) (by kernel_rfl) (by kernel_rfl) (fun _ _ _ h => h) (Or.inl ⟨by rfl, by intro w hSw; clear hSw; go_simp⟩) hS2 ?_
    try simp only [Act.put, List.setIfInBounds_toArray, List.set_cons_zero, List.set_cons_succ]
    refine wpAnyH_take (i := 17) (oi := { dst := some 116, op := .move (.tmp 19), type := 23, pos := "law.go:70", after := #[{ on := 15, ground := .guard }], guard := some (15, false) }) (v := .int .u64 s2) rfl (by kernel_rfl) (by kernel_rfl) (by kernel_rfl) (fun _ _ _ h => h) (Or.inl ⟨by rfl, by intro w hSw; clear hSw; go_simp⟩) hS2 ?_
    try simp only [Act.put, List.setIfInBounds_toArray, List.set_cons_zero, List.set_cons_succ]
    refine wpAnyH_take (i := 18) (oi := { dst := some 117, op := .binOp .neq 23 (.tmp 115) (.tmp 116) 23, type := 4, pos := "law.go:70", after := #[{ on := 16, ground := .data }, { on := 17, ground := .data }, { on := 15, ground := .guard }], guard := some (15, false) }) (v := .bool false) rfl (by kernel_rfl) (by kernel_rfl) (by kernel_rfl) (fun _ _ _ h => h) (Or.inl ⟨by rfl, by intro w hSw; clear hSw; go_simp⟩) hS2 ?_
    try simp only [Act.put, List.setIfInBounds_toArray, List.set_cons_zero, List.set_cons_succ]
    refine wpAnyH_take (i := 19) (oi := { dst := some 118, op := .pick (.tmp 114) (.const (Value.bool true)) (.tmp 117), type := 4, pos := "law.go:70", after := #[{ on := 15, ground := .data }, { on := 18, ground := .data }], guard := none }) (v := .bool false) rfl (by kernel_rfl) (by kernel_rfl) (by kernel_rfl) (fun _ _ _ h => h) (Or.inl ⟨by rfl, by intro w hSw; clear hSw; go_simp⟩) hS2 ?_
    try simp only [Act.put, List.setIfInBounds_toArray, List.set_cons_zero, List.set_cons_succ]
    refine wpAnyH_take (i := 20) (oi := { dst := some 119, op := .move (.tmp 118), type := 4, pos := "law.go:70", after := #[{ on := 19, ground := .data }, { on := 15, ground := .chain }], guard := none }) (v := .bool false) rfl (by kernel_rfl) (by kernel_rfl) (by kernel_rfl) (fun _ _ _ h => h) (Or.inl ⟨by rfl, by intro w hSw; clear hSw; go_simp⟩) hS2 ?_
    try simp only [Act.put, List.setIfInBounds_toArray, List.set_cons_zero, List.set_cons_succ]
    refine wpAnyH_take (i := 21) (oi := { dst := some 120, op := .move (.tmp 18), type := 30, pos := "law.go:70", after := #[{ on := 20, ground := .guard }], guard := some (20, false) }) (v := .int .i64 e1) rfl (by kernel_rfl) (by kernel_rfl) (by kernel_rfl) (fun _ _ _ h => h) (Or.inl ⟨by rfl, by intro w hSw; clear hSw; go_simp⟩) hS2 ?_
    try simp only [Act.put, List.setIfInBounds_toArray, List.set_cons_zero, List.set_cons_succ]
    refine wpAnyH_take (i := 22) (oi := { dst := some 121, op := .move (.tmp 20), type := 30, pos := "law.go:70", after := #[{ on := 20, ground := .guard }], guard := some (20, false) }) (v := .int .i64 e1) rfl (by kernel_rfl) (by kernel_rfl) (by kernel_rfl) (fun _ _ _ h => h) (Or.inl ⟨by rfl, by intro w hSw; clear hSw; go_simp⟩) hS2 ?_
    try simp only [Act.put, List.setIfInBounds_toArray, List.set_cons_zero, List.set_cons_succ]
    refine wpAnyH_take (i := 23) (oi := { dst := some 122, op := .binOp .neq 30 (.tmp 120) (.tmp 121) 30, type := 4, pos := "law.go:70", after := #[{ on := 21, ground := .data }, { on := 22, ground := .data }, { on := 20, ground := .guard }], guard := some (20, false) }) (v := .bool false) rfl (by kernel_rfl) (by kernel_rfl) (by kernel_rfl) (fun _ _ _ h => h) (Or.inl ⟨by rfl, by intro w hSw; clear hSw; go_simp⟩) hS2 ?_
    try simp only [Act.put, List.setIfInBounds_toArray, List.set_cons_zero, List.set_cons_succ]
    refine wpAnyH_take (i := 24) (oi := { dst := some 123, op := .pick (.tmp 119) (.const (Value.bool true)) (.tmp 122), type := 4, pos := "law.go:70", after := #[{ on := 20, ground := .data }, { on := 23, ground := .data }], guard := none }) (v := .bool false) rfl (by kernel_rfl) (by kernel_rfl) (by kernel_rfl) (fun _ _ _ h => h) (Or.inl ⟨by rfl, by intro w hSw; clear hSw; go_simp⟩) hS2 ?_
    try simp only [Act.put, List.setIfInBounds_toArray, List.set_cons_zero, List.set_cons_succ]
    refine wpAnyH_take (i := 25) (oi := { dst := some 124, op := .move (.tmp 123), type := 4, pos := "law.go:70", after := #[{ on := 24, ground := .data }, { on := 20, ground := .chain }], guard := none }) (v := .bool false) rfl (by kernel_rfl) (by kernel_rfl) (by kernel_rfl) (fun _ _ _ h => h) (Or.inl ⟨by rfl, by intro w hSw; clear hSw; go_simp⟩) hS2 ?_
    try simp only [Act.put, List.setIfInBounds_toArray, List.set_cons_zero, List.set_cons_succ]
    refine wpAnyH_take (i := 26) (oi := { dst := some 125, op := .move (.tmp 21), type := 23, pos := "law.go:70", after := #[{ on := 25, ground := .guard }], guard := some (25, false) }) (v := .int .u64 s3) rfl (by kernel_rfl) (by kernel_rfl) (by kernel_rfl) (fun _ _ _ h => h) (Or.inl ⟨by rfl, by intro w hSw; clear hSw; go_simp⟩) hS2 ?_
    try simp only [Act.put, List.setIfInBounds_toArray, List.set_cons_zero, List.set_cons_succ]
    refine wpAnyH_take (i := 27) (oi := { dst := some 126, op := .move (.tmp 23), type := 23, pos := "law.go:70", after := #[{ on := 25, ground := .guard }], guard := some (25, false) }) (v := .int .u64 s3) rfl (by kernel_rfl) (by kernel_rfl) (by kernel_rfl) (fun _ _ _ h => h) (Or.inl ⟨by rfl, by intro w hSw; clear hSw; go_simp⟩) hS2 ?_
    try simp only [Act.put, List.setIfInBounds_toArray, List.set_cons_zero, List.set_cons_succ]
    refine wpAnyH_take (i := 28) (oi := { dst := some 127, op := .binOp .neq 23 (.tmp 125) (.tmp 126) 23, type := 4, pos := "law.go:70", after := #[{ on := 26, ground := .data }, { on := 27, ground := .data }, { on := 25, ground := .guard }], guard := some (25, false) }) (v := .bool false) rfl (by kernel_rfl) (by kernel_rfl) (by kernel_rfl) (fun _ _ _ h => h) (Or.inl ⟨by rfl, by intro w hSw; clear hSw; go_simp⟩) hS2 ?_
    try simp only [Act.put, List.setIfInBounds_toArray, List.set_cons_zero, List.set_cons_succ]
    refine wpAnyH_take (i := 29) (oi := { dst := some 128, op := .pick (.tmp 124) (.const (Value.bool true)) (.tmp 127), type := 4, pos := "law.go:70", after := #[{ on := 25, ground := .data }, { on := 28, ground := .data }], guard := none }) (v := .bool false) rfl (by kernel_rfl) (by kernel_rfl) (by kernel_rfl) (fun _ _ _ h => h) (Or.inl ⟨by rfl, by intro w hSw; clear hSw; go_simp⟩) hS2 ?_
    try simp only [Act.put, List.setIfInBounds_toArray, List.set_cons_zero, List.set_cons_succ]
    refine wpAnyH_take (i := 30) (oi := { dst := some 129, op := .move (.tmp 128), type := 4, pos := "law.go:70", after := #[{ on := 29, ground := .data }, { on := 25, ground := .chain }], guard := none }) (v := .bool false) rfl (by kernel_rfl) (by kernel_rfl) (by kernel_rfl) (fun _ _ _ h => h) (Or.inl ⟨by rfl, by intro w hSw; clear hSw; go_simp⟩) hS2 ?_
    try simp only [Act.put, List.setIfInBounds_toArray, List.set_cons_zero, List.set_cons_succ]
    refine wpAnyH_take (i := 31) (oi := { dst := some 130, op := .move (.tmp 22), type := 30, pos := "law.go:70", after := #[{ on := 30, ground := .guard }], guard := some (30, false) }) (v := .int .i64 e2) rfl (by kernel_rfl) (by kernel_rfl) (by kernel_rfl) (fun _ _ _ h => h) (Or.inl ⟨by rfl, by intro w hSw; clear hSw; go_simp⟩) hS2 ?_
    try simp only [Act.put, List.setIfInBounds_toArray, List.set_cons_zero, List.set_cons_succ]
    refine wpAnyH_take (i := 32) (oi := { dst := some 131, op := .move (.tmp 24), type := 30, pos := "law.go:70", after := #[{ on := 30, ground := .guard }], guard := some (30, false) }) (v := .int .i64 e2) rfl (by kernel_rfl) (by kernel_rfl) (by kernel_rfl) (fun _ _ _ h => h) (Or.inl ⟨by rfl, by intro w hSw; clear hSw; go_simp⟩) hS2 ?_
    try simp only [Act.put, List.setIfInBounds_toArray, List.set_cons_zero, List.set_cons_succ]
    refine wpAnyH_take (i := 33) (oi := { dst := some 132, op := .binOp .neq 30 (.tmp 130) (.tmp 131) 30, type := 4, pos := "law.go:70", after := #[{ on := 31, ground := .data }, { on := 32, ground := .data }, { on := 30, ground := .guard }], guard := some (30, false) }) (v := .bool false) rfl (by kernel_rfl) (by kernel_rfl) (by kernel_rfl) (fun _ _ _ h => h) (Or.inl ⟨by rfl, by intro w hSw; clear hSw; go_simp⟩) hS2 ?_
    try simp only [Act.put, List.setIfInBounds_toArray, List.set_cons_zero, List.set_cons_succ]
    refine wpAnyH_take (i := 34) (oi := { dst := some 133, op := .pick (.tmp 129) (.const (Value.bool true)) (.tmp 132), type := 4, pos := "law.go:70", after := #[{ on := 30, ground := .data }, { on := 33, ground := .data }], guard := none }) (v := .bool false) rfl (by kernel_rfl) (by kernel_rfl) (by kernel_rfl) (fun _ _ _ h => h) (Or.inl ⟨by rfl, by intro w hSw; clear hSw; go_simp⟩) hS2 ?_
    try simp only [Act.put, List.setIfInBounds_toArray, List.set_cons_zero, List.set_cons_succ]
    refine wpAnyH_take (i := 35) (oi := { dst := some 134, op := .move (.tmp 133), type := 4, pos := "law.go:70", after := #[{ on := 34, ground := .data }, { on := 30, ground := .chain }], guard := none }) (v := .bool false) rfl (by kernel_rfl) (by kernel_rfl) (by kernel_rfl) (fun _ _ _ h => h) (Or.inl ⟨by rfl, by intro w hSw; clear hSw; go_simp⟩) hS2 ?_
    try simp only [Act.put, List.setIfInBounds_toArray, List.set_cons_zero, List.set_cons_succ]
    refine wpAnyH_take (i := 36) (oi := { dst := some 135, op := .load 26 (.tmp 7), type := 26, pos := "law.go:70", after := #[{ on := 35, ground := .guard }], guard := some (35, false) }) (v := .agg Yi.toArray) rfl (by kernel_rfl) (by kernel_rfl) (by kernel_rfl) (fun _ _ _ h => h) (yieldsIf_load_mid (by rfl) _ _ rfl _ _ rfl _ _ (fun w h => rng_bel RI.out h) uB rfl (infoL BS.out.li)) hS2 ?_
    try simp only [Act.put, List.setIfInBounds_toArray, List.set_cons_zero, List.set_cons_succ]
    refine wpAnyH_take (i := 37) (oi := { dst := some 136, op := .load 26 (.tmp 3), type := 26, pos := "law.go:70", after := #[{ on := 35, ground := .guard }], guard := some (35, false) }) (v := .agg Yb.toArray) rfl (by kernel_rfl) (by kernel_rfl) (by kernel_rfl) (fun _ _ _ h => h) (yieldsIf_load_mid (by rfl) _ _ rfl _ _ rfl _ _ (fun w h => rng_bel RB.out h) uB rfl (infoL BS.out.lb)) hS2 ?_
    try simp only [Act.put, List.setIfInBounds_toArray, List.set_cons_zero, List.set_cons_succ]
    refine wpAnyH_ready (rs := [38]) (by kernel_rfl) (by simp) ?_
    refine AllReadyH.cons (o := { dst := some 137, op := .call { callee := .value (.func 10), args := #[.tmp 135, .tmp 136], argTypes := #[26, 26] }, type := 4, pos := "law.go:70", after := #[{ on := 36, ground := .data }, { on := 37, ground := .data }, { on := 35, ground := .chain }, { on := 35, ground := .guard }], guard := some (35, false) }) rfl (fun K hK => ?_) AllReadyH.nil
    go_simp
    refine (SBB.out _ hS2).mono ?_
    rintro e v3 ⟨rfl, kb2⟩
    go_wp2_with fail
    refine hK.out _ _ (hS2.trans kb2) (fun hS3 => ?_)
    clear hK K
    try simp only [Act.put, List.setIfInBounds_toArray, List.set_cons_zero, List.set_cons_succ]
    refine wpAnyH_take (i := 39) (oi := { dst := some 138, op := .unOp .not 4 (.tmp 137), type := 4, pos := "law.go:70", after := #[{ on := 38, ground := .data }, { on := 35, ground := .guard }], guard := some (35, false) }) (v := .bool false) rfl (by kernel_rfl) (by kernel_rfl) (by kernel_rfl) (fun _ _ _ h => h) (Or.inl ⟨by rfl, by intro w hSw; clear hSw; go_simp⟩) hS3 ?_
    try simp only [Act.put, List.setIfInBounds_toArray, List.set_cons_zero, List.set_cons_succ]
    refine wpAnyH_take (i := 40) (oi := { dst := some 139, op := .pick (.tmp 134) (.const (Value.bool true)) (.tmp 138), type := 4, pos := "law.go:70", after := #[{ on := 35, ground := .data }, { on := 39, ground := .data }], guard := none }) (v := .bool false) rfl (by kernel_rfl) (by kernel_rfl) (by kernel_rfl) (fun _ _ _ h => h) (Or.inl ⟨by rfl, by intro w hSw; clear hSw; go_simp⟩) hS3 ?_
    try simp only [Act.put, List.setIfInBounds_toArray, List.set_cons_zero, List.set_cons_succ]
    refine wpAnyH_done (by kernel_rfl) ?_ _
    have D := Lib.hid hS3
    obtain ⟨wz, hwz⟩ : ∃ W, W = v3 := ⟨_, rfl⟩
    rw [← hwz] at D ⊢
    clear hwz hS0 hS1 hS2 hS3 kb0 kb1 kb2 C1 C2 SBB
    by_cases hkn : k = nb
    · subst hkn
      go_wp2_with fail
      refine (awake _).mono ?_
      rintro e w10 ⟨rfl, kb⟩
      have K := Lib.hid ((BS.out.bel.trans D.out).trans kb)
      clear kb
      go_wp2_with fail
      go_ret
      exact ⟨rfl, K.out⟩
    have hkn1 : ((k : Int) == (nb : Int)) = false := by simp; omega
    have hkl2 : (k : Int) < (nb : Int) := by omega
    have hkl0 : (0 : Int) ≤ (k : Int) := by omega
    obtain ⟨ab, ao, rfl, hab0, hrow⟩ := HAC.out (by omega)
    obtain ⟨a, f, t, m, hact, hra⟩ := hrow k (by omega)
    have RA := Lib.hid (show wr.rangeAt ab (ao + k * 4) [.int .i64 a, .int .i64 f, .int .i64 t, .int .u64 m] from rng_bel hra BS.out.bel)
    have HAB := Lib.hid hab0
    have uA := Try.underlying41
    have iA := Lib.hid (show (Try.prog.info? 41).map (·.size) = some ([.int .i64 a, .int .i64 f, .int .i64 t, .int .u64 m] : List Value).length from info_act)
    have m0 : 0 ≤ m := hact.m0
    have m1 : m ≤ 18446744073709551615 := hact.m1
    have HMM := Lib.hid (And.intro m0 m1)
    clear hrow hra hab0 hact m0 m1
    have DO := Lib.hid (fun V (h : BV V Yi zs ps) => does a f t m Yi zs ps V h HMM.out.1 HMM.out.2)
    have SH := Lib.hid (fun V (h : BV V Yb zs ps) => should a f t m Yb zs ps V h HMM.out.1 HMM.out.2)
    obtain ⟨E, hE⟩ : ∃ x, dE zs ps a f t m = x := ⟨_, rfl⟩
    obtain ⟨Z, hZ⟩ : ∃ x, dZ zs ps a f t m = x := ⟨_, rfl⟩
    obtain ⟨P, hP⟩ : ∃ x, dP zs ps a f t m = x := ⟨_, rfl⟩
    rw [hE, hZ, hP] at DO SH
    clear hE hZ hP
    go_upto_region 21 with fail
    have BSz := Lib.hid (BS.out.up D.out)
    have NIz := Lib.hid (NI.out.then_ D.out)
    have RKz := Lib.hid (RK.out.up D.out)
    have RIz := Lib.hid (rng_bel RI.out D.out)
    have RAz := Lib.hid (rng_bel RA.out D.out)
    refine wp_region_held_drew (S := Sq pi Yi ab (ao + k * 4) [.int .i64 a, .int .i64 f, .int .i64 t, .int .u64 m]) (by kernel_rfl) ⟨rng_bel RIz.out (Kk.Bel.refl _).drew, rng_bel RAz.out (Kk.Bel.refl _).drew⟩ (fun hS0 => ?_)
    have BSz := Lib.hid (BSz.out.up (Kk.Bel.refl _).drew)
    have NIz := Lib.hid (NIz.out.then_ (Kk.Bel.refl _).drew)
    have RKz := Lib.hid (RKz.out.up (Kk.Bel.refl _).drew)
    obtain ⟨w6, hw6⟩ : ∃ w6, World.drew wz = w6 := ⟨_, rfl⟩
    rw [hw6] at hS0 BSz NIz RKz ⊢
    clear hw6
    have BSw := Lib.hid BSz.out.bel
    refine wpAnyH_take (i := 0) (oi := { dst := some 145, op := .load 26 (.tmp 7), type := 26, pos := "law.go:76", after := #[], guard := none }) (v := .agg Yi.toArray) rfl (by kernel_rfl) (by kernel_rfl) (by kernel_rfl) (fun _ _ _ h => h) (yieldsIf_load_mid (by rfl) _ _ rfl _ _ rfl _ _ (fun w h => h.1) uB rfl (infoL BS.out.li)) hS0 ?_
    try simp only [Act.put, List.setIfInBounds_toArray, List.set_cons_zero, List.set_cons_succ]
    refine wpAnyH_take (i := 1) (oi := { dst := some 146, op := .move (.tmp 2), type := 27, pos := "law.go:76", after := #[], guard := none }) (v := .slice (some ⟨ab, ao, none⟩) nb cb) rfl (by kernel_rfl) (by kernel_rfl) (by kernel_rfl) (fun _ _ _ h => h) (Or.inl ⟨by rfl, by intro w hSw; clear hSw; go_simp⟩) hS0 ?_
    try simp only [Act.put, List.setIfInBounds_toArray, List.set_cons_zero, List.set_cons_succ]
    refine wpAnyH_take (i := 2) (oi := { dst := some 147, op := .move (.tmp 12), type := 3, pos := "law.go:76", after := #[], guard := none }) (v := .int .i64 k) rfl (by kernel_rfl) (by kernel_rfl) (by kernel_rfl) (fun _ _ _ h => h) (Or.inl ⟨by rfl, by intro w hSw; clear hSw; go_simp⟩) hS0 ?_
    try simp only [Act.put, List.setIfInBounds_toArray, List.set_cons_zero, List.set_cons_succ]
    refine wpAnyH_take (i := 3) (oi := { dst := some 148, op := .indexAddr 27 (.tmp 146) (.tmp 147), type := 0, pos := "law.go:76", after := #[{ on := 1, ground := .data }, { on := 2, ground := .data }], guard := none }) (v := .pointer (some ⟨ab, ao + k * 4, none⟩)) rfl (by kernel_rfl) (by kernel_rfl) (by kernel_rfl) (fun _ _ _ h => h) (Or.inl ⟨by rfl, by intro w hSw; clear hSw; go_simp⟩) hS0 ?_
    try simp only [Act.put, List.setIfInBounds_toArray, List.set_cons_zero, List.set_cons_succ]
    refine wpAnyH_take (i := 4) (oi := { dst := some 149, op := .load 41 (.tmp 148), type := 41, pos := "law.go:76", after := #[{ on := 3, ground := .data }], guard := none }) (v := actV a f t m) rfl (by kernel_rfl) (by kernel_rfl) (by kernel_rfl) (fun _ _ _ h => h) (yieldsIf_load_mid (by rfl) _ _ rfl _ _ rfl _ _ (fun w h => h.2) uA rfl iA.out) hS0 ?_
    try simp only [Act.put, List.setIfInBounds_toArray, List.set_cons_zero, List.set_cons_succ]
    refine wpAnyH_ready (rs := [5]) (by kernel_rfl) (by simp) ?_
    refine AllReadyH.cons (o := { dst := some 150, op := .call { callee := .value (.func 20), args := #[.tmp 145, .tmp 149], argTypes := #[26, 41] }, type := 31, pos := "law.go:76", after := #[{ on := 0, ground := .data }, { on := 4, ground := .data }], guard := none }) rfl (fun K hK => ?_) AllReadyH.nil
    go_simp
    refine (DO.out _ NIz.out.2).mono ?_
    rintro e v1 ⟨X, rfl, hnx⟩
    go_wp2_with fail
    refine hK.out _ _ (⟨rng_bel hS0.1 hnx.bel, rng_bel hS0.2 hnx.bel⟩) (fun hS1 => ?_)
    clear hK K
    try simp only [Act.put, List.setIfInBounds_toArray, List.set_cons_zero, List.set_cons_succ]
    refine wpAnyH_take (i := 6) (oi := { dst := some 144, op := .move (.tmp 150), type := 31, pos := "law.go:76", after := #[{ on := 5, ground := .data }], guard := none }) (v := .tuple #[.agg X.toArray, .int .i64 E]) rfl (by kernel_rfl) (by kernel_rfl) (by kernel_rfl) (fun _ _ _ h => h) (Or.inl ⟨by rfl, by intro w hSw; clear hSw; go_simp⟩) hS1 ?_
    try simp only [Act.put, List.setIfInBounds_toArray, List.set_cons_zero, List.set_cons_succ]
    refine wpAnyH_take (i := 7) (oi := { dst := some 151, op := .extract (.tmp 144) 0, type := 26, pos := "law.go:76", after := #[{ on := 6, ground := .data }], guard := none }) (v := .agg X.toArray) rfl (by kernel_rfl) (by kernel_rfl) (by kernel_rfl) (fun _ _ _ h => h) (Or.inl ⟨by rfl, by intro w hSw; clear hSw; go_simp⟩) hS1 ?_
    try simp only [Act.put, List.setIfInBounds_toArray, List.set_cons_zero, List.set_cons_succ]
    refine wpAnyH_take (i := 8) (oi := { dst := some 152, op := .extract (.tmp 144) 1, type := 30, pos := "law.go:76", after := #[{ on := 6, ground := .data }, { on := 9, ground := .gcOnly .lateStores }], guard := none }) (v := .int .i64 E) rfl (by kernel_rfl) (by kernel_rfl) (by kernel_rfl) (fun _ _ _ h => h) (Or.inl ⟨by rfl, by intro w hSw; clear hSw; go_simp⟩) hS1 ?_
    try simp only [Act.put, List.setIfInBounds_toArray, List.set_cons_zero, List.set_cons_succ]
    have BSz := Lib.hid (BSz.out.up hnx.bel)
    have HI_X := Lib.hid (show ∀ g, own Yi = some g → g < w6.heap.size from fun g hg => (NIz.out.own_lt g hg).2)
    have HO_X := Lib.hid (show ∀ g, own X = some g → w6.heap.size ≤ g from fun g hg => (hnx.own_lt g hg).1)
    have NIz := Lib.hid (NIz.out.then_ hnx.bel)
    have RKz := Lib.hid (RKz.out.up hnx.bel)
    have B6_X := Lib.hid (show Kk.Bel w w6 from BSw.out)
    have NX_X := Lib.hid (NB.after B6_X.out hnx)
    have L_X := Lib.hid hnx.2.len
    have O_X := Lib.hid hnx.2.one
    have TH := Lib.hid (show World.there v1 px 0 X.toArray.size from blk_there BSz.out.bx BSz.out.lx L_X.out)
    have hne1 : ¬ pi = px := by have h1 := BSz.out.o1; have h2 := BSz.out.o2; have h3 := BSz.out.o3; omega
    have hne2 : ¬ ab = px := by have h0 := BSz.out.o0; have h1 := BSz.out.o1; have h2 := BSz.out.o2; have h3 := BSz.out.o3; have h4 := HAB.out; omega
    have hSE : Sq pi Yi ab (ao + k * 4) [.int .i64 a, .int .i64 f, .int .i64 t, .int .u64 m] (v1.setCells px 0 X.toArray.toList) := by rw [List.toList_toArray]; exact ⟨rng_kep hS1.1 (kep_setCells px X 0 v1) hne1, rng_kep hS1.2 (kep_setCells px X 0 v1) hne2⟩
    refine wpAnyH_ready (rs := [9]) (by kernel_rfl) (by simp) ?_
    refine AllReadyH.cons (o := { dst := none, op := .store 26 (.tmp 8) (.tmp 151), type := 0, pos := "law.go:76", after := #[{ on := 7, ground := .data }, { on := 5, ground := .chain }, { on := 0, ground := .phase }, { on := 1, ground := .phase }, { on := 2, ground := .phase }, { on := 3, ground := .phase }, { on := 4, ground := .phase }, { on := 5, ground := .phase }, { on := 6, ground := .phase }, { on := 7, ground := .phase }, { on := 8, ground := .textOnly .lateStores }], guard := none }) rfl (fun K hK => ?_) AllReadyH.nil
    rw [if_pos (by rfl)]
    refine wp_store_mid 26 (.tmp 8) (.tmp 151) rfl px 0 X.toArray rfl rfl TH.out (infoA5 L_X.out) O_X.out ?_
    refine hK.out _ _ hSE (fun hS2 => ?_)
    clear hK K
    try simp only [Act.put]
    refine wpAnyH_take (i := 10) (oi := { dst := some 9, op := .assign (.tmp 152), type := 30, pos := "law.go:76", after := #[{ on := 8, ground := .data }, { on := 9, ground := .chain }, { on := 0, ground := .phase }, { on := 1, ground := .phase }, { on := 2, ground := .phase }, { on := 3, ground := .phase }, { on := 4, ground := .phase }, { on := 5, ground := .phase }, { on := 6, ground := .phase }, { on := 7, ground := .phase }, { on := 8, ground := .phase }, { on := 9, ground := .phase }], guard := none }) (v := .int .i64 E) rfl (by kernel_rfl) (by kernel_rfl) (by kernel_rfl) (fun _ _ _ h => h) (Or.inl ⟨by rfl, by intro w hSw; clear hSw; go_simp⟩) hS2 ?_
    try simp only [Act.put, List.setIfInBounds_toArray, List.set_cons_zero, List.set_cons_succ]
    refine wpAnyH_done (by kernel_rfl) ?_ _
    have RKz := Lib.hid (RKz.out.kept BSz.out.bx (by have h0 := BSz.out.o0; have h1 := BSz.out.o1; have h2 := BSz.out.o2; have h3 := BSz.out.o3; omega) X)
    have NIz := Lib.hid (NIz.out.setbank BSz.out.bx (by have h0 := BSz.out.o0; have h1 := BSz.out.o1; have h2 := BSz.out.o2; have h3 := BSz.out.o3; omega) X)
    have NX_X := Lib.hid (NX_X.out.setbank BSz.out.bx (by have h0 := BSz.out.o0; have h1 := BSz.out.o1; have h2 := BSz.out.o2; have h3 := BSz.out.o3; omega) X)
    have BSz := Lib.hid (BSz.out.setx X L_X.out)
    rw [List.toList_toArray] at hSE
    have RAz := Lib.hid hSE.2
    obtain ⟨wa, hnw⟩ : ∃ V, v1.setCells px 0 X = V := ⟨_, rfl⟩
    rw [hnw] at RKz NIz NX_X BSz RAz 
    have hnw2 : v1.setCells px 0 X.toArray.toList = wa := by rw [List.toList_toArray]; exact hnw
    rw [hnw2]
    clear hnw hnw2 hSE hS0 hS1 hS2 TH hnx hne1 hne2
    go_upto_region 22 with fail
    refine wp_region_held_drew (S := Sq pb Yb ab (ao + k * 4) [.int .i64 a, .int .i64 f, .int .i64 t, .int .u64 m]) (by kernel_rfl) ⟨rng_bel (rngB BSz.out.bb) (Kk.Bel.refl _).drew, rng_bel RAz.out (Kk.Bel.refl _).drew⟩ (fun hS0 => ?_)
    have BSz := Lib.hid (BSz.out.up (Kk.Bel.refl _).drew)
    have NIz := Lib.hid (NIz.out.then_ (Kk.Bel.refl _).drew)
    have RKz := Lib.hid (RKz.out.up (Kk.Bel.refl _).drew)
    have NX_X := Lib.hid (NX_X.out.then_ (Kk.Bel.refl _).drew)
    obtain ⟨w6, hw6⟩ : ∃ w6, World.drew wa = w6 := ⟨_, rfl⟩
    rw [hw6] at hS0 BSz NIz RKz NX_X ⊢
    clear hw6
    have BSw := Lib.hid BSz.out.bel
    refine wpAnyH_take (i := 0) (oi := { dst := some 154, op := .load 26 (.tmp 3), type := 26, pos := "law.go:77", after := #[], guard := none }) (v := .agg Yb.toArray) rfl (by kernel_rfl) (by kernel_rfl) (by kernel_rfl) (fun _ _ _ h => h) (yieldsIf_load_mid (by rfl) _ _ rfl _ _ rfl _ _ (fun w h => h.1) uB rfl (infoL BS.out.lb)) hS0 ?_
    try simp only [Act.put, List.setIfInBounds_toArray, List.set_cons_zero, List.set_cons_succ]
    refine wpAnyH_take (i := 1) (oi := { dst := some 155, op := .move (.tmp 2), type := 27, pos := "law.go:77", after := #[], guard := none }) (v := .slice (some ⟨ab, ao, none⟩) nb cb) rfl (by kernel_rfl) (by kernel_rfl) (by kernel_rfl) (fun _ _ _ h => h) (Or.inl ⟨by rfl, by intro w hSw; clear hSw; go_simp⟩) hS0 ?_
    try simp only [Act.put, List.setIfInBounds_toArray, List.set_cons_zero, List.set_cons_succ]
    refine wpAnyH_take (i := 2) (oi := { dst := some 156, op := .move (.tmp 12), type := 3, pos := "law.go:77", after := #[], guard := none }) (v := .int .i64 k) rfl (by kernel_rfl) (by kernel_rfl) (by kernel_rfl) (fun _ _ _ h => h) (Or.inl ⟨by rfl, by intro w hSw; clear hSw; go_simp⟩) hS0 ?_
    try simp only [Act.put, List.setIfInBounds_toArray, List.set_cons_zero, List.set_cons_succ]
    refine wpAnyH_take (i := 3) (oi := { dst := some 157, op := .indexAddr 27 (.tmp 155) (.tmp 156), type := 0, pos := "law.go:77", after := #[{ on := 1, ground := .data }, { on := 2, ground := .data }], guard := none }) (v := .pointer (some ⟨ab, ao + k * 4, none⟩)) rfl (by kernel_rfl) (by kernel_rfl) (by kernel_rfl) (fun _ _ _ h => h) (Or.inl ⟨by rfl, by intro w hSw; clear hSw; go_simp⟩) hS0 ?_
    try simp only [Act.put, List.setIfInBounds_toArray, List.set_cons_zero, List.set_cons_succ]
    refine wpAnyH_take (i := 4) (oi := { dst := some 158, op := .load 41 (.tmp 157), type := 41, pos := "law.go:77", after := #[{ on := 3, ground := .data }], guard := none }) (v := actV a f t m) rfl (by kernel_rfl) (by kernel_rfl) (by kernel_rfl) (fun _ _ _ h => h) (yieldsIf_load_mid (by rfl) _ _ rfl _ _ rfl _ _ (fun w h => h.2) uA rfl iA.out) hS0 ?_
    try simp only [Act.put, List.setIfInBounds_toArray, List.set_cons_zero, List.set_cons_succ]
    refine wpAnyH_ready (rs := [5]) (by kernel_rfl) (by simp) ?_
    refine AllReadyH.cons (o := { dst := some 159, op := .call { callee := .value (.func 21), args := #[.tmp 154, .tmp 158], argTypes := #[26, 41] }, type := 31, pos := "law.go:77", after := #[{ on := 0, ground := .data }, { on := 4, ground := .data }], guard := none }) rfl (fun K hK => ?_) AllReadyH.nil
    go_simp
    refine (SH.out _ RKz.out.bv).mono ?_
    rintro e v1 ⟨Y, rfl, hnx⟩
    go_wp2_with fail
    refine hK.out _ _ (⟨rng_bel hS0.1 hnx.bel, rng_bel hS0.2 hnx.bel⟩) (fun hS1 => ?_)
    clear hK K
    try simp only [Act.put, List.setIfInBounds_toArray, List.set_cons_zero, List.set_cons_succ]
    refine wpAnyH_take (i := 6) (oi := { dst := some 153, op := .move (.tmp 159), type := 31, pos := "law.go:77", after := #[{ on := 5, ground := .data }], guard := none }) (v := .tuple #[.agg Y.toArray, .int .i64 E]) rfl (by kernel_rfl) (by kernel_rfl) (by kernel_rfl) (fun _ _ _ h => h) (Or.inl ⟨by rfl, by intro w hSw; clear hSw; go_simp⟩) hS1 ?_
    try simp only [Act.put, List.setIfInBounds_toArray, List.set_cons_zero, List.set_cons_succ]
    refine wpAnyH_take (i := 7) (oi := { dst := some 160, op := .extract (.tmp 153) 0, type := 26, pos := "law.go:77", after := #[{ on := 6, ground := .data }], guard := none }) (v := .agg Y.toArray) rfl (by kernel_rfl) (by kernel_rfl) (by kernel_rfl) (fun _ _ _ h => h) (Or.inl ⟨by rfl, by intro w hSw; clear hSw; go_simp⟩) hS1 ?_
    try simp only [Act.put, List.setIfInBounds_toArray, List.set_cons_zero, List.set_cons_succ]
    refine wpAnyH_take (i := 8) (oi := { dst := some 161, op := .extract (.tmp 153) 1, type := 30, pos := "law.go:77", after := #[{ on := 6, ground := .data }, { on := 9, ground := .gcOnly .lateStores }], guard := none }) (v := .int .i64 E) rfl (by kernel_rfl) (by kernel_rfl) (by kernel_rfl) (fun _ _ _ h => h) (Or.inl ⟨by rfl, by intro w hSw; clear hSw; go_simp⟩) hS1 ?_
    try simp only [Act.put, List.setIfInBounds_toArray, List.set_cons_zero, List.set_cons_succ]
    have BSz := Lib.hid (BSz.out.up hnx.bel)
    have HI_Y := Lib.hid (show ∀ g, own Yi = some g → g < w6.heap.size from fun g hg => (NIz.out.own_lt g hg).2)
    have HO_Y := Lib.hid (show ∀ g, own Y = some g → w6.heap.size ≤ g from fun g hg => (hnx.own_lt g hg).1)
    have NIz := Lib.hid (NIz.out.then_ hnx.bel)
    have RKz := Lib.hid (RKz.out.up hnx.bel)
    have B6_Y := Lib.hid (show Kk.Bel w w6 from BSw.out)
    have NX_X := Lib.hid (NX_X.out.then_ hnx.bel)
    have NX_Y := Lib.hid (NB.after B6_Y.out hnx)
    have L_Y := Lib.hid hnx.2.len
    have O_Y := Lib.hid hnx.2.one
    have TH := Lib.hid (show World.there v1 py 0 Y.toArray.size from blk_there BSz.out.by_ BSz.out.ly L_Y.out)
    have hne1 : ¬ pb = py := by have h1 := BSz.out.o1; have h2 := BSz.out.o2; have h3 := BSz.out.o3; omega
    have hne2 : ¬ ab = py := by have h0 := BSz.out.o0; have h1 := BSz.out.o1; have h2 := BSz.out.o2; have h3 := BSz.out.o3; have h4 := HAB.out; omega
    have hSE : Sq pb Yb ab (ao + k * 4) [.int .i64 a, .int .i64 f, .int .i64 t, .int .u64 m] (v1.setCells py 0 Y.toArray.toList) := by rw [List.toList_toArray]; exact ⟨rng_kep hS1.1 (kep_setCells py Y 0 v1) hne1, rng_kep hS1.2 (kep_setCells py Y 0 v1) hne2⟩
    refine wpAnyH_ready (rs := [9]) (by kernel_rfl) (by simp) ?_
    refine AllReadyH.cons (o := { dst := none, op := .store 26 (.tmp 10) (.tmp 160), type := 0, pos := "law.go:77", after := #[{ on := 7, ground := .data }, { on := 5, ground := .chain }, { on := 0, ground := .phase }, { on := 1, ground := .phase }, { on := 2, ground := .phase }, { on := 3, ground := .phase }, { on := 4, ground := .phase }, { on := 5, ground := .phase }, { on := 6, ground := .phase }, { on := 7, ground := .phase }, { on := 8, ground := .textOnly .lateStores }], guard := none }) rfl (fun K hK => ?_) AllReadyH.nil
    rw [if_pos (by rfl)]
    refine wp_store_mid 26 (.tmp 10) (.tmp 160) rfl py 0 Y.toArray rfl rfl TH.out (infoA5 L_Y.out) O_Y.out ?_
    refine hK.out _ _ hSE (fun hS2 => ?_)
    clear hK K
    try simp only [Act.put]
    refine wpAnyH_take (i := 10) (oi := { dst := some 11, op := .assign (.tmp 161), type := 30, pos := "law.go:77", after := #[{ on := 8, ground := .data }, { on := 9, ground := .chain }, { on := 0, ground := .phase }, { on := 1, ground := .phase }, { on := 2, ground := .phase }, { on := 3, ground := .phase }, { on := 4, ground := .phase }, { on := 5, ground := .phase }, { on := 6, ground := .phase }, { on := 7, ground := .phase }, { on := 8, ground := .phase }, { on := 9, ground := .phase }], guard := none }) (v := .int .i64 E) rfl (by kernel_rfl) (by kernel_rfl) (by kernel_rfl) (fun _ _ _ h => h) (Or.inl ⟨by rfl, by intro w hSw; clear hSw; go_simp⟩) hS2 ?_
    try simp only [Act.put, List.setIfInBounds_toArray, List.set_cons_zero, List.set_cons_succ]
    refine wpAnyH_done (by kernel_rfl) ?_ _
    have RKz := Lib.hid (RKz.out.kept BSz.out.by_ (by have h0 := BSz.out.o0; have h1 := BSz.out.o1; have h2 := BSz.out.o2; have h3 := BSz.out.o3; omega) Y)
    have NIz := Lib.hid (NIz.out.setbank BSz.out.by_ (by have h0 := BSz.out.o0; have h1 := BSz.out.o1; have h2 := BSz.out.o2; have h3 := BSz.out.o3; omega) Y)
    have NX_Y := Lib.hid (NX_Y.out.setbank BSz.out.by_ (by have h0 := BSz.out.o0; have h1 := BSz.out.o1; have h2 := BSz.out.o2; have h3 := BSz.out.o3; omega) Y)
    have NX_X := Lib.hid (NX_X.out.setbank BSz.out.by_ (by have h0 := BSz.out.o0; have h1 := BSz.out.o1; have h2 := BSz.out.o2; have h3 := BSz.out.o3; omega) Y)
    have BSz := Lib.hid (BSz.out.sety Y L_Y.out)
    rw [List.toList_toArray] at hSE
    have RAz := Lib.hid hSE.2
    obtain ⟨wb, hnw⟩ : ∃ V, v1.setCells py 0 Y = V := ⟨_, rfl⟩
    rw [hnw] at RKz NIz NX_Y BSz RAz NX_X 
    have hnw2 : v1.setCells py 0 Y.toArray.toList = wb := by rw [List.toList_toArray]; exact hnw
    rw [hnw2]
    clear hnw hnw2 hSE hS0 hS1 hS2 TH hnx hne1 hne2
    go_upto_region 23 with fail
    have SXY := Lib.hid (fun V (h : Kk.Bel wb V) => sameBankT X Y Z P V (NX_X.out.2.bel h) (NX_Y.out.2.bel h))
    have SIB := Lib.hid (fun V (h : Kk.Bel wb V) => sameBankT Yi Yb zs ps V (NIz.out.2.bel h) (RKz.out.bv.bel h))
    have RX := Lib.hid (rngB BSz.out.bx)
    have RY := Lib.hid (rngB BSz.out.by_)
    have RI2 := Lib.hid (rngB BSz.out.bi)
    have RB2 := Lib.hid (rngB BSz.out.bb)
    go_wp2_with (first | ((with_reducible refine wpList_load_g ?_ 26 (.tmp 8) ?_ px 0 ?_ X _ RX.out uB ?_ (infoL L_X.out) ?_); rfl; rfl; rfl; rfl) | ((with_reducible refine wpList_load_g ?_ 26 (.tmp 10) ?_ py 0 ?_ Y _ RY.out uB ?_ (infoL L_Y.out) ?_); rfl; rfl; rfl; rfl))
    refine (SXY.out _ (Kk.Bel.refl _)).mono ?_
    rintro e u1 ⟨rfl, kb⟩
    have D := Lib.hid kb
    have RI2 := Lib.hid (rng_bel RI2.out kb)
    have RB2 := Lib.hid (rng_bel RB2.out kb)
    clear kb
    go_wp2_with (first | ((with_reducible refine wpList_load_g ?_ 26 (.tmp 7) ?_ pi 0 ?_ Yi _ RI2.out uB ?_ (infoL BS.out.li) ?_); rfl; rfl; rfl; rfl) | ((with_reducible refine wpList_load_g ?_ 26 (.tmp 3) ?_ pb 0 ?_ Yb _ RB2.out uB ?_ (infoL BS.out.lb) ?_); rfl; rfl; rfl; rfl))
    refine (SIB.out _ D.out).mono ?_
    rintro e u2 ⟨rfl, kb⟩
    have D := Lib.hid (D.out.trans kb)
    clear kb RI2 RB2 RX RY
    have BSz := Lib.hid (BSz.out.up D.out)
    have NIz := Lib.hid (NIz.out.then_ D.out)
    have RKz := Lib.hid (RKz.out.up D.out)
    have NX_X := Lib.hid (NX_X.out.then_ D.out)
    have NX_Y := Lib.hid (NX_Y.out.then_ D.out)
    have ca : u2.cell? ⟨ab, ao + k * 4, none⟩ = some (.int .i64 a) := cell_bel (RAz.out 0 (.int .i64 a) rfl) D.out
    clear SXY SIB
    have SAME := Lib.hid (show ∃ (k' : Nat) (Yb Yi Yx Yy : List Value) (zs ps : List Int), (Value.int .i64 ((k : Int) + 1)) = .int .i64 k' ∧ k' ≤ nb ∧ Hid (Hdr w u2 pb pi px py Yb Yi Yx Yy zs ps) from ⟨k + 1, Yb, Yi, X, Y, zs, ps, by rw [Int.natCast_add]; rfl, by omega, Lib.hid ⟨BSz.out, NIz.out, RKz.out⟩⟩)
    by_cases hE : E = 0
    · subst hE
      by_cases ha0 : 0 ≤ a
      · by_cases ha4 : a ≤ 4
        · obtain ⟨vi, eI, oi, fi⟩ := nb_row NIz.out
          have ci0 : u2.cell? ⟨pi, 0, none⟩ = some vi := BSz.out.bi.cell 0 (by rw [eI]; rfl)
          have OV := Lib.hid (over_any _ _ vi _ u2 (by have := NIz.out.2.good.2.2.2; omega) fi.1)
          have OI := Lib.hid oi
          clear eI oi fi
          go_wp2_with fail
          refine OV.out.mono ?_
          rintro e u3 ⟨rfl, kk⟩
          have hne : ∀ g, vi.ownBlock = some g → own Yi = some g := fun g hg => by rw [OI.out]; exact hg
          have hS : ∀ i, vi.ownBlock = some i → w.heap.size ≤ i := fun i hi => (NIz.out.own_lt i (hne i hi)).1
          have BS3 := Lib.hid (BSz.out.kep kk hS (fun e => NIz.out.not_bank BSz.out.bb _ (hne _ e) rfl) (fun e => NIz.out.not_bank BSz.out.bi _ (hne _ e) rfl) (fun e => NIz.out.not_bank BSz.out.bx _ (hne _ e) rfl) (fun e => NIz.out.not_bank BSz.out.by_ _ (hne _ e) rfl))
          have NX3 := Lib.hid (NX_X.out.kept kk hS (fun g hg e => by have h1 := HI_X.out g (hne g e); have h2 := HO_X.out g hg; omega))
          have NY3 := Lib.hid (NX_Y.out.kept kk hS (fun g hg e => by have h1 := HI_Y.out g (hne g e); have h2 := HO_Y.out g hg; omega))
          clear kk hne hS ci0 OV ca SAME
          have SXY := Lib.hid (fun V (h : Kk.Bel u3 V) => sameBankT X Y Z P V (NX3.out.2.bel h) (NY3.out.2.bel h))
          have RX := Lib.hid (rngB BS3.out.bx)
          have RY := Lib.hid (rngB BS3.out.by_)
          go_wp2_with (first | ((with_reducible refine wpList_load_g ?_ 26 (.tmp 8) ?_ px 0 ?_ X _ RX.out uB ?_ (infoL L_X.out) ?_); rfl; rfl; rfl; rfl) | ((with_reducible refine wpList_load_g ?_ 26 (.tmp 10) ?_ py 0 ?_ Y _ RY.out uB ?_ (infoL L_Y.out) ?_); rfl; rfl; rfl; rfl))
          refine (SXY.out _ (Kk.Bel.refl _)).mono ?_
          rintro e u4 ⟨rfl, kb⟩
          have BS4 := Lib.hid (BS3.out.up kb)
          have NX4 := Lib.hid (NX3.out.then_ kb)
          have NY4 := Lib.hid (NY3.out.then_ kb)
          clear kb RX RY SXY
          go_upto_region 29 with fail
          have hp1 : ¬ px = pi ∧ ¬ py = pi ∧ ¬ px = pb ∧ ¬ py = pb := by have h1 := BS4.out.o1; have h2 := BS4.out.o2; have h3 := BS4.out.o3; omega
          refine wp_region_held_drew (S := Sq px X py 0 Y) (by kernel_rfl) ⟨rng_bel (rngB BS4.out.bx) (Kk.Bel.refl _).drew, rng_bel (rngB BS4.out.by_) (Kk.Bel.refl _).drew⟩ (fun hS0 => ?_)
          have BS4 := Lib.hid (BS4.out.up (Kk.Bel.refl _).drew)
          have NX4 := Lib.hid (NX4.out.then_ (Kk.Bel.refl _).drew)
          have NY4 := Lib.hid (NY4.out.then_ (Kk.Bel.refl _).drew)
          obtain ⟨w6, hw6⟩ : ∃ w6, World.drew u4 = w6 := ⟨_, rfl⟩
          rw [hw6] at hS0 BS4 NX4 NY4 ⊢
          clear hw6
          refine wpAnyH_take (i := 0) (oi := { dst := some 202, op := .load 26 (.tmp 8), type := 26, pos := "law.go:86", after := #[], guard := none }) (v := .agg X.toArray) rfl (by kernel_rfl) (by kernel_rfl) (by kernel_rfl) (fun _ _ _ h => h) (yieldsIf_load_mid (by rfl) _ _ rfl _ _ rfl _ _ (fun w h => h.1) uB rfl (infoL L_X.out)) hS0 ?_
          try simp only [Act.put, List.setIfInBounds_toArray, List.set_cons_zero, List.set_cons_succ]
          refine wpAnyH_take (i := 1) (oi := { dst := some 203, op := .load 26 (.tmp 10), type := 26, pos := "law.go:86", after := #[{ on := 2, ground := .gcOnly .lateStores }], guard := none }) (v := .agg Y.toArray) rfl (by kernel_rfl) (by kernel_rfl) (by kernel_rfl) (fun _ _ _ h => h) (yieldsIf_load_mid (by rfl) _ _ rfl _ _ rfl _ _ (fun w h => h.2) uB rfl (infoL L_Y.out)) hS0 ?_
          try simp only [Act.put, List.setIfInBounds_toArray, List.set_cons_zero, List.set_cons_succ]
          have TH := Lib.hid (show World.there w6 pi 0 X.toArray.size from blk_there BS4.out.bi BS4.out.li L_X.out)
          have hSE : Sq px X py 0 Y (w6.setCells pi 0 X.toArray.toList) := by rw [List.toList_toArray]; exact ⟨rng_kep hS0.1 (kep_setCells pi X 0 w6) hp1.1, rng_kep hS0.2 (kep_setCells pi X 0 w6) hp1.2.1⟩
          have NX5 := Lib.hid (NX4.out.setbank BS4.out.bi (by have h0 := BS4.out.o0; have h1 := BS4.out.o1; omega) X)
          have NY5 := Lib.hid (NY4.out.setbank BS4.out.bi (by have h0 := BS4.out.o0; have h1 := BS4.out.o1; omega) X)
          have BS5 := Lib.hid (BS4.out.seti X L_X.out)
          refine wpAnyH_ready (rs := [2]) (by kernel_rfl) (by simp) ?_
          refine AllReadyH.cons (o := { dst := none, op := .store 26 (.tmp 7) (.tmp 202), type := 0, pos := "law.go:86", after := #[{ on := 0, ground := .data }, { on := 0, ground := .phase }, { on := 1, ground := .textOnly .lateStores }], guard := none }) rfl (fun K hK => ?_) AllReadyH.nil
          rw [if_pos (by rfl)]
          refine wp_store_mid 26 (.tmp 7) (.tmp 202) rfl pi 0 X.toArray rfl rfl TH.out (infoA5 L_X.out) O_X.out ?_
          refine hK.out _ _ hSE (fun hS1 => ?_)
          clear hK K
          try simp only [Act.put]
          obtain ⟨w7, hw7⟩ : ∃ V, w6.setCells pi 0 X.toArray.toList = V := ⟨_, rfl⟩
          rw [hw7] at hS1 hSE ⊢
          rw [List.toList_toArray] at hw7
          rw [hw7] at NX5 NY5 BS5
          clear hw7 TH
          have TH := Lib.hid (show World.there w7 pb 0 Y.toArray.size from blk_there BS5.out.bb BS5.out.lb L_Y.out)
          have hSE2 : Sq px X py 0 Y (w7.setCells pb 0 Y.toArray.toList) := by rw [List.toList_toArray]; exact ⟨rng_kep hS1.1 (kep_setCells pb Y 0 w7) hp1.2.2.1, rng_kep hS1.2 (kep_setCells pb Y 0 w7) hp1.2.2.2⟩
          have NX6 := Lib.hid (NX5.out.setbank BS5.out.bb BS5.out.o0 Y)
          have NY6 := Lib.hid (NY5.out.setbank BS5.out.bb BS5.out.o0 Y)
          have BS6 := Lib.hid (BS5.out.setb Y L_Y.out)
          refine wpAnyH_ready (rs := [3]) (by kernel_rfl) (by simp) ?_
          refine AllReadyH.cons (o := { dst := none, op := .store 26 (.tmp 3) (.tmp 203), type := 0, pos := "law.go:86", after := #[{ on := 1, ground := .data }, { on := 2, ground := .chain }, { on := 0, ground := .phase }, { on := 1, ground := .phase }, { on := 2, ground := .phase }], guard := none }) rfl (fun K hK => ?_) AllReadyH.nil
          rw [if_pos (by rfl)]
          refine wp_store_mid 26 (.tmp 3) (.tmp 203) rfl pb 0 Y.toArray rfl rfl TH.out (infoA5 L_Y.out) O_Y.out ?_
          refine hK.out _ _ hSE2 (fun hS2 => ?_)
          clear hK K
          try simp only [Act.put]
          refine wpAnyH_done (by kernel_rfl) ?_ _
          obtain ⟨w8, hw8⟩ : ∃ V, w7.setCells pb 0 Y.toArray.toList = V := ⟨_, rfl⟩
          rw [hw8]
          rw [List.toList_toArray] at hw8
          rw [hw8] at NX6 NY6 BS6
          clear hw8 hSE hSE2 hS0 hS1 hS2 TH
          have GO := Lib.hid (show ∃ (k' : Nat) (Yb Yi Yx Yy : List Value) (zs ps : List Int), (Value.int .i64 ((k : Int) + 1)) = .int .i64 k' ∧ k' ≤ nb ∧ Hid (Hdr w w8 pb pi px py Yb Yi Yx Yy zs ps) from ⟨k + 1, Y, X, X, Y, Z, P, by rw [Int.natCast_add]; rfl, by omega, Lib.hid ⟨BS6.out, NX6.out, .inr NY6.out⟩⟩)
          go_wp2_with fail
          go_roundw
          case rel => exact GO.out
          case measure => simp [intOf]; omega
        · have ha4' : ¬ (a ≤ 4) := ha4
          go_wp2_with fail
          go_roundw
          case rel => exact SAME.out
          case measure => simp [intOf]; omega
      · have ha0' : ¬ (0 ≤ a) := ha0
        go_wp2_with fail
        go_roundw
        case rel => exact SAME.out
        case measure => simp [intOf]; omega
    · have hE1 : (E == 0) = false := by simpa using hE
      go_wp2_with fail
      go_roundw
      case rel => exact SAME.out
      case measure => simp [intOf]; omega
end Bk
end Go.Proofs.Ytgdaojbflokmoaa
