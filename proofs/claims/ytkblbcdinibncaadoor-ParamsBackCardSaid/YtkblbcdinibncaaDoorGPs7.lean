/-
  The law ParamsBack: params are read as they were, from their text and their bytes; what is read is written as what it was read from. Conditions: ints; bytes; the library's table of powers of ten is as the program's text lays it.
-/
import Derived.Test.YtkblbcdinibncaaDoorPT
namespace Go.Proofs.YtkblbcdinibncaaDoor
open Go.RowKit Go.Shelf Go.Sort
set_option linter.unusedVariables false
namespace Pm
open Kk

theorem slc {W : World} {A : Option Addr} {n c : Nat} {zs : List Int} (h : Sl W A n c zs) : Cd.Sl W A n c zs := ⟨h.ints, h.cap, h.nil⟩
theorem FOK (e p : Int) : (#[Value.int .i64 e, .int .i64 p] : Array Value).all (·.oneCell') = true := all_oneCell_toArray (cs := [.int .i64 e, .int .i64 p]) (by
  intro v hv
  simp at hv
  rcases hv with rfl | rfl <;> rfl)
set_option maxRecDepth 100000 in
set_option maxHeartbeats 8000000 in
theorem back_ (A : Option Addr) (ln cp : Nat) (zs : List Int) (s : ByteArray) (B : Option Addr) (n c : Nat) (bz : List Int) (w : World) (hi : Ints .i64 w A ln zs) (hl : ln ≤ maxLen) (hz : ∀ z ∈ zs, -9223372036854775808 ≤ z ∧ z ≤ 9223372036854775807)
    (hb : Sl w B n c bz) (hbz : ∀ z ∈ bz, 0 ≤ z ∧ z ≤ 255) (htab : Tab w) :
    Calls Tryd.prog 4 #[.slice A ln cp, .string s, .slice B n c] w fun e w' => e = .returned (.bool true) ∧ Bel w w' := by
  have HI := Lib.hid hi
  have HL := Lib.hid hl
  have HZ := Lib.hid hz
  have HB := Lib.hid hb
  have HBZ := Lib.hid (Cd.bytes_of hbz)
  have HT := Lib.hid htab
  clear hi hl hz hb hbz htab
  go_enter Tryd.func4, Tryd.ntmps4
  go_wp2_with fail
  refine (known w HT.out).mono ?_
  rintro e w1 ⟨rfl, k1⟩
  have B1 := Lib.hid k1
  clear k1
  by_cases hs : s.size ≤ 400
  · by_cases hn : n ≤ 100
    · have hs1 : (s.size : Int) ≤ 400 := by omega
      have hn1 : (n : Int) ≤ 100 := by omega
      go_upto_region 4 with fail
      go_wp2_with fail
      refine (near A ln cp zs w1 (HI.out.bel B1.out) HL.out HZ.out).mono ?_
      rintro e w2 ⟨x, rfl, hx, hc, k2⟩
      have HX := Lib.hid hx
      have HC := Lib.hid hc
      obtain ⟨D, hD⟩ : ∃ D, D = recC x := ⟨_, rfl⟩
      have DL := Lib.hid (show D.length = 11 by rw [hD]; rfl)
      have DO := Lib.hid (all_oneCell_toArray (cs := D) (by rw [hD]; exact recC_cells _))
      have iP := Lib.hid (show (Tryd.prog.info? 26).map (·.size) = some D.length by rw [DL.out]; exact info_rec)
      have uP := Tryd.underlying26
      obtain ⟨t1, t2⟩ := store_rec (z := x) (y := fun _ => 0) (Blk.new w2 _ _)
      rw [← hD] at t1 t2
      rw [← hD]
      have HDD := Lib.hid hD
      have T1 := Lib.hid t1
      obtain ⟨d, hd⟩ : ∃ d, w2.heap.size = d := ⟨_, rfl⟩
      obtain ⟨V, hV⟩ : ∃ V, (w2.alloc (.cells #[.int .i64 0, .int .i64 0, .int .i64 0, .int .i64 0, .int .i64 0, .int .i64 0, .int .i64 0, .int .u64 0, .int .u64 0, .int .i64 0, .int .u64 0] 26)).setCells d 0 D = V := ⟨_, rfl⟩
      have t2' : Blk ((w2.alloc (.cells #[.int .i64 0, .int .i64 0, .int .i64 0, .int .i64 0, .int .i64 0, .int .i64 0, .int .i64 0, .int .u64 0, .int .u64 0, .int .i64 0, .int .u64 0] 26)).setCells w2.heap.size 0 D) w2.heap.size D.toArray 26 := t2
      rw [hd, hV] at t2'
      have BV := Lib.hid (show Bel w V from (B1.out.trans k2).trans (by rw [← hV]; exact bel_setCells ((Bel.refl w2).alloc _) (by rw [hd]; exact Nat.le_refl _) 0 D))
      have RV := Lib.hid (rngB t2')
      have HV := Lib.hid hV
      have Hd := Lib.hid hd
      clear t1 t2 t2' hV hd hx hc hD k2 B1
      go_upto_region 5 with (refine wpList_store_mid rfl 26 (.tmp 8) (.tmp 32) rfl w2.heap.size 0 D.toArray rfl rfl T1.out (by rw [List.size_toArray, DL.out]; exact info_rec) DO.out ?_)
      rw [Hd.out, HV.out]
      clear T1 HV Hd
      have TX := Lib.hid (fun (U : World) (h : Tab U) => text x HX.out U h)
      have BY := Lib.hid (fun (U : World) => bytes x HX.out U)
      rw [← HDD.out] at TX BY
      go_wp2_with ((with_reducible refine wpList_load_mid ?_ 26 (.tmp 8) ?_ d 0 ?_ D _ RV.out uP ?_ iP.out ?_); rfl; rfl; rfl; rfl)
      refine (TX.out V (HT.out.bel BV.out)).mono ?_
      rintro e v3 ⟨sx, ax, rfl, htx, k3⟩
      obtain ⟨rfl, hsx⟩ := txt_ok HC.out htx
      have B3 := Lib.hid (BV.out.trans k3)
      have R3 := Lib.hid (rng_bel RV.out k3)
      have HSX := Lib.hid hsx
      clear htx k3 BV RV TX hsx
      go_wp2_with ((with_reducible refine wpList_load_mid ?_ 26 (.tmp 8) ?_ d 0 ?_ D _ R3.out uP ?_ iP.out ?_); rfl; rfl; rfl; rfl)
      refine (BY.out v3).mono ?_
      rintro e v4 ⟨vb, zb, ab, rfl, hby, hfr⟩
      obtain ⟨rfl, hzb⟩ := byt_ok HC.out hby
      obtain ⟨A4, c4, rfl, hsl⟩ := hfr.sl
      have B4 := Lib.hid (B3.out.trans hfr.2)
      have R4 := Lib.hid (rng_bel R3.out hfr.2)
      have S4 := Lib.hid hsl
      have HZB := Lib.hid hzb
      clear hby hfr hsl B3 R3 BY hzb
      have PX := Lib.hid (show ∀ U : World, Calls Tryd.prog 16 #[.string sx] U fun e w' => e = .returned (.tuple #[.agg D.toArray, .agg #[.int .i64 0, .int .i64 0]]) ∧ Bel U w' from fun U => (parseP sx (by rw [HSX.out]; have := text_size x (fun i hi => by have := (ok_b HX.out HC.out i hi).2.1; omega) 11 (Nat.le_refl _); omega) U).mono fun e w' h => by
        obtain ⟨y, a, b, h1, h2, h3⟩ := h
        rw [HSX.out, prs_own HX.out HC.out] at h2
        injection h2 with h2 h4
        injection h4 with h4 h5
        subst h2
        subst h4
        subst h5
        rw [preX_rec, ← HDD.out] at h1
        exact ⟨h1, h3⟩)
      go_wp2_with fail
      refine (PX.out v4).mono ?_
      rintro e v5 ⟨rfl, k5⟩
      have B5 := Lib.hid (B4.out.trans k5)
      have R5 := Lib.hid (rng_bel R4.out k5)
      have S5 := Lib.hid (S4.out.bel k5)
      clear k5 B4 R4 S4 PX
      have hp := new7 v5 D [.int .i64 0, .int .i64 0] DL.out rfl #[.int .i64 0, .int .i64 0, .int .i64 0, .int .i64 0, .int .i64 0, .int .i64 0, .int .i64 0, .int .u64 0, .int .u64 0, .int .i64 0, .int .u64 0] rfl #[.int .i64 0, .int .i64 0] rfl
      obtain ⟨V6, hV6⟩ : ∃ V6, (((v5.alloc (.cells #[.int .i64 0, .int .i64 0, .int .i64 0, .int .i64 0, .int .i64 0, .int .i64 0, .int .i64 0, .int .u64 0, .int .u64 0, .int .i64 0, .int .u64 0] 26)).alloc (.cells #[.int .i64 0, .int .i64 0] 47)).setCells v5.heap.size 0 D).setCells (v5.heap.size + 1) 0 [.int .i64 0, .int .i64 0] = V6 := ⟨_, rfl⟩
      rw [hV6] at hp
      have H6 := Lib.hid hp
      have HV6 := Lib.hid hV6
      clear hp hV6
      go_upto_region 8 with (first | ((with_reducible refine wpList_store_mid ?_ 26 (.tmp 13) (.tmp 46) ?_ v5.heap.size 0 D.toArray ?_ ?_ ?_ (by rw [List.size_toArray, DL.out]; exact info_rec) DO.out ?_); rfl; rfl; rfl; rfl; (first | exact H6.out.t1 | simpa using H6.out.t1)) | ((with_reducible refine wpList_store_mid ?_ 47 (.tmp 14) (.tmp 47) ?_ (v5.heap.size + 1) 0 [.int .i64 0, .int .i64 0].toArray ?_ ?_ ?_ ?_ ?_ ?_); rfl; rfl; rfl; rfl; (first | exact H6.out.t2 | simpa using H6.out.t2); exact info_flt7; exact FOK _ _))
      rw [HV6.out]
      have B6 := Lib.hid (B5.out.trans H6.out.bel)
      have R6 := Lib.hid (rng_bel R5.out H6.out.bel)
      have S6 := Lib.hid (S5.out.bel H6.out.bel)
      have BA6 := Lib.hid H6.out.ba
      have BB6 := Lib.hid H6.out.bb
      obtain ⟨a6, ha6⟩ : ∃ a6, v5.heap.size = a6 := ⟨_, rfl⟩
      have L6 := Lib.hid (show v5.heap.size ≤ a6 by omega)
      rw [ha6] at BA6 BB6
      rw [ha6]
      obtain ⟨b6, hb6⟩ : ∃ b6, a6 + 1 = b6 := ⟨_, rfl⟩
      have N6 := Lib.hid (show a6 ≠ b6 by omega)
      have L6b := Lib.hid (show v5.heap.size ≤ b6 by omega)
      rw [hb6] at BB6
      rw [hb6]
      clear ha6 hb6 HV6 H6 R5 S5
      have hlen : zb.length ≤ 1000 := by rw [HZB.out]; have := encs_len x 11; omega
      have RX := Lib.hid (show ∀ U : World, Sl U A4 zb.length c4 zb → Calls Tryd.prog 17 #[.slice A4 zb.length c4] U fun e w' => e = .returned (.tuple #[.agg D.toArray, .agg #[.int .i64 0, .int .i64 0]]) ∧ Bel U w' from fun U hU => by
        have hT := bytes_back HX.out HC.out
        have hbz : Cd.Bytes zb := by rw [HZB.out]; exact encs_bytes HX.out HC.out
        rw [← HZB.out] at hT
        refine (readP A4 zb.length c4 zb U (slc hU) (by omega) hbz _ _ _ hT).mono fun e w' h => ?_
        obtain ⟨h1, h2⟩ := h
        have h0 : Cd.endOf zb.length zb.length none = (0, 0) := by unfold Cd.endOf; rw [if_neg (by omega)]
        rw [h0] at h1
        simp only [if_true] at h1
        rw [preX_rec, ← HDD.out] at h1
        exact ⟨h1, h2⟩)
      go_wp2_with fail
      refine (RX.out V6 S6.out).mono ?_
      rintro e v7 ⟨rfl, k7⟩
      have B7 := Lib.hid (B6.out.trans k7)
      have R7 := Lib.hid (rng_bel R6.out k7)
      have BA7 := Lib.hid (BA6.out.bel k7)
      have BB7 := Lib.hid (BB6.out.bel k7)
      have K7 := Lib.hid (show Bel V6 v7 from k7)
      have la7 := Lib.hid BA7.out.lt
      have lb7 := Lib.hid BB7.out.lt
      clear k7 B6 R6 S6 BA6 BB6 RX hlen
      have hp := new7 v7 D [.int .i64 0, .int .i64 0] DL.out rfl #[.int .i64 0, .int .i64 0, .int .i64 0, .int .i64 0, .int .i64 0, .int .i64 0, .int .i64 0, .int .u64 0, .int .u64 0, .int .i64 0, .int .u64 0] rfl #[.int .i64 0, .int .i64 0] rfl
      obtain ⟨V8, hV8⟩ : ∃ V8, (((v7.alloc (.cells #[.int .i64 0, .int .i64 0, .int .i64 0, .int .i64 0, .int .i64 0, .int .i64 0, .int .i64 0, .int .u64 0, .int .u64 0, .int .i64 0, .int .u64 0] 26)).alloc (.cells #[.int .i64 0, .int .i64 0] 47)).setCells v7.heap.size 0 D).setCells (v7.heap.size + 1) 0 [.int .i64 0, .int .i64 0] = V8 := ⟨_, rfl⟩
      rw [hV8] at hp
      have H8 := Lib.hid hp
      have HV8 := Lib.hid hV8
      clear hp hV8
      go_upto_region 9 with (first | ((with_reducible refine wpList_store_mid ?_ 26 (.tmp 15) (.tmp 51) ?_ v7.heap.size 0 D.toArray ?_ ?_ ?_ (by rw [List.size_toArray, DL.out]; exact info_rec) DO.out ?_); rfl; rfl; rfl; rfl; (first | exact H8.out.t1 | simpa using H8.out.t1)) | ((with_reducible refine wpList_store_mid ?_ 47 (.tmp 16) (.tmp 52) ?_ (v7.heap.size + 1) 0 [.int .i64 0, .int .i64 0].toArray ?_ ?_ ?_ ?_ ?_ ?_); rfl; rfl; rfl; rfl; (first | exact H8.out.t2 | simpa using H8.out.t2); exact info_flt7; exact FOK _ _))
      rw [HV8.out]
      have B8 := Lib.hid (B7.out.trans H8.out.bel)
      have R8 := Lib.hid (rng_bel R7.out H8.out.bel)
      have A13 := Lib.hid (BA7.out.bel H8.out.bel)
      have A14 := Lib.hid (BB7.out.bel H8.out.bel)
      have A15 := Lib.hid H8.out.ba
      have A16 := Lib.hid H8.out.bb
      obtain ⟨a8, ha8⟩ : ∃ a8, v7.heap.size = a8 := ⟨_, rfl⟩
      rw [ha8] at A15 A16
      rw [ha8]
      obtain ⟨b8, hb8⟩ : ∃ b8, a8 + 1 = b8 := ⟨_, rfl⟩
      rw [hb8] at A16
      rw [hb8]
      have NN := Lib.hid (show a8 ≠ b8 ∧ a8 ≠ a6 ∧ a8 ≠ b6 ∧ b8 ≠ a6 ∧ b8 ≠ b6 by have := la7.out; have := lb7.out; omega)
      have LL := Lib.hid (show w.heap.size ≤ a6 ∧ w.heap.size ≤ b6 ∧ w.heap.size ≤ a8 ∧ w.heap.size ≤ b8 by have := Below.size B5.out; have := Below.size B7.out; have := L6.out; have := L6b.out; omega)
      clear ha8 hb8 HV8 H8 R7 BA7 BB7 K7 la7 lb7 L6 L6b B5 B7
      have q13 := Lib.hid (rngB A13.out)
      have q14 := Lib.hid (show V8.rangeAt b6 0 [.int .i64 0, .int .i64 0] from rngB A14.out)
      have q15 := Lib.hid (rngB A15.out)
      have q16 := Lib.hid (show V8.rangeAt b8 0 [.int .i64 0, .int .i64 0] from rngB A16.out)
      have uF := Tryd.underlying47
      have iF := Lib.hid (show (Tryd.prog.info? 47).map (·.size) = some ([.int .i64 0, .int .i64 0] : List Value).length from info_flt7)
      have ND := Lib.hid (neq_rec x)
      rw [← HDD.out] at ND
      have NF := Lib.hid neq_flt
      go_upto_region 11 with (first | ((with_reducible refine wpList_load_g ?_ 47 (.tmp 14) ?_ b6 0 ?_ [.int .i64 0, .int .i64 0] _ q14.out uF ?_ iF.out ?_); rfl; rfl; rfl; rfl) | ((with_reducible refine wpList_load_g ?_ 47 (.tmp 16) ?_ b8 0 ?_ [.int .i64 0, .int .i64 0] _ q16.out uF ?_ iF.out ?_); rfl; rfl; rfl; rfl) | ((with_reducible refine wpList_load_g ?_ 26 (.tmp 13) ?_ a6 0 ?_ D _ q13.out uP ?_ iP.out ?_); rfl; rfl; rfl; rfl) | ((with_reducible refine wpList_load_g ?_ 26 (.tmp 8) ?_ d 0 ?_ D _ R8.out uP ?_ iP.out ?_); rfl; rfl; rfl; rfl) | ((with_reducible refine wpList_load_g ?_ 26 (.tmp 15) ?_ a8 0 ?_ D _ q15.out uP ?_ iP.out ?_); rfl; rfl; rfl; rfl) | (refine wpList_val (by rfl) (.bool false) (fun w => exec_neq7 rfl D.toArray D.toArray rfl rfl (by kernel_rfl) (fun w => ND.out w) w) ?_) | (refine wpList_val (by rfl) (.bool false) (fun w => exec_neq7 rfl #[.int .i64 0, .int .i64 0] #[.int .i64 0, .int .i64 0] rfl rfl (by kernel_rfl) (fun w => NF.out w) w) ?_))
      have DA := Lib.hid (show D.toArray.size = 11 by rw [List.size_toArray]; exact DL.out)
      clear q13 q14 q15 q16 ND NF R8
      go_wp2_with fail
      refine (parseP s (by omega) V8).mono ?_
      rintro e v9 ⟨y, pa, pb, rfl, hprs, k9⟩
      obtain ⟨Y, hY⟩ : ∃ Y, Y = recC y := ⟨_, rfl⟩
      rw [← hY]
      have HYY := Lib.hid hY
      have YL := Lib.hid (show Y.length = 11 by rw [hY]; rfl)
      have YO := Lib.hid (all_oneCell_toArray (cs := Y) (by rw [hY]; exact recC_cells _))
      have iY := Lib.hid (show (Tryd.prog.info? 26).map (·.size) = some Y.length by rw [YL.out]; exact info_rec)
      have hp := put7 (V0 := w) (B8.out.trans k9) LL.out.1 LL.out.2.1 N6.out (A13.out.bel k9) DA.out (A14.out.bel k9) rfl Y [.int .i64 pa, .int .i64 pb] YL.out rfl
      have A15a := Lib.hid (hp.kep NN.out.2.1 NN.out.2.2.1 (A15.out.bel k9))
      have A16a := Lib.hid (hp.kep NN.out.2.2.2.1 NN.out.2.2.2.2 (A16.out.bel k9))
      obtain ⟨V10, hV10⟩ : ∃ V10, (v9.setCells a6 0 Y).setCells b6 0 [.int .i64 pa, .int .i64 pb] = V10 := ⟨_, rfl⟩
      rw [hV10] at hp A15a A16a
      have H10 := Lib.hid hp
      have HV10 := Lib.hid hV10
      have HPR := Lib.hid hprs
      clear hp hV10 hY hprs k9 A15 A16 A13 A14 B8
      go_upto_region 12 with (first | ((with_reducible refine wpList_store_mid ?_ 26 (.tmp 13) (.tmp 82) ?_ a6 0 Y.toArray ?_ ?_ ?_ (by rw [List.size_toArray, YL.out]; exact info_rec) YO.out ?_); rfl; rfl; rfl; rfl; (first | exact H10.out.t1 | simpa using H10.out.t1)) | ((with_reducible refine wpList_store_mid ?_ 47 (.tmp 14) (.tmp 83) ?_ b6 0 [.int .i64 pa, .int .i64 pb].toArray ?_ ?_ ?_ ?_ ?_ ?_); rfl; rfl; rfl; rfl; (first | exact H10.out.t2 | simpa using H10.out.t2); exact info_flt7; exact FOK _ _))
      rw [HV10.out]
      have B10 := Lib.hid H10.out.bel
      have q13 := Lib.hid (rngB H10.out.ba)
      have c14 : V10.cell? ⟨b6, 0, none⟩ = some (.int .i64 pa) := H10.out.bb.cell 0 rfl
      clear H10 HV10
      by_cases hpa : pa = 0
      · subst hpa
        obtain ⟨ky, cy, ty⟩ := prs_back HPR.out
        have TXY := Lib.hid (fun (U : World) (h : Tab U) => text y ky U h)
        rw [← HYY.out] at TXY
        have HKY := Lib.hid ky
        have HCY := Lib.hid cy
        have HTY := Lib.hid ty
        clear ky cy ty
        go_wp2_with ((with_reducible refine wpList_load_mid ?_ 26 (.tmp 13) ?_ a6 0 ?_ Y _ q13.out uP ?_ iY.out ?_); rfl; rfl; rfl; rfl)
        refine (TXY.out V10 (HT.out.bel B10.out)).mono ?_
        rintro e v11 ⟨s2, a2, rfl, ht, k11⟩
        obtain ⟨rfl, hs2⟩ := txt_ok HCY.out ht
        obtain rfl : s2 = s := hs2.trans HTY.out
        have B11 := Lib.hid (B10.out.trans k11)
        have A15b := Lib.hid (A15a.out.bel k11)
        have A16b := Lib.hid (A16a.out.bel k11)
        clear ht hs2 k11 TXY c14 A15a A16a B10
        obtain ⟨v, hv⟩ : ∃ v, v11 = v := ⟨_, rfl⟩
        rw [hv] at B11 A15b A16b
        rw [hv]
        clear hv
        obtain ⟨xe, ke, fe, hT, hfe⟩ := read_of bz HBZ.out
        have RD := readP B n c bz v (slc (HB.out.bel B11.out)) (by omega) HBZ.out xe ke fe hT
        unfold ReadE at RD
        by_cases he : (Cd.endOf bz.length ke fe).1 = 0
        · simp only [he, if_true] at RD
          obtain ⟨hbz2, kx, cx⟩ := hfe he
          obtain ⟨R, hR⟩ : ∃ R, R = recC xe := ⟨_, rfl⟩
          rw [← hR] at RD
          have HRD := Lib.hid RD
          have RL := Lib.hid (show R.length = 11 by rw [hR]; rfl)
          have RO := Lib.hid (all_oneCell_toArray (cs := R) (by rw [hR]; exact recC_cells _))
          have iR := Lib.hid (show (Tryd.prog.info? 26).map (·.size) = some R.length by rw [RL.out]; exact info_rec)
          have BXE := Lib.hid (fun (U : World) => bytes xe kx U)
          rw [← hR] at BXE
          have HCX := Lib.hid cx
          have HBB := Lib.hid hbz2
          clear RD hT hfe he hR kx cx hbz2
          go_wp2_with fail
          refine HRD.out.mono ?_
          rintro e v12 ⟨rfl, k12⟩
          have hp := put7 (V0 := w) (B11.out.trans k12) LL.out.2.2.1 LL.out.2.2.2 NN.out.1 (A15b.out.bel k12) DA.out (A16b.out.bel k12) rfl R [.int .i64 0, .int .i64 0] RL.out rfl
          obtain ⟨V13, hV13⟩ : ∃ V13, (v12.setCells a8 0 R).setCells b8 0 [.int .i64 0, .int .i64 0] = V13 := ⟨_, rfl⟩
          rw [hV13] at hp
          have H13 := Lib.hid hp
          have HV13 := Lib.hid hV13
          clear hp hV13 k12 A15b A16b HRD
          go_upto_region 16 with (first | ((with_reducible refine wpList_store_mid ?_ 26 (.tmp 15) (.tmp 105) ?_ a8 0 R.toArray ?_ ?_ ?_ (by rw [List.size_toArray, RL.out]; exact info_rec) RO.out ?_); rfl; rfl; rfl; rfl; (first | exact H13.out.t1 | simpa using H13.out.t1)) | ((with_reducible refine wpList_store_mid ?_ 47 (.tmp 16) (.tmp 106) ?_ b8 0 [.int .i64 0, .int .i64 0].toArray ?_ ?_ ?_ ?_ ?_ ?_); rfl; rfl; rfl; rfl; (first | exact H13.out.t2 | simpa using H13.out.t2); exact info_flt7; exact FOK _ _))
          rw [HV13.out]
          have B13 := Lib.hid H13.out.bel
          have q15 := Lib.hid (rngB H13.out.ba)
          have c16 : V13.cell? ⟨b8, 0, none⟩ = some (.int .i64 0) := H13.out.bb.cell 0 rfl
          clear H13 HV13
          go_wp2_with ((with_reducible refine wpList_load_mid ?_ 26 (.tmp 15) ?_ a8 0 ?_ R _ q15.out uP ?_ iR.out ?_); rfl; rfl; rfl; rfl)
          refine (BXE.out V13).mono ?_
          rintro e v14 ⟨vb2, zb2, ab2, rfl, hby, hfr⟩
          obtain ⟨rfl, hzb2⟩ := byt_ok HCX.out hby
          obtain ⟨A5, c5, rfl, hsl⟩ := hfr.sl
          obtain rfl : zb2 = bz := hzb2.trans HBB.out.symm
          have B14 := Lib.hid (B13.out.trans hfr.2)
          have S14 := Lib.hid hsl
          clear hby hfr hsl hzb2 c16
          go_wp2_with fail
          refine (same A5 B _ c5 n c _ v14 S14.out.ints (HB.out.ints.bel B14.out)).mono ?_
          rintro e v15 ⟨rfl, rfl⟩
          go_wp2_with fail
          go_ret
          exact ⟨rfl, B14.out⟩
        · simp only [he, if_false] at RD
          obtain ⟨fa, hfa⟩ : ∃ fa, (Cd.endOf bz.length ke fe).1 = fa := ⟨_, rfl⟩
          obtain ⟨fb, hfb⟩ : ∃ fb, (Cd.endOf bz.length ke fe).2 = fb := ⟨_, rfl⟩
          obtain ⟨R, hR⟩ : ∃ R, R = recC zr := ⟨_, rfl⟩
          rw [hfa, hfb, ← hR] at RD
          have hne : (fa == 0) = false := by rw [← hfa]; simpa using he
          have HRD := Lib.hid RD
          have RL := Lib.hid (show R.length = 11 by rw [hR]; rfl)
          have RO := Lib.hid (all_oneCell_toArray (cs := R) (by rw [hR]; exact recC_cells _))
          clear RD hT hfe he hR hfa hfb
          go_wp2_with fail
          refine HRD.out.mono ?_
          rintro e v12 ⟨rfl, k12⟩
          have hp := put7 (V0 := w) (B11.out.trans k12) LL.out.2.2.1 LL.out.2.2.2 NN.out.1 (A15b.out.bel k12) DA.out (A16b.out.bel k12) rfl R [.int .i64 fa, .int .i64 fb] RL.out rfl
          obtain ⟨V13, hV13⟩ : ∃ V13, (v12.setCells a8 0 R).setCells b8 0 [.int .i64 fa, .int .i64 fb] = V13 := ⟨_, rfl⟩
          rw [hV13] at hp
          have H13 := Lib.hid hp
          have HV13 := Lib.hid hV13
          clear hp hV13 k12 A15b A16b HRD
          go_upto_region 16 with (first | ((with_reducible refine wpList_store_mid ?_ 26 (.tmp 15) (.tmp 105) ?_ a8 0 R.toArray ?_ ?_ ?_ (by rw [List.size_toArray, RL.out]; exact info_rec) RO.out ?_); rfl; rfl; rfl; rfl; (first | exact H13.out.t1 | simpa using H13.out.t1)) | ((with_reducible refine wpList_store_mid ?_ 47 (.tmp 16) (.tmp 106) ?_ b8 0 [.int .i64 fa, .int .i64 fb].toArray ?_ ?_ ?_ ?_ ?_ ?_); rfl; rfl; rfl; rfl; (first | exact H13.out.t2 | simpa using H13.out.t2); exact info_flt7; exact FOK _ _))
          rw [HV13.out]
          have B13 := Lib.hid H13.out.bel
          have c16 : V13.cell? ⟨b8, 0, none⟩ = some (.int .i64 fa) := H13.out.bb.cell 0 rfl
          clear H13 HV13
          go_wp2_with fail
          go_ret
          exact ⟨rfl, B13.out⟩
      · have hpb : (pa == 0) = false := by simpa using hpa
        have B11 := Lib.hid B10.out
        have A15b := Lib.hid A15a.out
        have A16b := Lib.hid A16a.out
        clear A15a A16a B10
        obtain ⟨v, hv⟩ : ∃ v, V10 = v := ⟨_, rfl⟩
        rw [hv] at B11 A15b A16b c14
        rw [hv]
        clear hv
        obtain ⟨xe, ke, fe, hT, hfe⟩ := read_of bz HBZ.out
        have RD := readP B n c bz v (slc (HB.out.bel B11.out)) (by omega) HBZ.out xe ke fe hT
        unfold ReadE at RD
        by_cases he : (Cd.endOf bz.length ke fe).1 = 0
        · simp only [he, if_true] at RD
          obtain ⟨hbz2, kx, cx⟩ := hfe he
          obtain ⟨R, hR⟩ : ∃ R, R = recC xe := ⟨_, rfl⟩
          rw [← hR] at RD
          have HRD := Lib.hid RD
          have RL := Lib.hid (show R.length = 11 by rw [hR]; rfl)
          have RO := Lib.hid (all_oneCell_toArray (cs := R) (by rw [hR]; exact recC_cells _))
          have iR := Lib.hid (show (Tryd.prog.info? 26).map (·.size) = some R.length by rw [RL.out]; exact info_rec)
          have BXE := Lib.hid (fun (U : World) => bytes xe kx U)
          rw [← hR] at BXE
          have HCX := Lib.hid cx
          have HBB := Lib.hid hbz2
          clear RD hT hfe he hR kx cx hbz2
          go_wp2_with fail
          refine HRD.out.mono ?_
          rintro e v12 ⟨rfl, k12⟩
          have hp := put7 (V0 := w) (B11.out.trans k12) LL.out.2.2.1 LL.out.2.2.2 NN.out.1 (A15b.out.bel k12) DA.out (A16b.out.bel k12) rfl R [.int .i64 0, .int .i64 0] RL.out rfl
          obtain ⟨V13, hV13⟩ : ∃ V13, (v12.setCells a8 0 R).setCells b8 0 [.int .i64 0, .int .i64 0] = V13 := ⟨_, rfl⟩
          rw [hV13] at hp
          have H13 := Lib.hid hp
          have HV13 := Lib.hid hV13
          clear hp hV13 k12 A15b A16b HRD
          go_upto_region 16 with (first | ((with_reducible refine wpList_store_mid ?_ 26 (.tmp 15) (.tmp 105) ?_ a8 0 R.toArray ?_ ?_ ?_ (by rw [List.size_toArray, RL.out]; exact info_rec) RO.out ?_); rfl; rfl; rfl; rfl; (first | exact H13.out.t1 | simpa using H13.out.t1)) | ((with_reducible refine wpList_store_mid ?_ 47 (.tmp 16) (.tmp 106) ?_ b8 0 [.int .i64 0, .int .i64 0].toArray ?_ ?_ ?_ ?_ ?_ ?_); rfl; rfl; rfl; rfl; (first | exact H13.out.t2 | simpa using H13.out.t2); exact info_flt7; exact FOK _ _))
          rw [HV13.out]
          have B13 := Lib.hid H13.out.bel
          have q15 := Lib.hid (rngB H13.out.ba)
          have c16 : V13.cell? ⟨b8, 0, none⟩ = some (.int .i64 0) := H13.out.bb.cell 0 rfl
          clear H13 HV13
          go_wp2_with ((with_reducible refine wpList_load_mid ?_ 26 (.tmp 15) ?_ a8 0 ?_ R _ q15.out uP ?_ iR.out ?_); rfl; rfl; rfl; rfl)
          refine (BXE.out V13).mono ?_
          rintro e v14 ⟨vb2, zb2, ab2, rfl, hby, hfr⟩
          obtain ⟨rfl, hzb2⟩ := byt_ok HCX.out hby
          obtain ⟨A5, c5, rfl, hsl⟩ := hfr.sl
          obtain rfl : zb2 = bz := hzb2.trans HBB.out.symm
          have B14 := Lib.hid (B13.out.trans hfr.2)
          have S14 := Lib.hid hsl
          clear hby hfr hsl hzb2 c16
          go_wp2_with fail
          refine (same A5 B _ c5 n c _ v14 S14.out.ints (HB.out.ints.bel B14.out)).mono ?_
          rintro e v15 ⟨rfl, rfl⟩
          go_wp2_with fail
          go_ret
          exact ⟨rfl, B14.out⟩
        · simp only [he, if_false] at RD
          obtain ⟨fa, hfa⟩ : ∃ fa, (Cd.endOf bz.length ke fe).1 = fa := ⟨_, rfl⟩
          obtain ⟨fb, hfb⟩ : ∃ fb, (Cd.endOf bz.length ke fe).2 = fb := ⟨_, rfl⟩
          obtain ⟨R, hR⟩ : ∃ R, R = recC zr := ⟨_, rfl⟩
          rw [hfa, hfb, ← hR] at RD
          have hne : (fa == 0) = false := by rw [← hfa]; simpa using he
          have HRD := Lib.hid RD
          have RL := Lib.hid (show R.length = 11 by rw [hR]; rfl)
          have RO := Lib.hid (all_oneCell_toArray (cs := R) (by rw [hR]; exact recC_cells _))
          clear RD hT hfe he hR hfa hfb
          go_wp2_with fail
          refine HRD.out.mono ?_
          rintro e v12 ⟨rfl, k12⟩
          have hp := put7 (V0 := w) (B11.out.trans k12) LL.out.2.2.1 LL.out.2.2.2 NN.out.1 (A15b.out.bel k12) DA.out (A16b.out.bel k12) rfl R [.int .i64 fa, .int .i64 fb] RL.out rfl
          obtain ⟨V13, hV13⟩ : ∃ V13, (v12.setCells a8 0 R).setCells b8 0 [.int .i64 fa, .int .i64 fb] = V13 := ⟨_, rfl⟩
          rw [hV13] at hp
          have H13 := Lib.hid hp
          have HV13 := Lib.hid hV13
          clear hp hV13 k12 A15b A16b HRD
          go_upto_region 16 with (first | ((with_reducible refine wpList_store_mid ?_ 26 (.tmp 15) (.tmp 105) ?_ a8 0 R.toArray ?_ ?_ ?_ (by rw [List.size_toArray, RL.out]; exact info_rec) RO.out ?_); rfl; rfl; rfl; rfl; (first | exact H13.out.t1 | simpa using H13.out.t1)) | ((with_reducible refine wpList_store_mid ?_ 47 (.tmp 16) (.tmp 106) ?_ b8 0 [.int .i64 fa, .int .i64 fb].toArray ?_ ?_ ?_ ?_ ?_ ?_); rfl; rfl; rfl; rfl; (first | exact H13.out.t2 | simpa using H13.out.t2); exact info_flt7; exact FOK _ _))
          rw [HV13.out]
          have B13 := Lib.hid H13.out.bel
          have c16 : V13.cell? ⟨b8, 0, none⟩ = some (.int .i64 fa) := H13.out.bb.cell 0 rfl
          clear H13 HV13
          go_wp2_with fail
          go_ret
          exact ⟨rfl, B13.out⟩
    · have hn1 : ¬ (n : Int) ≤ 100 := by omega
      have hs1 : (s.size : Int) ≤ 400 := by omega
      go_wp2_with fail
      go_ret
      exact ⟨rfl, B1.out⟩
  · have hs1 : ¬ (s.size : Int) ≤ 400 := by omega
    go_wp2_with fail
    go_ret
    exact ⟨rfl, B1.out⟩
theorem backLaw (A : Option Addr) (ln cp : Nat) (zs : List Int) (s : ByteArray) (B : Option Addr) (n c : Nat) (bz : List Int) (w : World) (hi : Ints .i64 w A ln zs) (hz : ∀ z ∈ zs, -9223372036854775808 ≤ z ∧ z ≤ 9223372036854775807) (hl : ln ≤ maxLen)
    (hb : Sl w B n c bz) (hbz : ∀ z ∈ bz, 0 ≤ z ∧ z ≤ 255) (hm : c ≤ maxLen) (htab : Tab w) :
    Calls Tryd.prog 4 #[.slice A ln cp, .string s, .slice B n c] w fun e w' => e = .returned (.bool true) ∧ Bel w w' := back_ A ln cp zs s B n c bz w hi hl hz hb hbz htab
end Pm
end Go.Proofs.YtkblbcdinibncaaDoor
