/-
  What the statements' checks and awake answer. Condition: the library's table of powers of ten is as the program's text lays it.
-/
import Derived.Test.YtpohcdfmkcfonaaGreatDoorGPAw0
namespace Go.Proofs.YtpohcdfmkcfonaaGreatDoor
open Go.RowKit Go.Shelf Go.Sort
set_option linter.unusedVariables false
namespace Pm
open Kk

set_option maxRecDepth 100000 in
set_option maxHeartbeats 1000000 in
theorem checksT (x : Nat → Int) (hx : Kinds x) (a b : Int) (hc : Chk x a b) (w : World) : Calls Tryz.prog 17 #[.agg (recC x).toArray, .int .i64 a, .int .i64 b] w fun e w' => e = .returned (.bool true) ∧ Bel w w' := by
  obtain ⟨D, hD⟩ : ∃ D, D = recC x := ⟨_, rfl⟩
  obtain ⟨W, hW⟩ : ∃ W, w.alloc (.cells D.toArray 24) = W := ⟨_, rfl⟩
  have B0 := Lib.hid (show Bel w W by rw [← hW]; exact (Bel.refl w).alloc _)
  have R1 := Lib.hid (show W.rangeAt w.heap.size 0 D by rw [← hW]; exact rngB (Blk.new w D.toArray 24))
  have HDl := Lib.hid (show D.length = 11 by rw [hD]; rfl)
  have CK := Lib.hid (check x hx)
  rw [← hD] at CK
  rw [← hD]
  have HC := Lib.hid hc
  have HW := Lib.hid hW
  clear hx hD hW hc
  go_enter Tryz.func17, Tryz.ntmps17
  go_upto_region 1 with fail
  rw [HW.out]
  go_wp2_with (refine wpList_load_mid rfl 24 (.tmp 3) rfl w.heap.size 0 rfl D _ R1.out Tryz.underlying24 rfl (by rw [HDl.out]; exact info_rec) ?_)
  refine (CK.out W).mono ?_
  rintro e w1 ⟨c, d, rfl, hC, k1⟩
  have B1 : Hid (Bel W w1) := Lib.hid k1
  obtain ⟨rfl, rfl⟩ := hC.uniq HC.out
  clear k1 hC
  go_wp2
  go_ret
  exact ⟨by simp, B0.out.trans B1.out⟩

set_option maxRecDepth 100000 in
set_option maxHeartbeats 4000000 in
theorem awake (w : World) (htab : Tab w) : Calls Tryz.prog 4 #[] w fun e w' => e = .returned (.bool true) ∧ Bel w w' := by
  obtain ⟨E, hE⟩ : ∃ E, E = recC dv := ⟨_, rfl⟩
  have EI := Lib.hid (show (Tryz.prog.info? 24).map (·.size) = some E.length by rw [hE]; exact info_rec)
  have EI2 := Lib.hid (show (Tryz.prog.info? 24).map (·.size) = some E.toArray.size by rw [hE]; exact info_rec)
  have EO := Lib.hid (all_oneCell_toArray (cs := E) (by rw [hE]; exact recC_cells _))
  have HE := Lib.hid hE
  obtain ⟨Z, hZ⟩ : ∃ Z, Z = recC zr := ⟨_, rfl⟩
  have HZA := Lib.hid (show Z.toArray = #[.int .i64 0, .int .i64 0, .int .i64 0, .int .i64 0, .int .i64 0, .int .i64 0, .int .i64 0, .int .u64 0, .int .u64 0, .int .i64 0, .int .u64 0] by rw [hZ]; rfl)
  have DF := Lib.hid (default_ w)
  have GT := Lib.hid (get dv kinds_dv ⟨#[98, 97, 115, 101]⟩)
  have TX := Lib.hid (text dv kinds_dv)
  have BY := Lib.hid (bytes dv kinds_dv)
  have CD := Lib.hid (checksT dv kinds_dv 0 0 chk_dv)
  have CZ := Lib.hid (checksT zr kinds_zr 3 0 chk_zr)
  unfold RecE at DF
  rw [← hE] at DF GT TX BY CD
  rw [← hZ] at CZ
  rw [HZA.out] at CZ
  have HT := Lib.hid htab
  clear hE hZ htab
  go_enter Tryz.func4, Tryz.ntmps4
  go_wp2_with fail
  refine DF.out.mono ?_
  rintro e w1 ⟨rfl, k1⟩
  have B1 : Hid (Bel w w1) := Lib.hid k1
  clear k1
  obtain ⟨t1, t2⟩ := store_rec (z := dv) (y := fun _ => 0) (Blk.new w1 _ _)
  rw [← HE.out] at t1 t2
  have T1 := Lib.hid t1
  obtain ⟨d, hd⟩ : ∃ d, w1.heap.size = d := ⟨_, rfl⟩
  obtain ⟨V, hV⟩ : ∃ V, (w1.alloc (.cells #[.int .i64 0, .int .i64 0, .int .i64 0, .int .i64 0, .int .i64 0, .int .i64 0, .int .i64 0, .int .u64 0, .int .u64 0, .int .i64 0, .int .u64 0] 24)).setCells d 0 E = V := ⟨_, rfl⟩
  have t2' : Blk ((w1.alloc (.cells #[.int .i64 0, .int .i64 0, .int .i64 0, .int .i64 0, .int .i64 0, .int .i64 0, .int .i64 0, .int .u64 0, .int .u64 0, .int .i64 0, .int .u64 0] 24)).setCells w1.heap.size 0 E) w1.heap.size E.toArray 24 := t2
  rw [hd, hV] at t2'
  have BV := Lib.hid (show Bel w1 V by rw [← hV]; exact bel_setCells ((Bel.refl w1).alloc _) (by rw [hd]; exact Nat.le_refl _) 0 E)
  have KV := Lib.hid t2'
  have HV := Lib.hid hV
  have HD := Lib.hid hd
  clear t1 t2 t2' hV hd
  go_upto_region 2 with (refine wpList_store_mid rfl 24 (.tmp 1) (.tmp 8) rfl w1.heap.size 0 E.toArray rfl rfl T1.out EI2.out EO.out ?_)
  rw [HD.out, HV.out]
  have R2 := Lib.hid (rngB KV.out)
  go_wp2_with (refine wpList_load_mid rfl 24 (.tmp 1) rfl d 0 rfl E _ R2.out Tryz.underlying24 rfl EI.out ?_)
  refine (GT.out V).mono ?_
  rintro e w2 ⟨n, a, rfl, hg, k2⟩
  have B2 : Hid (Bel V w2) := Lib.hid k2
  have R3 := Lib.hid (rng_bel R2.out k2)
  obtain ⟨rfl, rfl⟩ := gt_base hg
  clear k2 hg
  go_wp2_with (refine wpList_load_mid rfl 24 (.tmp 1) rfl d 0 rfl E _ R3.out Tryz.underlying24 rfl EI.out ?_)
  refine (TX.out w2 (((HT.out.bel B1.out).bel BV.out).bel B2.out)).mono ?_
  rintro e w3 ⟨s, a, rfl, hs, k3⟩
  have B3 : Hid (Bel w2 w3) := Lib.hid k3
  have R4 := Lib.hid (rng_bel R3.out k3)
  obtain ⟨hs1, rfl⟩ := txt_dv hs
  have HS := Lib.hid hs1
  clear k3 hs hs1
  go_wp2_with (refine wpList_load_mid rfl 24 (.tmp 1) rfl d 0 rfl E _ R4.out Tryz.underlying24 rfl EI.out ?_)
  refine (BY.out w3).mono ?_
  rintro e w4 ⟨v, zs, a, rfl, hb, hf⟩
  have B4 : Hid (Bel w3 w4) := Lib.hid hf.2
  have R5 := Lib.hid (rng_bel R4.out hf.2)
  obtain ⟨hb1, rfl⟩ := byt_dv hb
  obtain ⟨A, c, rfl, hsl⟩ := hf.sl
  rw [hb1]
  clear hb hf hb1 hsl
  go_wp2_with (refine wpList_load_mid rfl 24 (.tmp 1) rfl d 0 rfl E _ R5.out Tryz.underlying24 rfl EI.out ?_)
  refine (CD.out w4).mono ?_
  rintro e w5 ⟨rfl, k5⟩
  have B5 : Hid (Bel w4 w5) := Lib.hid k5
  have hcell := (rng_bel R5.out k5) 0 (.int .i64 100) (by rw [HE.out]; rfl)
  rw [Nat.zero_add] at hcell
  have hsz : (s.size : Int) = 132 := by have := HS.out; omega
  clear k5
  go_wp2_with fail
  refine (CZ.out w5).mono ?_
  rintro e w6 ⟨rfl, k6⟩
  have B6 : Hid (Bel w5 w6) := Lib.hid k6
  clear k6
  go_wp2_with fail
  go_ret
  exact ⟨rfl, (((((B1.out.trans BV.out).trans B2.out).trans B3.out).trans B4.out).trans B5.out).trans B6.out⟩
end Pm
end Go.Proofs.YtpohcdfmkcfonaaGreatDoor
