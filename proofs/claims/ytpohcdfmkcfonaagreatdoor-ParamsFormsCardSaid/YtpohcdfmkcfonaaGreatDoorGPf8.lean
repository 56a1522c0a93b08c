/-
  The law ParamsForms: the texts, the bytes and what is read of any texts and bytes are the reference's.
  Conditions: the eleven numbers are of their kinds; the bytes are bytes; the library's table of powers of ten is as the program's text lays it.
-/
import Derived.Test.YtpohcdfmkcfonaaGreatDoorGPf4
import Derived.Test.YtpohcdfmkcfonaaGreatDoorGPf5
import Derived.Test.YtpohcdfmkcfonaaGreatDoorGPf6
import Derived.Test.YtpohcdfmkcfonaaGreatDoorGPf7
import Derived.Test.YtpohcdfmkcfonaaGreatDoorGPAwk
import Derived.Test.YtpohcdfmkcfonaaGreatDoorGPs7a
import Derived.Test.YtpohcdfmkcfonaaGreatDoorGPEq
namespace Go.Proofs.YtpohcdfmkcfonaaGreatDoor
open Go.RowKit Go.Shelf Go.Sort
set_option linter.unusedVariables false
namespace Pm
open Kk

theorem Txt.uniq {x : Nat → Int} {s t : ByteArray} {a b : Int} (h : Txt x s a) (k : Txt x t b) : s = t ∧ a = b := by
  rcases h with ⟨rfl, h1, h2⟩ | ⟨ha, h2, c, hc⟩
  · rcases k with ⟨rfl, k1, k2⟩ | ⟨kb, k2, d, kd⟩
    · exact ⟨h2.trans k2.symm, rfl⟩
    · exact absurd (kd.uniq h1).1 kb
  · rcases k with ⟨rfl, k1, k2⟩ | ⟨kb, k2, d, kd⟩
    · exact absurd (hc.uniq k1).1 ha
    · exact ⟨h2.trans k2.symm, (hc.uniq kd).1⟩
theorem Byt.uniq {x : Nat → Int} {s t : List Int} {a b : Int} (h : Byt x s a) (k : Byt x t b) : s = t ∧ a = b := by
  rcases h with ⟨rfl, h1, h2⟩ | ⟨ha, h2, c, hc⟩
  · rcases k with ⟨rfl, k1, k2⟩ | ⟨kb, k2, d, kd⟩
    · exact ⟨h2.trans k2.symm, rfl⟩
    · exact absurd (kd.uniq h1).1 kb
  · rcases k with ⟨rfl, k1, k2⟩ | ⟨kb, k2, d, kd⟩
    · exact absurd (hc.uniq k1).1 ha
    · exact ⟨h2.trans k2.symm, (hc.uniq kd).1⟩
theorem eqIn_fault (e p e' p' : Int) (W : World) : (Op.equalIn 10000 34 (.agg #[.int .i64 e, .int .i64 p]) (.agg #[.int .i64 e', .int .i64 p'])).run Tryz.prog W = .ok (e == e' && p == p') W := by
  have hS : Tryz.prog.underlying 34 = some (.struct (Tryz.prog.fieldsOf 34)) := by kernel_rfl
  rw [show (10000 : Nat) = 9999 + 1 from rfl, run_equalIn_struct W 9999 _ _ _ hS (by kernel_rfl)]
  simp only [Program.fieldsOf, Tryz.underlying34]
  have p1 : ∀ w, (part 27 #[Value.int .i64 e, .int .i64 p] 0).run Tryz.prog w = .ok (.int .i64 e) w := fun w => part0 Tryz.underlying27 rfl w
  have p2 : ∀ w, (part 27 #[Value.int .i64 e', .int .i64 p'] 0).run Tryz.prog w = .ok (.int .i64 e') w := fun w => part0 Tryz.underlying27 rfl w
  have p3 : ∀ w, (part 3 #[Value.int .i64 e, .int .i64 p] 1).run Tryz.prog w = .ok (.int .i64 p) w := fun w => part0 Tryz.underlying3 rfl w
  have p4 : ∀ w, (part 3 #[Value.int .i64 e', .int .i64 p'] 1).run Tryz.prog w = .ok (.int .i64 p') w := fun w => part0 Tryz.underlying3 rfl w
  have q1 : (Op.equalIn 9999 27 (.int .i64 e) (.int .i64 e')).run Tryz.prog W = .ok (e == e') W := run_equalIn_int W 9998 _ _ _ _ _ Tryz.underlying27
  have q2 : (Op.equalIn 9999 3 (.int .i64 p) (.int .i64 p')).run Tryz.prog W = .ok (p == p') W := run_equalIn_int W 9998 _ _ _ _ _ Tryz.underlying3
  simp only [Op.eqFields]
  cases hq : (e == e') <;> simp [Sem.run_ite, p1, p2, p3, p4, q1, q2, hq]
  by_cases h2 : p = p' <;> simp [h2]

theorem slc8 {W : World} {A : Option Addr} {n c : Nat} {zs : List Int} (h : Sl W A n c zs) : Cd.Sl W A n c zs := ⟨h.ints, h.cap, h.nil⟩
theorem eql_flt2 (a b : Int) (W : World) : (binOp .eql 34 (.agg #[.int .i64 a, .int .i64 b]) (.agg #[.int .i64 a, .int .i64 b])).run Tryz.prog W = .ok (.bool true) W := by
  rw [run_eql_struct, eqIn_fault]
  simp
set_option maxRecDepth 100000 in
set_option maxHeartbeats 16000000 in
theorem forms (x : Nat → Int) (hx : Kinds x) (s : ByteArray) (B : Option Addr) (n c : Nat) (bz : List Int) (w : World) (hb : Sl w B n c bz) (hbz : ∀ z ∈ bz, 0 ≤ z ∧ z ≤ 255) (htab : Tab w) :
    Calls Tryz.prog 3 #[.agg (recC x).toArray, .string s, .slice B n c] w fun e w' => e = .returned (.bool true) ∧ Bel w w' := by
  obtain ⟨D, hD⟩ : ∃ D, D = recC x := ⟨_, rfl⟩
  obtain ⟨W, hW⟩ : ∃ W, w.alloc (.cells D.toArray 24) = W := ⟨_, rfl⟩
  have B0 := Lib.hid (show Bel w W by rw [← hW]; exact (Bel.refl w).alloc _)
  have R0 := Lib.hid (show W.rangeAt w.heap.size 0 D by rw [← hW]; exact rngB (Blk.new w D.toArray 24))
  obtain ⟨p, hp⟩ : ∃ p, w.heap.size = p := ⟨_, rfl⟩
  rw [hp] at R0
  have DI := Lib.hid (show (Tryz.prog.info? 24).map (·.size) = some D.length by rw [hD]; exact info_rec)
  have TX := Lib.hid (fun (U : World) (h : Tab U) => text x hx U h)
  have TR := Lib.hid (fun (U : World) => textR x hx U)
  have BY := Lib.hid (fun (U : World) => bytes x hx U)
  have BR := Lib.hid (fun (U : World) => bytesR x hx U)
  rw [← hD] at TX TR BY BR
  rw [← hD]
  have HP := Lib.hid hp
  have HW := Lib.hid hW
  have HT := Lib.hid htab
  have HB := Lib.hid (hb.bel B0.out)
  have HBZ := Lib.hid (Cd.bytes_of hbz)
  clear hx hp hD hW htab hb hbz
  by_cases hs : 400 < s.size
  · go_enter Tryz.func3, Tryz.ntmps3
    have hs1 : (400 : Int) < (s.size : Int) := by omega
    go_upto_region 1 with fail
    rw [HW.out]
    go_wp2_with fail
    refine (awake W (HT.out.bel B0.out)).mono ?_
    rintro e w1 ⟨rfl, k1⟩
    have B1 : Hid (Bel W w1) := Lib.hid k1
    clear k1
    go_wp2_with fail
    go_ret
    exact ⟨rfl, B0.out.trans B1.out⟩
  by_cases hn : 100 < n
  · go_enter Tryz.func3, Tryz.ntmps3
    have hs1 : ¬ (400 : Int) < (s.size : Int) := by omega
    have hn1 : (100 : Int) < (n : Int) := by omega
    go_upto_region 1 with fail
    rw [HW.out]
    go_wp2_with fail
    refine (awake W (HT.out.bel B0.out)).mono ?_
    rintro e w1 ⟨rfl, k1⟩
    have B1 : Hid (Bel W w1) := Lib.hid k1
    clear k1
    go_wp2_with fail
    go_ret
    exact ⟨rfl, B0.out.trans B1.out⟩
  have HN := Lib.hid (show s.size ≤ 400 ∧ n ≤ 100 by omega)
  have hs1 : ¬ (400 : Int) < (s.size : Int) := by omega
  have hn1 : ¬ (100 : Int) < (n : Int) := by omega
  clear hs hn
  go_enter Tryz.func3, Tryz.ntmps3
  go_upto_region 1 with fail
  rw [HW.out, HP.out]
  go_wp2_with (refine wpList_load_mid rfl 24 (.tmp 3) rfl p 0 rfl D _ R0.out Tryz.underlying24 rfl DI.out ?_)
  refine (TX.out W (HT.out.bel B0.out)).mono ?_
  rintro e w1 ⟨s1, a1, rfl, ht1, k1⟩
  have B1 := Lib.hid (show Bel W w1 from k1)
  have R1 := Lib.hid (rng_bel R0.out k1)
  have X1 := Lib.hid ht1
  clear k1 ht1 R0 TX
  go_wp2_with (refine wpList_load_mid rfl 24 (.tmp 3) rfl p 0 rfl D _ R1.out Tryz.underlying24 rfl DI.out ?_)
  refine (TR.out w1).mono ?_
  rintro e w2 ⟨s2, a2, rfl, ht2, k2⟩
  obtain ⟨rfl, rfl⟩ := X1.out.uniq ht2
  have B2 := Lib.hid (B1.out.trans k2)
  have R2 := Lib.hid (rng_bel R1.out k2)
  clear k2 ht2 R1 TR B1
  go_wp2_with (refine wpList_load_mid rfl 24 (.tmp 3) rfl p 0 rfl D _ R2.out Tryz.underlying24 rfl DI.out ?_)
  refine (BY.out w2).mono ?_
  rintro e w3 ⟨v3, z3, a3, rfl, hy3, hf3⟩
  obtain ⟨A3, c3, rfl, hsl3⟩ := hf3.sl
  have B3 := Lib.hid (B2.out.trans hf3.2)
  have R3 := Lib.hid (rng_bel R2.out hf3.2)
  have Y3 := Lib.hid hy3
  have S3 := Lib.hid hsl3
  clear hy3 hf3 hsl3 R2 BY B2
  go_wp2_with (refine wpList_load_mid rfl 24 (.tmp 3) rfl p 0 rfl D _ R3.out Tryz.underlying24 rfl DI.out ?_)
  refine (BR.out w3).mono ?_
  rintro e w4 ⟨v4, z4, a4, rfl, hy4, hf4⟩
  obtain ⟨rfl, rfl⟩ := Y3.out.uniq hy4
  obtain ⟨A4, c4, rfl, hsl4⟩ := hf4.sl
  have B4 := Lib.hid (B3.out.trans hf4.2)
  have SM := Lib.hid (same A3 A4 z3.length c3 z3.length c4 z3 w4 (S3.out.bel hf4.2).ints hsl4.ints)
  clear hy4 hf4 hsl4 R3 BR B3 S3
  have e1 : (a1 != a1) = false := by simp
  have e3 : (a3 != a3) = false := by simp
  go_wp2_with fail
  refine SM.out.mono ?_
  rintro e w5 ⟨rfl, rfl⟩
  clear SM
  obtain ⟨y, pa, pb, hprs⟩ : ∃ y pa pb, prs 0 zr (pcs s.data.toList.length s.data.toList) = (y, pa, pb) := ⟨_, _, _, rfl⟩
  obtain ⟨Y, hY⟩ : ∃ Y, Y = recC y := ⟨_, rfl⟩
  have YL := Lib.hid (show Y.length = 11 by rw [hY]; rfl)
  have YO := Lib.hid (all_oneCell_toArray (cs := Y) (by rw [hY]; exact recC_cells _))
  have iY := Lib.hid (show (Tryz.prog.info? 24).map (·.size) = some Y.length by rw [YL.out]; exact info_rec)
  have EY := Lib.hid (eql_rec y)
  have EF := Lib.hid (eql_flt2 pa pb)
  have PX := Lib.hid (show ∀ U : World, Calls Tryz.prog 10 #[.string s] U fun e w' => e = .returned (.tuple #[.agg Y.toArray, .agg #[.int .i64 pa, .int .i64 pb]]) ∧ Bel U w' from fun U => (parseP s (by have := HN.out; omega) U).mono fun e w' h => by
    obtain ⟨y2, a, b, h1, h2, h3⟩ := h
    rw [hprs] at h2
    injection h2 with h2 h4
    injection h4 with h4 h5
    subst h2 h4 h5
    rw [hY]
    exact ⟨h1, h3⟩)
  have PR := Lib.hid (show ∀ U : World, Calls Tryz.prog 11 #[.string s] U fun e w' => e = .returned (.tuple #[.agg Y.toArray, .agg #[.int .i64 pa, .int .i64 pb]]) ∧ Bel U w' from fun U => (parseR s (by have := HN.out; omega) U).mono fun e w' h => by
    obtain ⟨y2, a, b, h1, h2, h3⟩ := h
    rw [hprs] at h2
    injection h2 with h2 h4
    injection h4 with h4 h5
    subst h2 h4 h5
    rw [hY]
    exact ⟨h1, h3⟩)
  rw [← hY] at EY
  clear hprs hY
  go_wp2_with fail
  refine (PX.out w4).mono ?_
  rintro e u6 ⟨rfl, ku⟩
  have hp := new7 u6 Y [.int .i64 pa, .int .i64 pb] YL.out rfl #[.int .i64 0, .int .i64 0, .int .i64 0, .int .i64 0, .int .i64 0, .int .i64 0, .int .i64 0, .int .u64 0, .int .u64 0, .int .i64 0, .int .u64 0] rfl #[.int .i64 0, .int .i64 0] rfl
  obtain ⟨V6, hV⟩ : ∃ V, (((u6.alloc (.cells #[.int .i64 0, .int .i64 0, .int .i64 0, .int .i64 0, .int .i64 0, .int .i64 0, .int .i64 0, .int .u64 0, .int .u64 0, .int .i64 0, .int .u64 0] 24)).alloc (.cells #[.int .i64 0, .int .i64 0] 34)).setCells u6.heap.size 0 Y).setCells (u6.heap.size + 1) 0 [.int .i64 pa, .int .i64 pb] = V := ⟨_, rfl⟩
  rw [hV] at hp
  have H6 := Lib.hid hp
  have HV := Lib.hid hV
  clear hp hV
  go_upto_region 10 with (first | ((with_reducible refine wpList_store_mid ?_ 24 (.tmp 15) (.tmp 75) ?_ u6.heap.size 0 Y.toArray ?_ ?_ ?_ (by rw [List.size_toArray]; exact iY.out) YO.out ?_); rfl; rfl; rfl; rfl; (first | exact H6.out.t1 | simpa using H6.out.t1)) | ((with_reducible refine wpList_store_mid ?_ 34 (.tmp 16) (.tmp 76) ?_ (u6.heap.size + 1) 0 [.int .i64 pa, .int .i64 pb].toArray ?_ ?_ ?_ ?_ ?_ ?_); rfl; rfl; rfl; rfl; (first | exact H6.out.t2 | simpa using H6.out.t2); exact rd_flt; exact rd_two _ _))
  rw [HV.out]
  have K6 := Lib.hid (show Bel w4 V6 from ku.trans H6.out.bel)
  have P6 := Lib.hid (rngB H6.out.ba)
  have Q6 := Lib.hid (rngB H6.out.bb)
  obtain ⟨a6, ha⟩ : ∃ a, u6.heap.size = a := ⟨_, rfl⟩
  rw [ha] at P6 Q6
  rw [ha]
  obtain ⟨b6, hb⟩ : ∃ b, a6 + 1 = b := ⟨_, rfl⟩
  rw [hb] at Q6
  rw [hb]
  clear ku ha hb HV H6
  go_wp2_with fail
  refine (PR.out V6).mono ?_
  rintro e u7 ⟨rfl, ku⟩
  have hp := new7 u7 Y [.int .i64 pa, .int .i64 pb] YL.out rfl #[.int .i64 0, .int .i64 0, .int .i64 0, .int .i64 0, .int .i64 0, .int .i64 0, .int .i64 0, .int .u64 0, .int .u64 0, .int .i64 0, .int .u64 0] rfl #[.int .i64 0, .int .i64 0] rfl
  obtain ⟨V7, hV⟩ : ∃ V, (((u7.alloc (.cells #[.int .i64 0, .int .i64 0, .int .i64 0, .int .i64 0, .int .i64 0, .int .i64 0, .int .i64 0, .int .u64 0, .int .u64 0, .int .i64 0, .int .u64 0] 24)).alloc (.cells #[.int .i64 0, .int .i64 0] 34)).setCells u7.heap.size 0 Y).setCells (u7.heap.size + 1) 0 [.int .i64 pa, .int .i64 pb] = V := ⟨_, rfl⟩
  rw [hV] at hp
  have H7 := Lib.hid hp
  have HV := Lib.hid hV
  clear hp hV
  go_upto_region 11 with (first | ((with_reducible refine wpList_store_mid ?_ 24 (.tmp 17) (.tmp 80) ?_ u7.heap.size 0 Y.toArray ?_ ?_ ?_ (by rw [List.size_toArray]; exact iY.out) YO.out ?_); rfl; rfl; rfl; rfl; (first | exact H7.out.t1 | simpa using H7.out.t1)) | ((with_reducible refine wpList_store_mid ?_ 34 (.tmp 18) (.tmp 81) ?_ (u7.heap.size + 1) 0 [.int .i64 pa, .int .i64 pb].toArray ?_ ?_ ?_ ?_ ?_ ?_); rfl; rfl; rfl; rfl; (first | exact H7.out.t2 | simpa using H7.out.t2); exact rd_flt; exact rd_two _ _))
  rw [HV.out]
  have K7 := Lib.hid (show Bel V6 V7 from ku.trans H7.out.bel)
  have P7 := Lib.hid (rngB H7.out.ba)
  have Q7 := Lib.hid (rngB H7.out.bb)
  obtain ⟨a7, ha⟩ : ∃ a, u7.heap.size = a := ⟨_, rfl⟩
  rw [ha] at P7 Q7
  rw [ha]
  obtain ⟨b7, hb⟩ : ∃ b, a7 + 1 = b := ⟨_, rfl⟩
  rw [hb] at Q7
  rw [hb]
  clear ku ha hb HV H7
  have CB := Lib.hid (copyBytes B n c bz V7 (HB.out.bel (B4.out.trans (K6.out.trans K7.out))) (by have := HN.out; omega))
  go_wp2_with fail
  refine CB.out.mono ?_
  rintro e u8 ⟨v8, rfl, hf8⟩
  obtain ⟨A8, c8, rfl, hsl8⟩ := hf8.sl
  have K8 := Lib.hid (show Bel V7 u8 from hf8.2)
  have S8 := Lib.hid hsl8
  have HBL := Lib.hid (show bz.length = n from HB.out.ints.1)
  clear hf8 hsl8 CB
  obtain ⟨xe, ke, fe, hT⟩ := to_some bz HBZ.out 11 zr 0 none (Nat.zero_le _)
  have RP := Lib.hid (fun (U : World) (A' : Option Addr) (n' c' : Nat) (hz : Cd.Sl U A' n' c' bz) (hn : n' ≤ 1000000) => readP A' n' c' bz U hz hn HBZ.out xe ke fe hT)
  have RR := Lib.hid (fun (U : World) (A' : Option Addr) (n' c' : Nat) (hz : Cd.Sl U A' n' c' bz) (hn : n' ≤ 1000000) => readR A' n' c' bz U hz hn HBZ.out xe ke fe hT)
  unfold ReadE at RP RR
  obtain ⟨z, hz⟩ : ∃ z, (if (Cd.endOf bz.length ke fe).1 = 0 then xe else zr) = z := ⟨_, rfl⟩
  obtain ⟨ra, hra⟩ : ∃ a, (if (Cd.endOf bz.length ke fe).1 = 0 then 0 else (Cd.endOf bz.length ke fe).1) = a := ⟨_, rfl⟩
  obtain ⟨rb, hrb⟩ : ∃ a, (if (Cd.endOf bz.length ke fe).1 = 0 then 0 else (Cd.endOf bz.length ke fe).2) = a := ⟨_, rfl⟩
  rw [hz, hra, hrb] at RP RR
  obtain ⟨Z, hZ⟩ : ∃ Z, Z = recC z := ⟨_, rfl⟩
  have ZL := Lib.hid (show Z.length = 11 by rw [hZ]; rfl)
  have ZO := Lib.hid (all_oneCell_toArray (cs := Z) (by rw [hZ]; exact recC_cells _))
  have iZ := Lib.hid (show (Tryz.prog.info? 24).map (·.size) = some Z.length by rw [ZL.out]; exact info_rec)
  have EZ := Lib.hid (eql_rec z)
  have EG := Lib.hid (eql_flt2 ra rb)
  rw [← hZ] at EZ RP RR
  have C9 := Lib.hid (RP.out u8 A8 bz.length c8 (slc8 S8.out) (by have := HN.out; have := HBL.out; omega))
  clear hT hz hra hrb hZ RP
  go_wp2_with fail
  refine (C9.out).mono ?_
  rintro e u9 ⟨rfl, ku⟩
  have hp := new7 u9 Z [.int .i64 ra, .int .i64 rb] ZL.out rfl #[.int .i64 0, .int .i64 0, .int .i64 0, .int .i64 0, .int .i64 0, .int .i64 0, .int .i64 0, .int .u64 0, .int .u64 0, .int .i64 0, .int .u64 0] rfl #[.int .i64 0, .int .i64 0] rfl
  obtain ⟨V9, hV⟩ : ∃ V, (((u9.alloc (.cells #[.int .i64 0, .int .i64 0, .int .i64 0, .int .i64 0, .int .i64 0, .int .i64 0, .int .i64 0, .int .u64 0, .int .u64 0, .int .i64 0, .int .u64 0] 24)).alloc (.cells #[.int .i64 0, .int .i64 0] 34)).setCells u9.heap.size 0 Z).setCells (u9.heap.size + 1) 0 [.int .i64 ra, .int .i64 rb] = V := ⟨_, rfl⟩
  rw [hV] at hp
  have H9 := Lib.hid hp
  have HV := Lib.hid hV
  clear hp hV
  go_upto_region 13 with (first | ((with_reducible refine wpList_store_mid ?_ 24 (.tmp 20) (.tmp 87) ?_ u9.heap.size 0 Z.toArray ?_ ?_ ?_ (by rw [List.size_toArray]; exact iZ.out) ZO.out ?_); rfl; rfl; rfl; rfl; (first | exact H9.out.t1 | simpa using H9.out.t1)) | ((with_reducible refine wpList_store_mid ?_ 34 (.tmp 21) (.tmp 88) ?_ (u9.heap.size + 1) 0 [.int .i64 ra, .int .i64 rb].toArray ?_ ?_ ?_ ?_ ?_ ?_); rfl; rfl; rfl; rfl; (first | exact H9.out.t2 | simpa using H9.out.t2); exact rd_flt; exact rd_two _ _))
  rw [HV.out]
  have K9 := Lib.hid (show Bel u8 V9 from ku.trans H9.out.bel)
  have P9 := Lib.hid (rngB H9.out.ba)
  have Q9 := Lib.hid (rngB H9.out.bb)
  obtain ⟨a9, ha⟩ : ∃ a, u9.heap.size = a := ⟨_, rfl⟩
  rw [ha] at P9 Q9
  rw [ha]
  obtain ⟨b9, hb⟩ : ∃ b, a9 + 1 = b := ⟨_, rfl⟩
  rw [hb] at Q9
  rw [hb]
  clear ku ha hb HV H9
  have BT := Lib.hid (show Bel W V9 from B4.out.trans (K6.out.trans (K7.out.trans (K8.out.trans K9.out))))
  have Ca := Lib.hid (RR.out V9 B n c (slc8 (HB.out.bel BT.out)) (by have := HN.out; omega))
  clear RR C9 PX PR
  go_wp2_with fail
  refine (Ca.out).mono ?_
  rintro e ua ⟨rfl, ku⟩
  have hp := new7 ua Z [.int .i64 ra, .int .i64 rb] ZL.out rfl #[.int .i64 0, .int .i64 0, .int .i64 0, .int .i64 0, .int .i64 0, .int .i64 0, .int .i64 0, .int .u64 0, .int .u64 0, .int .i64 0, .int .u64 0] rfl #[.int .i64 0, .int .i64 0] rfl
  obtain ⟨Va, hV⟩ : ∃ V, (((ua.alloc (.cells #[.int .i64 0, .int .i64 0, .int .i64 0, .int .i64 0, .int .i64 0, .int .i64 0, .int .i64 0, .int .u64 0, .int .u64 0, .int .i64 0, .int .u64 0] 24)).alloc (.cells #[.int .i64 0, .int .i64 0] 34)).setCells ua.heap.size 0 Z).setCells (ua.heap.size + 1) 0 [.int .i64 ra, .int .i64 rb] = V := ⟨_, rfl⟩
  rw [hV] at hp
  have Ha := Lib.hid hp
  have HV := Lib.hid hV
  clear hp hV
  go_upto_region 14 with (first | ((with_reducible refine wpList_store_mid ?_ 24 (.tmp 22) (.tmp 92) ?_ ua.heap.size 0 Z.toArray ?_ ?_ ?_ (by rw [List.size_toArray]; exact iZ.out) ZO.out ?_); rfl; rfl; rfl; rfl; (first | exact Ha.out.t1 | simpa using Ha.out.t1)) | ((with_reducible refine wpList_store_mid ?_ 34 (.tmp 23) (.tmp 93) ?_ (ua.heap.size + 1) 0 [.int .i64 ra, .int .i64 rb].toArray ?_ ?_ ?_ ?_ ?_ ?_); rfl; rfl; rfl; rfl; (first | exact Ha.out.t2 | simpa using Ha.out.t2); exact rd_flt; exact rd_two _ _))
  rw [HV.out]
  have Ka := Lib.hid (show Bel V9 Va from ku.trans Ha.out.bel)
  have Pa := Lib.hid (rngB Ha.out.ba)
  have Qa := Lib.hid (rngB Ha.out.bb)
  obtain ⟨aa, ha⟩ : ∃ a, ua.heap.size = a := ⟨_, rfl⟩
  rw [ha] at Pa Qa
  rw [ha]
  obtain ⟨ba, hb⟩ : ∃ b, aa + 1 = b := ⟨_, rfl⟩
  rw [hb] at Qa
  rw [hb]
  clear ku ha hb HV Ha
  have uP := Tryz.underlying24
  have uF := Tryz.underlying34
  have iF := Lib.hid (show (Tryz.prog.info? 34).map (·.size) = some ([.int .i64 pa, .int .i64 pb] : List Value).length from rd_flt)
  have iG := Lib.hid (show (Tryz.prog.info? 34).map (·.size) = some ([.int .i64 ra, .int .i64 rb] : List Value).length from rd_flt)
  have KA := Lib.hid (show Bel W Va from BT.out.trans Ka.out)
  have P6 := Lib.hid (rng_bel P6.out (K7.out.trans (K8.out.trans (K9.out.trans Ka.out))))
  have Q6 := Lib.hid (rng_bel Q6.out (K7.out.trans (K8.out.trans (K9.out.trans Ka.out))))
  have P7 := Lib.hid (rng_bel P7.out (K8.out.trans (K9.out.trans Ka.out)))
  have Q7 := Lib.hid (rng_bel Q7.out (K8.out.trans (K9.out.trans Ka.out)))
  have P9 := Lib.hid (rng_bel P9.out Ka.out)
  have Q9 := Lib.hid (rng_bel Q9.out Ka.out)
  have SB := Lib.hid (same A8 B bz.length c8 n c bz Va (S8.out.bel (K9.out.trans Ka.out)).ints (HB.out.bel KA.out).ints)
  clear K6 K7 K8 K9 Ka BT Ca
  go_wp2_with (first | ((with_reducible refine wpList_load_g ?_ 24 (.tmp 15) ?_ a6 0 ?_ Y _ P6.out uP ?_ iY.out ?_); rfl; rfl; rfl; rfl) | ((with_reducible refine wpList_load_g ?_ 24 (.tmp 17) ?_ a7 0 ?_ Y _ P7.out uP ?_ iY.out ?_); rfl; rfl; rfl; rfl) | ((with_reducible refine wpList_load_g ?_ 24 (.tmp 20) ?_ a9 0 ?_ Z _ P9.out uP ?_ iZ.out ?_); rfl; rfl; rfl; rfl) | ((with_reducible refine wpList_load_g ?_ 24 (.tmp 22) ?_ aa 0 ?_ Z _ Pa.out uP ?_ iZ.out ?_); rfl; rfl; rfl; rfl) | ((with_reducible refine wpList_load_g ?_ 34 (.tmp 16) ?_ b6 0 ?_ [.int .i64 pa, .int .i64 pb] _ Q6.out uF ?_ iF.out ?_); rfl; rfl; rfl; rfl) | ((with_reducible refine wpList_load_g ?_ 34 (.tmp 18) ?_ b7 0 ?_ [.int .i64 pa, .int .i64 pb] _ Q7.out uF ?_ iF.out ?_); rfl; rfl; rfl; rfl) | ((with_reducible refine wpList_load_g ?_ 34 (.tmp 21) ?_ b9 0 ?_ [.int .i64 ra, .int .i64 rb] _ Q9.out uF ?_ iG.out ?_); rfl; rfl; rfl; rfl) | ((with_reducible refine wpList_load_g ?_ 34 (.tmp 23) ?_ ba 0 ?_ [.int .i64 ra, .int .i64 rb] _ Qa.out uF ?_ iG.out ?_); rfl; rfl; rfl; rfl) | (refine wpList_val (by rfl) (.bool true) (fun w => exec_eql rfl Y.toArray Y.toArray rfl rfl (by kernel_rfl) (fun w => EY.out w) w) ?_) | (refine wpList_val (by rfl) (.bool true) (fun w => exec_eql rfl Z.toArray Z.toArray rfl rfl (by kernel_rfl) (fun w => EZ.out w) w) ?_) | (refine wpList_val (by rfl) (.bool true) (fun w => exec_eql rfl #[.int .i64 pa, .int .i64 pb] #[.int .i64 pa, .int .i64 pb] rfl rfl (by kernel_rfl) (fun w => EF.out w) w) ?_) | (refine wpList_val (by rfl) (.bool true) (fun w => exec_eql rfl #[.int .i64 ra, .int .i64 rb] #[.int .i64 ra, .int .i64 rb] rfl rfl (by kernel_rfl) (fun w => EG.out w) w) ?_))
  refine SB.out.mono ?_
  rintro e v20 ⟨rfl, rfl⟩
  go_wp2_with fail
  refine (awake Va (HT.out.bel (B0.out.trans KA.out))).mono ?_
  rintro e v21 ⟨rfl, k21⟩
  have BF := Lib.hid (B0.out.trans (KA.out.trans k21))
  clear k21
  go_wp2_with fail
  go_ret
  exact ⟨rfl, BF.out⟩
theorem formsLaw (x : Nat → Int) (s : ByteArray) (B : Option Addr) (n c : Nat) (bz : List Int) (w : World) (hx : Kinds x) (hb : Sl w B n c bz) (hbz : ∀ z ∈ bz, 0 ≤ z ∧ z ≤ 255) (hm : c ≤ maxLen) (htab : Tab w) :
    Calls Tryz.prog 3 #[.agg (recC x).toArray, .string s, .slice B n c] w fun e w' => e = .returned (.bool true) ∧ Bel w w' := forms x hx s B n c bz w hb hbz htab
end Pm
end Go.Proofs.YtpohcdfmkcfonaaGreatDoor
