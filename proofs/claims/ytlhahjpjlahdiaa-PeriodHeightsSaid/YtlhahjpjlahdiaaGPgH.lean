/-
  What PeriodHeights answer. Conditions: the eleven numbers are of their kinds.
-/
import Derived.Test.YtlhahjpjlahdiaaPR
namespace Go.Proofs.Ytlhahjpjlahdiaa
open Go.RowKit Go.Shelf
set_option linter.unusedVariables false
namespace Pd
open Kk Pm

set_option maxRecDepth 100000 in
set_option maxHeartbeats 8000000 in
theorem heights (x : Nat → Int) (hx : Kinds x) (h e : Int) (w : World) :
    Calls Try.prog 3 #[.agg (recC x).toArray, .int .i64 h, .int .i64 e] w fun r w' => r = .returned (.bool true) ∧ Bel w w' := by
  obtain ⟨D, hD⟩ : ∃ D, D = recC x := ⟨_, rfl⟩
  obtain ⟨v0, hW0⟩ : ∃ W0, w.alloc (.cells D.toArray 24) = W0 := ⟨_, rfl⟩
  have B0 := Lib.hid (show Bel w v0 by rw [← hW0]; exact (Bel.refl w).alloc _)
  have R0 := Lib.hid (show v0.rangeAt w.heap.size 0 D by rw [← hW0]; exact rngB (Blk.new w D.toArray 24))
  obtain ⟨p, hp⟩ : ∃ p, w.heap.size = p := ⟨_, rfl⟩
  rw [hp] at R0
  have hDl : D.length = 11 := by rw [hD]; rfl
  have iD : (Try.prog.info? 24).map (·.size) = some D.length := by rw [hDl]; exact info_rec
  obtain ⟨a1, ha1⟩ : ∃ k_, epN x h = k_ := ⟨_, rfl⟩
  obtain ⟨a2, ha2⟩ : ∃ k_, lowN x h = k_ := ⟨_, rfl⟩
  obtain ⟨a3, ha3⟩ : ∃ k_, flN x h = k_ := ⟨_, rfl⟩
  obtain ⟨a4, ha4⟩ : ∃ k_, unN x h = k_ := ⟨_, rfl⟩
  obtain ⟨q, hq⟩ : ∃ k_, e1 x h = k_ := ⟨_, rfl⟩
  obtain ⟨b1, hb1⟩ : ∃ k_, fiN x e = k_ := ⟨_, rfl⟩
  obtain ⟨b2, hb2⟩ : ∃ k_, laN x e = k_ := ⟨_, rfl⟩
  obtain ⟨r_, hr_⟩ : ∃ k_, eF x e = k_ := ⟨_, rfl⟩
  have C0 := Lib.hid (fun V => epochC x hx h V)
  rw [ha1, hq, ← hD] at C0
  have E0 := Lib.hid (fun V => epochR x hx h V)
  rw [ha1, hq, ← hD] at E0
  have C1 := Lib.hid (fun V => lowC x hx h V)
  rw [ha2, hq, ← hD] at C1
  have E1 := Lib.hid (fun V => lowR x hx h V)
  rw [ha2, hq, ← hD] at E1
  have C2 := Lib.hid (fun V => floorC x hx h V)
  rw [ha3, hq, ← hD] at C2
  have E2 := Lib.hid (fun V => floorR x hx h V)
  rw [ha3, hq, ← hD] at E2
  have C3 := Lib.hid (fun V => untilC x hx h V)
  rw [ha4, hq, ← hD] at C3
  have E3 := Lib.hid (fun V => untilR x hx h V)
  rw [ha4, hq, ← hD] at E3
  have C4 := Lib.hid (fun V => firstC x hx e V)
  rw [hb1, hr_, ← hD] at C4
  have E4 := Lib.hid (fun V => firstR x hx e V)
  rw [hb1, hr_, ← hD] at E4
  have C5 := Lib.hid (fun V => lastC x hx e V)
  rw [hb2, hr_, ← hD] at C5
  have E5 := Lib.hid (fun V => lastR x hx e V)
  rw [hb2, hr_, ← hD] at E5
  clear ha1 ha2 ha3 ha4 hq hb1 hb2 hr_
  rw [← hD]
  have HX := Lib.hid hx
  have HP := Lib.hid hp
  have HW0 := Lib.hid hW0
  clear hx hp hD hW0 hDl
  go_enter Try.func3, Try.ntmps3
  go_upto_region 1 with fail
  rw [HW0.out, HP.out]
  go_wp2_with (refine wpList_load_mid rfl 24 (.tmp 3) rfl p 0 rfl D _ R0.out Try.underlying24 rfl iD ?_)
  refine (C0.out v0).mono ?_
  rintro r v1 ⟨rfl, k1⟩
  have B1 := Lib.hid (B0.out.trans k1)
  have R1 := Lib.hid (rng_bel R0.out k1)
  clear k1 R0 B0
  go_wp2_with (refine wpList_load_mid rfl 24 (.tmp 3) rfl p 0 rfl D _ R1.out Try.underlying24 rfl iD ?_)
  refine (E0.out v1).mono ?_
  rintro r v2 ⟨rfl, k2⟩
  have B2 := Lib.hid (B1.out.trans k2)
  have R2 := Lib.hid (rng_bel R1.out k2)
  clear k2 R1 B1
  go_wp2_with (refine wpList_load_mid rfl 24 (.tmp 3) rfl p 0 rfl D _ R2.out Try.underlying24 rfl iD ?_)
  refine (C1.out v2).mono ?_
  rintro r v3 ⟨rfl, k3⟩
  have B3 := Lib.hid (B2.out.trans k3)
  have R3 := Lib.hid (rng_bel R2.out k3)
  clear k3 R2 B2
  go_wp2_with (refine wpList_load_mid rfl 24 (.tmp 3) rfl p 0 rfl D _ R3.out Try.underlying24 rfl iD ?_)
  refine (E1.out v3).mono ?_
  rintro r v4 ⟨rfl, k4⟩
  have B4 := Lib.hid (B3.out.trans k4)
  have R4 := Lib.hid (rng_bel R3.out k4)
  clear k4 R3 B3
  go_wp2_with (refine wpList_load_mid rfl 24 (.tmp 3) rfl p 0 rfl D _ R4.out Try.underlying24 rfl iD ?_)
  refine (C2.out v4).mono ?_
  rintro r v5 ⟨rfl, k5⟩
  have B5 := Lib.hid (B4.out.trans k5)
  have R5 := Lib.hid (rng_bel R4.out k5)
  clear k5 R4 B4
  go_wp2_with (refine wpList_load_mid rfl 24 (.tmp 3) rfl p 0 rfl D _ R5.out Try.underlying24 rfl iD ?_)
  refine (E2.out v5).mono ?_
  rintro r v6 ⟨rfl, k6⟩
  have B6 := Lib.hid (B5.out.trans k6)
  have R6 := Lib.hid (rng_bel R5.out k6)
  clear k6 R5 B5
  go_wp2_with (refine wpList_load_mid rfl 24 (.tmp 3) rfl p 0 rfl D _ R6.out Try.underlying24 rfl iD ?_)
  refine (C3.out v6).mono ?_
  rintro r v7 ⟨rfl, k7⟩
  have B7 := Lib.hid (B6.out.trans k7)
  have R7 := Lib.hid (rng_bel R6.out k7)
  clear k7 R6 B6
  go_wp2_with (refine wpList_load_mid rfl 24 (.tmp 3) rfl p 0 rfl D _ R7.out Try.underlying24 rfl iD ?_)
  refine (E3.out v7).mono ?_
  rintro r v8 ⟨rfl, k8⟩
  have B8 := Lib.hid (B7.out.trans k8)
  have R8 := Lib.hid (rng_bel R7.out k8)
  clear k8 R7 B7
  go_wp2_with (refine wpList_load_mid rfl 24 (.tmp 3) rfl p 0 rfl D _ R8.out Try.underlying24 rfl iD ?_)
  refine (C4.out v8).mono ?_
  rintro r v9 ⟨rfl, k9⟩
  have B9 := Lib.hid (B8.out.trans k9)
  have R9 := Lib.hid (rng_bel R8.out k9)
  clear k9 R8 B8
  go_wp2_with (refine wpList_load_mid rfl 24 (.tmp 3) rfl p 0 rfl D _ R9.out Try.underlying24 rfl iD ?_)
  refine (E4.out v9).mono ?_
  rintro r v10 ⟨rfl, k10⟩
  have B10 := Lib.hid (B9.out.trans k10)
  have R10 := Lib.hid (rng_bel R9.out k10)
  clear k10 R9 B9
  go_wp2_with (refine wpList_load_mid rfl 24 (.tmp 3) rfl p 0 rfl D _ R10.out Try.underlying24 rfl iD ?_)
  refine (C5.out v10).mono ?_
  rintro r v11 ⟨rfl, k11⟩
  have B11 := Lib.hid (B10.out.trans k11)
  have R11 := Lib.hid (rng_bel R10.out k11)
  clear k11 R10 B10
  go_wp2_with (refine wpList_load_mid rfl 24 (.tmp 3) rfl p 0 rfl D _ R11.out Try.underlying24 rfl iD ?_)
  refine (E5.out v11).mono ?_
  rintro r v12 ⟨rfl, k12⟩
  have B12 := Lib.hid (B11.out.trans k12)
  have R12 := Lib.hid (rng_bel R11.out k12)
  clear k12 R11 B11
  go_wp2_with fail
  refine (awake_ v12).mono ?_
  rintro r v13 ⟨rfl, k13⟩
  have B13 := Lib.hid (B12.out.trans k13)
  have R13 := Lib.hid (rng_bel R12.out k13)
  clear k13 R12 B12
  go_wp2_with fail
  go_ret
  exact ⟨rfl, B13.out⟩

theorem heightsLaw (x : Nat → Int) (h e : Int) (w : World) (hx : Kinds x) (i0 : -9223372036854775808 ≤ h) (j0 : h ≤ 9223372036854775807) (i1 : -9223372036854775808 ≤ e) (j1 : e ≤ 9223372036854775807) :
    Calls Try.prog 3 #[.agg (recC x).toArray, .int .i64 h, .int .i64 e] w fun r w' => r = .returned (.bool true) ∧ Bel w w' := heights x hx h e w
end Pd
end Go.Proofs.Ytlhahjpjlahdiaa
