/-
  What PeriodTells answer. Conditions: the eleven numbers are of their kinds.
-/
import Derived.Test.YtlhahjpjlahdiaaPR
namespace Go.Proofs.Ytlhahjpjlahdiaa
open Go.RowKit Go.Shelf
set_option linter.unusedVariables false
namespace Pd
open Kk Pm

set_option maxRecDepth 100000 in
set_option maxHeartbeats 8000000 in
theorem tells (x : Nat → Int) (hx : Kinds x) (c h : Int) (w : World) :
    Calls Try.prog 4 #[.agg (recC x).toArray, .int .i64 c, .int .i64 h] w fun r w' => r = .returned (.bool true) ∧ Bel w w' := by
  obtain ⟨D, hD⟩ : ∃ D, D = recC x := ⟨_, rfl⟩
  obtain ⟨v0, hW0⟩ : ∃ W0, w.alloc (.cells D.toArray 24) = W0 := ⟨_, rfl⟩
  have B0 := Lib.hid (show Bel w v0 by rw [← hW0]; exact (Bel.refl w).alloc _)
  have R0 := Lib.hid (show v0.rangeAt w.heap.size 0 D by rw [← hW0]; exact rngB (Blk.new w D.toArray 24))
  obtain ⟨p, hp⟩ : ∃ p, w.heap.size = p := ⟨_, rfl⟩
  rw [hp] at R0
  have hDl : D.length = 11 := by rw [hD]; rfl
  have iD : (Try.prog.info? 24).map (·.size) = some D.length := by rw [hDl]; exact info_rec
  obtain ⟨b1, hb1⟩ : ∃ k_, ripB x c h = k_ := ⟨_, rfl⟩
  obtain ⟨b2, hb2⟩ : ∃ k_, aliB x c h = k_ := ⟨_, rfl⟩
  obtain ⟨b3, hb3⟩ : ∃ k_, notB x c h = k_ := ⟨_, rfl⟩
  obtain ⟨q, hq⟩ : ∃ k_, e2 x c h = k_ := ⟨_, rfl⟩
  obtain ⟨a1, ha1⟩ : ∃ k_, agN x c h = k_ := ⟨_, rfl⟩
  have C0 := Lib.hid (fun V => ripeC x hx c h V)
  rw [hb1, hq, ← hD] at C0
  have E0 := Lib.hid (fun V => ripeR x hx c h V)
  rw [hb1, hq, ← hD] at E0
  have C1 := Lib.hid (fun V => aliveC x hx c h V)
  rw [hb2, hq, ← hD] at C1
  have E1 := Lib.hid (fun V => aliveR x hx c h V)
  rw [hb2, hq, ← hD] at E1
  have C2 := Lib.hid (fun V => notedC x hx c h V)
  rw [hb3, hq, ← hD] at C2
  have E2 := Lib.hid (fun V => notedR x hx c h V)
  rw [hb3, hq, ← hD] at E2
  have C3 := Lib.hid (fun V => agedC x hx c h V)
  rw [ha1, ← hD] at C3
  have E3 := Lib.hid (fun V => agedR x hx c h V)
  rw [ha1, ← hD] at E3
  clear hb1 hb2 hb3 hq ha1
  rw [← hD]
  have HX := Lib.hid hx
  have HP := Lib.hid hp
  have HW0 := Lib.hid hW0
  clear hx hp hD hW0 hDl
  go_enter Try.func4, Try.ntmps4
  go_upto_region 1 with fail
  rw [HW0.out, HP.out]
  go_wp2_with (refine wpList_load_mid rfl 24 (.tmp 3) rfl p 0 rfl D _ R0.out Try.underlying24 rfl iD ?_)
  refine (C0.out v0).mono ?_
  rintro r v1 ⟨rfl, k1⟩
  have B1 := Lib.hid (B0.out.trans k1)
  have R1 := Lib.hid (rng_bel R0.out k1)
  clear k1 R0 B0
  go_wp2_with (refine wpList_load_mid rfl 24 (.tmp 3) rfl p 0 rfl D _ R1.out Try.underlying24 rfl iD ?_)
  refine (E0.out v1).mono ?_
  rintro r v2 ⟨rfl, k2⟩
  have B2 := Lib.hid (B1.out.trans k2)
  have R2 := Lib.hid (rng_bel R1.out k2)
  clear k2 R1 B1
  go_wp2_with (refine wpList_load_mid rfl 24 (.tmp 3) rfl p 0 rfl D _ R2.out Try.underlying24 rfl iD ?_)
  refine (C1.out v2).mono ?_
  rintro r v3 ⟨rfl, k3⟩
  have B3 := Lib.hid (B2.out.trans k3)
  have R3 := Lib.hid (rng_bel R2.out k3)
  clear k3 R2 B2
  go_wp2_with (refine wpList_load_mid rfl 24 (.tmp 3) rfl p 0 rfl D _ R3.out Try.underlying24 rfl iD ?_)
  refine (E1.out v3).mono ?_
  rintro r v4 ⟨rfl, k4⟩
  have B4 := Lib.hid (B3.out.trans k4)
  have R4 := Lib.hid (rng_bel R3.out k4)
  clear k4 R3 B3
  go_wp2_with (refine wpList_load_mid rfl 24 (.tmp 3) rfl p 0 rfl D _ R4.out Try.underlying24 rfl iD ?_)
  refine (C2.out v4).mono ?_
  rintro r v5 ⟨rfl, k5⟩
  have B5 := Lib.hid (B4.out.trans k5)
  have R5 := Lib.hid (rng_bel R4.out k5)
  clear k5 R4 B4
  go_wp2_with (refine wpList_load_mid rfl 24 (.tmp 3) rfl p 0 rfl D _ R5.out Try.underlying24 rfl iD ?_)
  refine (E2.out v5).mono ?_
  rintro r v6 ⟨rfl, k6⟩
  have B6 := Lib.hid (B5.out.trans k6)
  have R6 := Lib.hid (rng_bel R5.out k6)
  clear k6 R5 B5
  go_upto_region 9 with fail
  have uD := Try.underlying24
  have KEEP := Lib.hid (show ∀ V V' : World, (V.rangeAt p 0 D ∧ Bel w V) → Bel V V' → (V'.rangeAt p 0 D ∧ Bel w V') from fun V V' h hb => ⟨rng_bel h.1 hb, h.2.trans hb⟩)
  refine wp_region_held_drew (S := fun V => V.rangeAt p 0 D ∧ Bel w V) (by kernel_rfl) ⟨rng_bel R6.out (Bel.refl _).drew, B6.out.drew⟩ (fun hS0 => ?_)
  obtain ⟨w6, hw6⟩ : ∃ w6, v6.drew = w6 := ⟨_, rfl⟩
  rw [hw6] at hS0 ⊢
  clear hw6
  refine wpAnyH_take (i := 0) (oi := { dst := some 75, op := .move (.tmp 7), type := 4, pos := "law.go:44", after := #[], guard := none }) (v := .bool b3) rfl (by kernel_rfl) (by kernel_rfl) (by kernel_rfl) (fun _ _ _ h => h) (Or.inl ⟨by rfl, by intro w hSw; clear hSw; go_simp⟩) hS0 ?_
  try simp only [Act.put, List.setIfInBounds_toArray, List.set_cons_zero, List.set_cons_succ]
  refine wpAnyH_take (i := 1) (oi := { dst := some 76, op := .move (.tmp 9), type := 4, pos := "law.go:44", after := #[], guard := none }) (v := .bool b3) rfl (by kernel_rfl) (by kernel_rfl) (by kernel_rfl) (fun _ _ _ h => h) (Or.inl ⟨by rfl, by intro w hSw; clear hSw; go_simp⟩) hS0 ?_
  try simp only [Act.put, List.setIfInBounds_toArray, List.set_cons_zero, List.set_cons_succ]
  refine wpAnyH_take (i := 2) (oi := { dst := some 77, op := .binOp .eql 4 (.tmp 75) (.tmp 76) 4, type := 4, pos := "law.go:44", after := #[{ on := 0, ground := .data }, { on := 1, ground := .data }], guard := none }) (v := .bool true) rfl (by kernel_rfl) (by kernel_rfl) (by kernel_rfl) (fun _ _ _ h => h) (Or.inl ⟨by rfl, by intro w hSw; clear hSw; go_simp⟩) hS0 ?_
  try simp only [Act.put, List.setIfInBounds_toArray, List.set_cons_zero, List.set_cons_succ]
  refine wpAnyH_take (i := 3) (oi := { dst := some 78, op := .move (.tmp 77), type := 4, pos := "law.go:44", after := #[{ on := 2, ground := .data }], guard := none }) (v := .bool true) rfl (by kernel_rfl) (by kernel_rfl) (by kernel_rfl) (fun _ _ _ h => h) (Or.inl ⟨by rfl, by intro w hSw; clear hSw; go_simp⟩) hS0 ?_
  try simp only [Act.put, List.setIfInBounds_toArray, List.set_cons_zero, List.set_cons_succ]
  refine wpAnyH_take (i := 4) (oi := { dst := some 79, op := .move (.tmp 8), type := 25, pos := "law.go:44", after := #[{ on := 3, ground := .guard }], guard := some (3, true) }) (v := .int .i64 q) rfl (by kernel_rfl) (by kernel_rfl) (by kernel_rfl) (fun _ _ _ h => h) (Or.inl ⟨by rfl, by intro w hSw; clear hSw; go_simp⟩) hS0 ?_
  try simp only [Act.put, List.setIfInBounds_toArray, List.set_cons_zero, List.set_cons_succ]
  refine wpAnyH_take (i := 5) (oi := { dst := some 80, op := .move (.tmp 10), type := 25, pos := "law.go:44", after := #[{ on := 3, ground := .guard }], guard := some (3, true) }) (v := .int .i64 q) rfl (by kernel_rfl) (by kernel_rfl) (by kernel_rfl) (fun _ _ _ h => h) (Or.inl ⟨by rfl, by intro w hSw; clear hSw; go_simp⟩) hS0 ?_
  try simp only [Act.put, List.setIfInBounds_toArray, List.set_cons_zero, List.set_cons_succ]
  refine wpAnyH_take (i := 6) (oi := { dst := some 81, op := .binOp .eql 25 (.tmp 79) (.tmp 80) 25, type := 4, pos := "law.go:44", after := #[{ on := 4, ground := .data }, { on := 5, ground := .data }, { on := 3, ground := .guard }], guard := some (3, true) }) (v := .bool true) rfl (by kernel_rfl) (by kernel_rfl) (by kernel_rfl) (fun _ _ _ h => h) (Or.inl ⟨by rfl, by intro w hSw; clear hSw; go_simp⟩) hS0 ?_
  try simp only [Act.put, List.setIfInBounds_toArray, List.set_cons_zero, List.set_cons_succ]
  refine wpAnyH_take (i := 7) (oi := { dst := some 82, op := .pick (.tmp 78) (.tmp 81) (.const (Value.bool false)), type := 4, pos := "law.go:44", after := #[{ on := 3, ground := .data }, { on := 6, ground := .data }], guard := none }) (v := .bool true) rfl (by kernel_rfl) (by kernel_rfl) (by kernel_rfl) (fun _ _ _ h => h) (Or.inl ⟨by rfl, by intro w hSw; clear hSw; go_simp⟩) hS0 ?_
  try simp only [Act.put, List.setIfInBounds_toArray, List.set_cons_zero, List.set_cons_succ]
  refine wpAnyH_take (i := 8) (oi := { dst := some 83, op := .move (.tmp 82), type := 4, pos := "law.go:44", after := #[{ on := 7, ground := .data }, { on := 3, ground := .chain }], guard := none }) (v := .bool true) rfl (by kernel_rfl) (by kernel_rfl) (by kernel_rfl) (fun _ _ _ h => h) (Or.inl ⟨by rfl, by intro w hSw; clear hSw; go_simp⟩) hS0 ?_
  try simp only [Act.put, List.setIfInBounds_toArray, List.set_cons_zero, List.set_cons_succ]
  refine wpAnyH_take (i := 9) (oi := { dst := some 84, op := .load 24 (.tmp 3), type := 24, pos := "law.go:44", after := #[{ on := 8, ground := .guard }], guard := some (8, true) }) (v := .agg D.toArray) rfl (by kernel_rfl) (by kernel_rfl) (by kernel_rfl) (fun _ _ _ h => h) (yieldsIf_load_mid (by rfl) _ _ rfl _ _ rfl _ _ (fun w h => h.1) uD rfl iD) hS0 ?_
  try simp only [Act.put, List.setIfInBounds_toArray, List.set_cons_zero, List.set_cons_succ]
  refine wpAnyH_take (i := 10) (oi := { dst := some 85, op := .move (.tmp 1), type := 3, pos := "law.go:44", after := #[{ on := 8, ground := .guard }], guard := some (8, true) }) (v := .int .i64 c) rfl (by kernel_rfl) (by kernel_rfl) (by kernel_rfl) (fun _ _ _ h => h) (Or.inl ⟨by rfl, by intro w hSw; clear hSw; go_simp⟩) hS0 ?_
  try simp only [Act.put, List.setIfInBounds_toArray, List.set_cons_zero, List.set_cons_succ]
  refine wpAnyH_take (i := 11) (oi := { dst := some 86, op := .move (.tmp 2), type := 3, pos := "law.go:44", after := #[{ on := 8, ground := .guard }], guard := some (8, true) }) (v := .int .i64 h) rfl (by kernel_rfl) (by kernel_rfl) (by kernel_rfl) (fun _ _ _ h => h) (Or.inl ⟨by rfl, by intro w hSw; clear hSw; go_simp⟩) hS0 ?_
  try simp only [Act.put, List.setIfInBounds_toArray, List.set_cons_zero, List.set_cons_succ]
  refine wpAnyH_take (i := 13) (oi := { dst := some 88, op := .load 24 (.tmp 3), type := 24, pos := "law.go:44", after := #[{ on := 8, ground := .guard }], guard := some (8, true) }) (v := .agg D.toArray) rfl (by kernel_rfl) (by kernel_rfl) (by kernel_rfl) (fun _ _ _ h => h) (yieldsIf_load_mid (by rfl) _ _ rfl _ _ rfl _ _ (fun w h => h.1) uD rfl iD) hS0 ?_
  try simp only [Act.put, List.setIfInBounds_toArray, List.set_cons_zero, List.set_cons_succ]
  refine wpAnyH_take (i := 14) (oi := { dst := some 89, op := .move (.tmp 1), type := 3, pos := "law.go:44", after := #[{ on := 8, ground := .guard }], guard := some (8, true) }) (v := .int .i64 c) rfl (by kernel_rfl) (by kernel_rfl) (by kernel_rfl) (fun _ _ _ h => h) (Or.inl ⟨by rfl, by intro w hSw; clear hSw; go_simp⟩) hS0 ?_
  try simp only [Act.put, List.setIfInBounds_toArray, List.set_cons_zero, List.set_cons_succ]
  refine wpAnyH_take (i := 15) (oi := { dst := some 90, op := .move (.tmp 2), type := 3, pos := "law.go:44", after := #[{ on := 8, ground := .guard }], guard := some (8, true) }) (v := .int .i64 h) rfl (by kernel_rfl) (by kernel_rfl) (by kernel_rfl) (fun _ _ _ h => h) (Or.inl ⟨by rfl, by intro w hSw; clear hSw; go_simp⟩) hS0 ?_
  try simp only [Act.put, List.setIfInBounds_toArray, List.set_cons_zero, List.set_cons_succ]
  refine wpAnyH_ready (rs := [12]) (by kernel_rfl) (by simp) ?_
  refine AllReadyH.cons (o := { dst := some 87, op := .call { callee := .value (.func 27), args := #[.tmp 84, .tmp 85, .tmp 86], argTypes := #[24, 3, 3] }, type := 25, pos := "law.go:44", after := #[{ on := 9, ground := .data }, { on := 10, ground := .data }, { on := 11, ground := .data }, { on := 8, ground := .chain }, { on := 8, ground := .guard }], guard := some (8, true) }) rfl (fun K hK => ?_) AllReadyH.nil
  go_simp
  refine (C3.out _).mono ?_
  rintro e v1 ⟨rfl, k1⟩
  go_wp2_with fail
  refine hK.out _ _ (KEEP.out _ _ hS0 k1) (fun hS1 => ?_)
  clear hK K
  try simp only [Act.put, List.setIfInBounds_toArray, List.set_cons_zero, List.set_cons_succ]
  refine wpAnyH_ready (rs := [16]) (by kernel_rfl) (by simp) ?_
  refine AllReadyH.cons (o := { dst := some 91, op := .call { callee := .value (.func 28), args := #[.tmp 88, .tmp 89, .tmp 90], argTypes := #[24, 3, 3] }, type := 25, pos := "law.go:44", after := #[{ on := 13, ground := .data }, { on := 14, ground := .data }, { on := 15, ground := .data }, { on := 12, ground := .chain }, { on := 8, ground := .guard }], guard := some (8, true) }) rfl (fun K hK => ?_) AllReadyH.nil
  go_simp
  refine (E3.out _).mono ?_
  rintro e v2 ⟨rfl, k2⟩
  go_wp2_with fail
  refine hK.out _ _ (KEEP.out _ _ hS1 k2) (fun hS2 => ?_)
  clear hK K
  try simp only [Act.put, List.setIfInBounds_toArray, List.set_cons_zero, List.set_cons_succ]
  refine wpAnyH_take (i := 17) (oi := { dst := some 92, op := .binOp .eql 25 (.tmp 87) (.tmp 91) 25, type := 4, pos := "law.go:44", after := #[{ on := 12, ground := .data }, { on := 16, ground := .data }, { on := 8, ground := .guard }], guard := some (8, true) }) (v := .bool true) rfl (by kernel_rfl) (by kernel_rfl) (by kernel_rfl) (fun _ _ _ h => h) (Or.inl ⟨by rfl, by intro w hSw; clear hSw; go_simp⟩) hS2 ?_
  try simp only [Act.put, List.setIfInBounds_toArray, List.set_cons_zero, List.set_cons_succ]
  refine wpAnyH_take (i := 18) (oi := { dst := some 93, op := .pick (.tmp 83) (.tmp 92) (.const (Value.bool false)), type := 4, pos := "law.go:44", after := #[{ on := 8, ground := .data }, { on := 17, ground := .data }], guard := none }) (v := .bool true) rfl (by kernel_rfl) (by kernel_rfl) (by kernel_rfl) (fun _ _ _ h => h) (Or.inl ⟨by rfl, by intro w hSw; clear hSw; go_simp⟩) hS2 ?_
  try simp only [Act.put, List.setIfInBounds_toArray, List.set_cons_zero, List.set_cons_succ]
  refine wpAnyH_take (i := 19) (oi := { dst := some 94, op := .move (.tmp 93), type := 4, pos := "law.go:44", after := #[{ on := 18, ground := .data }, { on := 16, ground := .chain }], guard := none }) (v := .bool true) rfl (by kernel_rfl) (by kernel_rfl) (by kernel_rfl) (fun _ _ _ h => h) (Or.inl ⟨by rfl, by intro w hSw; clear hSw; go_simp⟩) hS2 ?_
  try simp only [Act.put, List.setIfInBounds_toArray, List.set_cons_zero, List.set_cons_succ]
  refine wpAnyH_ready (rs := [20]) (by kernel_rfl) (by simp) ?_
  refine AllReadyH.cons (o := { dst := some 95, op := .call { callee := .value (.func 20), args := #[], argTypes := #[] }, type := 4, pos := "law.go:44", after := #[{ on := 19, ground := .chain }, { on := 19, ground := .guard }], guard := some (19, true) }) rfl (fun K hK => ?_) AllReadyH.nil
  go_simp
  refine (awake_ _).mono ?_
  rintro e v3 ⟨rfl, k3⟩
  go_wp2_with fail
  refine hK.out _ _ (KEEP.out _ _ hS2 k3) (fun hS3 => ?_)
  clear hK K
  try simp only [Act.put, List.setIfInBounds_toArray, List.set_cons_zero, List.set_cons_succ]
  refine wpAnyH_take (i := 21) (oi := { dst := some 96, op := .pick (.tmp 94) (.tmp 95) (.const (Value.bool false)), type := 4, pos := "law.go:44", after := #[{ on := 19, ground := .data }, { on := 20, ground := .data }], guard := none }) (v := .bool true) rfl (by kernel_rfl) (by kernel_rfl) (by kernel_rfl) (fun _ _ _ h => h) (Or.inl ⟨by rfl, by intro w hSw; clear hSw; go_simp⟩) hS3 ?_
  try simp only [Act.put, List.setIfInBounds_toArray, List.set_cons_zero, List.set_cons_succ]
  refine wpAnyH_take (i := 22) (oi := { dst := some 6, op := .assign (.tmp 96), type := 4, pos := "law.go:44", after := #[{ on := 21, ground := .data }, { on := 20, ground := .chain }, { on := 0, ground := .phase }, { on := 1, ground := .phase }, { on := 2, ground := .phase }, { on := 3, ground := .phase }, { on := 4, ground := .phase }, { on := 5, ground := .phase }, { on := 6, ground := .phase }, { on := 7, ground := .phase }, { on := 8, ground := .phase }, { on := 9, ground := .phase }, { on := 10, ground := .phase }, { on := 11, ground := .phase }, { on := 12, ground := .phase }, { on := 13, ground := .phase }, { on := 14, ground := .phase }, { on := 15, ground := .phase }, { on := 16, ground := .phase }, { on := 17, ground := .phase }, { on := 18, ground := .phase }, { on := 19, ground := .phase }, { on := 20, ground := .phase }, { on := 21, ground := .phase }], guard := none }) (v := .bool true) rfl (by kernel_rfl) (by kernel_rfl) (by kernel_rfl) (fun _ _ _ h => h) (Or.inl ⟨by rfl, by intro w hSw; clear hSw; go_simp⟩) hS3 ?_
  try simp only [Act.put, List.setIfInBounds_toArray, List.set_cons_zero, List.set_cons_succ]
  refine wpAnyH_done (by kernel_rfl) ?_ _
  go_wp2_with fail
  go_ret
  exact ⟨rfl, hS3.2⟩

theorem tellsLaw (x : Nat → Int) (c h : Int) (w : World) (hx : Kinds x) (i0 : -9223372036854775808 ≤ c) (j0 : c ≤ 9223372036854775807) (i1 : -9223372036854775808 ≤ h) (j1 : h ≤ 9223372036854775807) :
    Calls Try.prog 4 #[.agg (recC x).toArray, .int .i64 c, .int .i64 h] w fun r w' => r = .returned (.bool true) ∧ Bel w w' := tells x hx c h w
end Pd
end Go.Proofs.Ytlhahjpjlahdiaa
