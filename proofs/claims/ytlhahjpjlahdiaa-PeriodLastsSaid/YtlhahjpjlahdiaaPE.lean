/-
  Texts of this claim, put together: Pd5, Pd6, Pd7. What each one says, and under which conditions, stands ahead of it.
-/
import Derived.Test.YtlhahjpjlahdiaaPD

section
/-
  What period.Ripe, Alive, Noted and Aged answer. Conditions: the eleven numbers are of their kinds.
-/
namespace Go.Proofs.Ytlhahjpjlahdiaa
open Go.RowKit Go.Shelf
set_option linter.unusedVariables false
namespace Pd
open Kk Pm

set_option maxRecDepth 100000 in
set_option maxHeartbeats 4000000 in
theorem ripeC (x : Nat → Int) (hx : Kinds x) (c h : Int) (w : World) :
    Calls Try.prog 21 #[.agg (recC x).toArray, .int .i64 c, .int .i64 h] w fun e w' => e = .returned (.tuple #[.bool (ripB x c h), .int .i64 (e2 x c h)]) ∧ Bel w w' := by
  obtain ⟨D, hD⟩ : ∃ D, D = recC x := ⟨_, rfl⟩
  obtain ⟨W0, hW0⟩ : ∃ W0, w.alloc (.cells D.toArray 24) = W0 := ⟨_, rfl⟩
  have B0 := Lib.hid (show Bel w W0 by rw [← hW0]; exact (Bel.refl w).alloc _)
  have R0 := Lib.hid (show W0.rangeAt w.heap.size 0 D by rw [← hW0]; exact rngB (Blk.new w D.toArray 24))
  obtain ⟨p, hp⟩ : ∃ p, w.heap.size = p := ⟨_, rfl⟩
  have hp1 := Lib.hid (show p < W0.heap.size by rw [← hW0, ← hp, World.size_alloc]; omega)
  rw [hp] at R0
  have hDl : D.length = 11 := by rw [hD]; rfl
  obtain ⟨c0, hc0⟩ : ∃ k_, wi c = k_ := ⟨_, rfl⟩
  obtain ⟨c1, hc1⟩ : ∃ k_, wi h = k_ := ⟨_, rfl⟩
  obtain ⟨q, hq⟩ : ∃ q, er x [c0, c1] = q := ⟨_, rfl⟩
  obtain ⟨Y, hY⟩ : ∃ Y, recC (yz x q) = Y := ⟨_, rfl⟩
  have HC0 := Lib.hid (fun V => checkH c V)
  rw [hc0] at HC0
  have HC1 := Lib.hid (fun V => checkH h V)
  rw [hc1] at HC1
  have CK := Lib.hid (fun (V : World) (g : Nat) (hi : Ints .i64 V (some ⟨g, 0, none⟩) 2 [c0, c1]) => check_ x hx (some ⟨g, 0, none⟩) 2 2 [c0, c1] V (by omega) hi)
  rw [hq, hY, ← hD] at CK
  rw [← hD]
  have iD : (Try.prog.info? 24).map (·.size) = some D.length := by rw [hDl]; exact info_rec
  have uD := Try.underlying24
  have YL := Lib.hid (show Y.length = 11 by rw [← hY]; rfl)
  have YO := Lib.hid (all_oneCell_toArray (cs := Y) (by rw [← hY]; exact recC_cells _))
  have HDl := Lib.hid hDl
  have HX := Lib.hid hx
  have HP := Lib.hid hp
  have HW0 := Lib.hid hW0
  have HQ := Lib.hid (show e2 x c h = q by rw [← hq, ← hc0, ← hc1]; rfl)
  have HY := Lib.hid hY
  have HD := Lib.hid hD
  clear hx hp hD hW0 hq hY hDl hc0 hc1
  go_enter Try.func21, Try.ntmps21
  go_upto_region 1 with fail
  rw [HW0.out, HP.out]
  have KEEP := Lib.hid (show ∀ V V' : World, (V.rangeAt p 0 D ∧ Bel W0 V) → Bel V V' → (V'.rangeAt p 0 D ∧ Bel W0 V') from fun V V' h hb => ⟨rng_bel h.1 hb, h.2.trans hb⟩)
  go_cut [8, 9] (fun s8 s9 wx => ∃ g : Nat, s8 = .pointer (some ⟨g, 0, none⟩) ∧ s9 = .int .i64 q ∧ Hid (wx.rangeAt p 0 D ∧ wx.rangeAt g 0 Y ∧ Bel W0 wx))
  case first =>
    refine wp_region_held_drew (S := fun V => V.rangeAt p 0 D ∧ Bel W0 V) (by kernel_rfl) ⟨rng_bel R0.out (Bel.refl W0).drew, (Bel.refl W0).drew⟩ (fun hS0 => ?_)
    obtain ⟨w6, hw6⟩ : ∃ w6, W0.drew = w6 := ⟨_, rfl⟩
    rw [hw6] at hS0 ⊢
    clear hw6
    have hp1 := hp1.out
    refine wpAnyH_take (i := 0) (oi := { dst := some 11, op := .load 24 (.tmp 3), type := 24, pos := "period.go:47", after := #[], guard := none }) (v := .agg D.toArray) rfl (by kernel_rfl) (by kernel_rfl) (by kernel_rfl) (fun _ _ _ h => h) (yieldsIf_load_mid (by rfl) _ _ rfl _ _ rfl _ _ (fun w h => h.1) uD rfl iD) hS0 ?_
    try simp only [Act.put, List.setIfInBounds_toArray, List.set_cons_zero, List.set_cons_succ]
    refine wpAnyH_take (i := 1) (oi := { dst := some 12, op := .move (.tmp 1), type := 3, pos := "period.go:47", after := #[], guard := none }) (v := .int .i64 c) rfl (by kernel_rfl) (by kernel_rfl) (by kernel_rfl) (fun _ _ _ h => h) (Or.inl ⟨by rfl, by intro w hSw; clear hSw; go_simp⟩) hS0 ?_
    try simp only [Act.put, List.setIfInBounds_toArray, List.set_cons_zero, List.set_cons_succ]
    refine wpAnyH_take (i := 3) (oi := { dst := some 14, op := .move (.tmp 2), type := 3, pos := "period.go:47", after := #[], guard := none }) (v := .int .i64 h) rfl (by kernel_rfl) (by kernel_rfl) (by kernel_rfl) (fun _ _ _ h => h) (Or.inl ⟨by rfl, by intro w hSw; clear hSw; go_simp⟩) hS0 ?_
    try simp only [Act.put, List.setIfInBounds_toArray, List.set_cons_zero, List.set_cons_succ]
    refine wpAnyH_ready (rs := [2, 10]) (by kernel_rfl) (by simp) ?_
    refine AllReadyH.cons (o := { dst := some 13, op := .call { callee := .value (.func 34), args := #[.tmp 12], argTypes := #[43] }, type := 25, pos := "period.go:47", after := #[{ on := 1, ground := .data }], guard := none }) rfl (fun K hK => ?_) (AllReadyH.cons (o := { dst := some 8, op := .alloc 40, type := 0, pos := "period.go:47", after := #[], guard := none }) rfl (fun K hK => ?_) AllReadyH.nil)
    · go_simp
      refine (HC0.out _).mono ?_
      rintro e v1 ⟨rfl, rfl⟩
      go_wp2_with fail
      refine hK.out _ _ hS0 (fun _ => ?_)
      clear hK K
      try simp only [Act.put, List.setIfInBounds_toArray, List.set_cons_zero, List.set_cons_succ]
      refine wpAnyH_ready (rs := [4, 10]) (by kernel_rfl) (by simp) ?_
      refine AllReadyH.cons (o := { dst := some 15, op := .call { callee := .value (.func 34), args := #[.tmp 14], argTypes := #[43] }, type := 25, pos := "period.go:47", after := #[{ on := 3, ground := .data }, { on := 2, ground := .chain }], guard := none }) rfl (fun K hK => ?_) (AllReadyH.cons (o := { dst := some 8, op := .alloc 40, type := 0, pos := "period.go:47", after := #[], guard := none }) rfl (fun K hK => ?_) AllReadyH.nil)
      · go_simp
        refine (HC1.out _).mono ?_
        rintro e v2 ⟨rfl, rfl⟩
        go_wp2_with fail
        refine hK.out _ _ hS0 (fun _ => ?_)
        clear hK K
        try simp only [Act.put, List.setIfInBounds_toArray, List.set_cons_zero, List.set_cons_succ]
        refine wpAnyH_ready (rs := [5, 10]) (by kernel_rfl) (by simp) ?_
        refine AllReadyH.cons (o := { dst := some 16, op := .buildSlice 59 2 #[(0, .tmp 13), (1, .tmp 15)], type := 59, pos := "period.go:47", after := #[{ on := 2, ground := .data }, { on := 4, ground := .data }], guard := none }) rfl (fun K hK => ?_) (AllReadyH.cons (o := { dst := some 8, op := .alloc 40, type := 0, pos := "period.go:47", after := #[], guard := none }) rfl (fun K hK => ?_) AllReadyH.nil)
        · go_simp
          have hS3 := KEEP.out _ _ hS0 ((Bel.refl w6).alloc (.cells #[.int .i64 c0, .int .i64 c1] 25))
          refine hK.out _ _ hS3 (fun _ => ?_)
          clear hK K
          try simp only [Act.put, List.setIfInBounds_toArray, List.set_cons_zero, List.set_cons_succ]
          have L3 := lit2 w6 c0 c1 25
          obtain ⟨b, hb⟩ : ∃ b, w6.heap.size = b := ⟨_, rfl⟩
          obtain ⟨v3, hv⟩ : ∃ v, w6.alloc (.cells #[.int .i64 c0, .int .i64 c1] 25) = v := ⟨_, rfl⟩
          rw [hv] at hS3 L3 ⊢
          rw [hb] at L3 ⊢
          clear hb hv
          refine wpAnyH_ready (rs := [6, 10]) (by kernel_rfl) (by simp) ?_
          refine AllReadyH.cons (o := { dst := some 17, op := .call { callee := .value (.func 33), args := #[.tmp 11, .tmp 16], argTypes := #[24, 59] }, type := 41, pos := "period.go:47", after := #[{ on := 0, ground := .data }, { on := 5, ground := .data }, { on := 4, ground := .chain }], guard := none }) rfl (fun K hK => ?_) (AllReadyH.cons (o := { dst := some 8, op := .alloc 40, type := 0, pos := "period.go:47", after := #[], guard := none }) rfl (fun K hK => ?_) AllReadyH.nil)
          · go_simp
            refine (CK.out _ _ L3).mono ?_
            rintro e v4 ⟨rfl, k4⟩
            go_wp2_with fail
            have hS4 := KEEP.out _ _ hS3 k4
            refine hK.out _ _ hS4 (fun _ => ?_)
            clear hK K
            try simp only [Act.put, List.setIfInBounds_toArray, List.set_cons_zero, List.set_cons_succ]
            clear k4
            refine wpAnyH_take (i := 7) (oi := { dst := some 10, op := .move (.tmp 17), type := 41, pos := "period.go:47", after := #[{ on := 6, ground := .data }], guard := none }) (v := .tuple #[.agg Y.toArray, .int .i64 q]) rfl (by kernel_rfl) (by kernel_rfl) (by kernel_rfl) (fun _ _ _ h => h) (Or.inl ⟨by rfl, by intro w hSw; clear hSw; go_simp⟩) hS4 ?_
            try simp only [Act.put, List.setIfInBounds_toArray, List.set_cons_zero, List.set_cons_succ]
            refine wpAnyH_take (i := 8) (oi := { dst := some 18, op := .extract (.tmp 10) 0, type := 40, pos := "period.go:47", after := #[{ on := 7, ground := .data }], guard := none }) (v := .agg Y.toArray) rfl (by kernel_rfl) (by kernel_rfl) (by kernel_rfl) (fun _ _ _ h => h) (Or.inl ⟨by rfl, by intro w hSw; clear hSw; go_simp⟩) hS4 ?_
            try simp only [Act.put, List.setIfInBounds_toArray, List.set_cons_zero, List.set_cons_succ]
            refine wpAnyH_take (i := 9) (oi := { dst := some 19, op := .extract (.tmp 10) 1, type := 25, pos := "period.go:47", after := #[{ on := 7, ground := .data }, { on := 11, ground := .gcOnly .lateStores }], guard := none }) (v := .int .i64 q) rfl (by kernel_rfl) (by kernel_rfl) (by kernel_rfl) (fun _ _ _ h => h) (Or.inl ⟨by rfl, by intro w hSw; clear hSw; go_simp⟩) hS4 ?_
            try simp only [Act.put, List.setIfInBounds_toArray, List.set_cons_zero, List.set_cons_succ]
            refine wpAnyH_ready (rs := [10]) (by kernel_rfl) (by simp) ?_
            refine AllReadyH.cons (o := { dst := some 8, op := .alloc 40, type := 0, pos := "period.go:47", after := #[], guard := none }) rfl (fun K hK => ?_) AllReadyH.nil
            go_simp
            have hS5 := KEEP.out _ _ hS4 ((Bel.refl v4).alloc (.cells #[.int .i64 0, .int .i64 0, .int .i64 0, .int .i64 0, .int .i64 0, .int .i64 0, .int .i64 0, .int .u64 0, .int .u64 0, .int .i64 0, .int .u64 0] 40))
            refine hK.out _ _ hS5 (fun _ => ?_)
            clear hK K
            try simp only [Act.put, List.setIfInBounds_toArray, List.set_cons_zero, List.set_cons_succ]
            have G5 : Blk (v4.alloc (.cells #[.int .i64 0, .int .i64 0, .int .i64 0, .int .i64 0, .int .i64 0, .int .i64 0, .int .i64 0, .int .u64 0, .int .u64 0, .int .i64 0, .int .u64 0] 40)) v4.heap.size (recC fun _ => 0).toArray 40 := Blk.new v4 _ _
            have hg0 := Below.size hS4.2
            obtain ⟨g, hg⟩ : ∃ g, v4.heap.size = g := ⟨_, rfl⟩
            obtain ⟨v5, hv⟩ : ∃ v, v4.alloc (.cells #[.int .i64 0, .int .i64 0, .int .i64 0, .int .i64 0, .int .i64 0, .int .i64 0, .int .i64 0, .int .u64 0, .int .u64 0, .int .i64 0, .int .u64 0] 40) = v := ⟨_, rfl⟩
            rw [hv] at hS5 G5 ⊢
            rw [hg] at G5 hg0 ⊢
            clear hg hv
            refine wpAnyH_ready (rs := [11]) (by kernel_rfl) (by simp) ?_
            refine AllReadyH.cons (o := { dst := none, op := .store 40 (.tmp 8) (.tmp 18), type := 0, pos := "period.go:47", after := #[{ on := 10, ground := .data }, { on := 8, ground := .data }, { on := 6, ground := .chain }, { on := 0, ground := .phase }, { on := 1, ground := .phase }, { on := 2, ground := .phase }, { on := 3, ground := .phase }, { on := 4, ground := .phase }, { on := 5, ground := .phase }, { on := 6, ground := .phase }, { on := 7, ground := .phase }, { on := 8, ground := .phase }, { on := 9, ground := .textOnly .lateStores }, { on := 10, ground := .phase }], guard := none }) rfl (fun K hK => ?_) AllReadyH.nil
            rw [if_pos (by rfl)]
            refine wp_store_mid 40 (.tmp 8) (.tmp 18) rfl g 0 Y.toArray rfl rfl (put11 _ Y YL.out rfl G5).1 (by rw [List.size_toArray, YL.out]; exact info_chd) YO.out ?_
            refine hK.out _ _ (put_S hS5.1 hS5.2 hg0 YL.out G5) (fun hS6 => ?_)
            have E6 := put_E hS5.1 hS5.2 hg0 YL.out G5
            clear hK K
            try simp only [Act.put]
            refine wpAnyH_take (i := 12) (oi := { dst := some 9, op := .assign (.tmp 19), type := 25, pos := "period.go:47", after := #[{ on := 9, ground := .data }, { on := 11, ground := .chain }, { on := 0, ground := .phase }, { on := 1, ground := .phase }, { on := 2, ground := .phase }, { on := 3, ground := .phase }, { on := 4, ground := .phase }, { on := 5, ground := .phase }, { on := 6, ground := .phase }, { on := 7, ground := .phase }, { on := 8, ground := .phase }, { on := 9, ground := .phase }, { on := 10, ground := .phase }, { on := 11, ground := .phase }], guard := none }) (v := .int .i64 q) rfl (by kernel_rfl) (by kernel_rfl) (by kernel_rfl) (fun _ _ _ h => h) (Or.inl ⟨by rfl, by intro w hSw; clear hSw; go_simp⟩) hS6 ?_
            try simp only [Act.put, List.setIfInBounds_toArray, List.set_cons_zero, List.set_cons_succ]
            refine wpAnyH_done (by kernel_rfl) ?_ _
            go_wp2_with fail
            go_meet
            exact ⟨g, rfl, rfl, E6⟩
          · go_simp
            have hS7 := KEEP.out _ _ hS3 ((Bel.refl v3).alloc (.cells #[.int .i64 0, .int .i64 0, .int .i64 0, .int .i64 0, .int .i64 0, .int .i64 0, .int .i64 0, .int .u64 0, .int .u64 0, .int .i64 0, .int .u64 0] 40))
            refine hK.out _ _ hS7 (fun _ => ?_)
            clear hK K
            try simp only [Act.put, List.setIfInBounds_toArray, List.set_cons_zero, List.set_cons_succ]
            have G7 : Blk (v3.alloc (.cells #[.int .i64 0, .int .i64 0, .int .i64 0, .int .i64 0, .int .i64 0, .int .i64 0, .int .i64 0, .int .u64 0, .int .u64 0, .int .i64 0, .int .u64 0] 40)) v3.heap.size (recC fun _ => 0).toArray 40 := Blk.new v3 _ _
            have hg0 := Below.size hS3.2
            obtain ⟨g, hg⟩ : ∃ g, v3.heap.size = g := ⟨_, rfl⟩
            obtain ⟨v7, hv⟩ : ∃ v, v3.alloc (.cells #[.int .i64 0, .int .i64 0, .int .i64 0, .int .i64 0, .int .i64 0, .int .i64 0, .int .i64 0, .int .u64 0, .int .u64 0, .int .i64 0, .int .u64 0] 40) = v := ⟨_, rfl⟩
            rw [hv] at hS7 G7 ⊢
            rw [hg] at G7 hg0 ⊢
            have L7 := L3.bel (show Bel v3 v7 by rw [← hv]; exact (Bel.refl _).alloc _)
            clear hg hv
            refine wpAnyH_ready (rs := [6]) (by kernel_rfl) (by simp) ?_
            refine AllReadyH.cons (o := { dst := some 17, op := .call { callee := .value (.func 33), args := #[.tmp 11, .tmp 16], argTypes := #[24, 59] }, type := 41, pos := "period.go:47", after := #[{ on := 0, ground := .data }, { on := 5, ground := .data }, { on := 4, ground := .chain }], guard := none }) rfl (fun K hK => ?_) AllReadyH.nil
            go_simp
            refine (CK.out _ _ L7).mono ?_
            rintro e v8 ⟨rfl, k8⟩
            go_wp2_with fail
            have hS8 := KEEP.out _ _ hS7 k8
            refine hK.out _ _ hS8 (fun _ => ?_)
            clear hK K
            try simp only [Act.put, List.setIfInBounds_toArray, List.set_cons_zero, List.set_cons_succ]
            have G8 := G7.bel k8
            clear k8
            refine wpAnyH_take (i := 7) (oi := { dst := some 10, op := .move (.tmp 17), type := 41, pos := "period.go:47", after := #[{ on := 6, ground := .data }], guard := none }) (v := .tuple #[.agg Y.toArray, .int .i64 q]) rfl (by kernel_rfl) (by kernel_rfl) (by kernel_rfl) (fun _ _ _ h => h) (Or.inl ⟨by rfl, by intro w hSw; clear hSw; go_simp⟩) hS8 ?_
            try simp only [Act.put, List.setIfInBounds_toArray, List.set_cons_zero, List.set_cons_succ]
            refine wpAnyH_take (i := 8) (oi := { dst := some 18, op := .extract (.tmp 10) 0, type := 40, pos := "period.go:47", after := #[{ on := 7, ground := .data }], guard := none }) (v := .agg Y.toArray) rfl (by kernel_rfl) (by kernel_rfl) (by kernel_rfl) (fun _ _ _ h => h) (Or.inl ⟨by rfl, by intro w hSw; clear hSw; go_simp⟩) hS8 ?_
            try simp only [Act.put, List.setIfInBounds_toArray, List.set_cons_zero, List.set_cons_succ]
            refine wpAnyH_take (i := 9) (oi := { dst := some 19, op := .extract (.tmp 10) 1, type := 25, pos := "period.go:47", after := #[{ on := 7, ground := .data }, { on := 11, ground := .gcOnly .lateStores }], guard := none }) (v := .int .i64 q) rfl (by kernel_rfl) (by kernel_rfl) (by kernel_rfl) (fun _ _ _ h => h) (Or.inl ⟨by rfl, by intro w hSw; clear hSw; go_simp⟩) hS8 ?_
            try simp only [Act.put, List.setIfInBounds_toArray, List.set_cons_zero, List.set_cons_succ]
            refine wpAnyH_ready (rs := [11]) (by kernel_rfl) (by simp) ?_
            refine AllReadyH.cons (o := { dst := none, op := .store 40 (.tmp 8) (.tmp 18), type := 0, pos := "period.go:47", after := #[{ on := 10, ground := .data }, { on := 8, ground := .data }, { on := 6, ground := .chain }, { on := 0, ground := .phase }, { on := 1, ground := .phase }, { on := 2, ground := .phase }, { on := 3, ground := .phase }, { on := 4, ground := .phase }, { on := 5, ground := .phase }, { on := 6, ground := .phase }, { on := 7, ground := .phase }, { on := 8, ground := .phase }, { on := 9, ground := .textOnly .lateStores }, { on := 10, ground := .phase }], guard := none }) rfl (fun K hK => ?_) AllReadyH.nil
            rw [if_pos (by rfl)]
            refine wp_store_mid 40 (.tmp 8) (.tmp 18) rfl g 0 Y.toArray rfl rfl (put11 _ Y YL.out rfl G8).1 (by rw [List.size_toArray, YL.out]; exact info_chd) YO.out ?_
            refine hK.out _ _ (put_S hS8.1 hS8.2 hg0 YL.out G8) (fun hS9 => ?_)
            have E9 := put_E hS8.1 hS8.2 hg0 YL.out G8
            clear hK K
            try simp only [Act.put]
            refine wpAnyH_take (i := 12) (oi := { dst := some 9, op := .assign (.tmp 19), type := 25, pos := "period.go:47", after := #[{ on := 9, ground := .data }, { on := 11, ground := .chain }, { on := 0, ground := .phase }, { on := 1, ground := .phase }, { on := 2, ground := .phase }, { on := 3, ground := .phase }, { on := 4, ground := .phase }, { on := 5, ground := .phase }, { on := 6, ground := .phase }, { on := 7, ground := .phase }, { on := 8, ground := .phase }, { on := 9, ground := .phase }, { on := 10, ground := .phase }, { on := 11, ground := .phase }], guard := none }) (v := .int .i64 q) rfl (by kernel_rfl) (by kernel_rfl) (by kernel_rfl) (fun _ _ _ h => h) (Or.inl ⟨by rfl, by intro w hSw; clear hSw; go_simp⟩) hS9 ?_
            try simp only [Act.put, List.setIfInBounds_toArray, List.set_cons_zero, List.set_cons_succ]
            refine wpAnyH_done (by kernel_rfl) ?_ _
            go_wp2_with fail
            go_meet
            exact ⟨g, rfl, rfl, E9⟩
        · go_simp
          have hS10 := KEEP.out _ _ hS0 ((Bel.refl w6).alloc (.cells #[.int .i64 0, .int .i64 0, .int .i64 0, .int .i64 0, .int .i64 0, .int .i64 0, .int .i64 0, .int .u64 0, .int .u64 0, .int .i64 0, .int .u64 0] 40))
          refine hK.out _ _ hS10 (fun _ => ?_)
          clear hK K
          try simp only [Act.put, List.setIfInBounds_toArray, List.set_cons_zero, List.set_cons_succ]
          have G10 : Blk (w6.alloc (.cells #[.int .i64 0, .int .i64 0, .int .i64 0, .int .i64 0, .int .i64 0, .int .i64 0, .int .i64 0, .int .u64 0, .int .u64 0, .int .i64 0, .int .u64 0] 40)) w6.heap.size (recC fun _ => 0).toArray 40 := Blk.new w6 _ _
          have hg0 := Below.size hS0.2
          obtain ⟨g, hg⟩ : ∃ g, w6.heap.size = g := ⟨_, rfl⟩
          obtain ⟨v10, hv⟩ : ∃ v, w6.alloc (.cells #[.int .i64 0, .int .i64 0, .int .i64 0, .int .i64 0, .int .i64 0, .int .i64 0, .int .i64 0, .int .u64 0, .int .u64 0, .int .i64 0, .int .u64 0] 40) = v := ⟨_, rfl⟩
          rw [hv] at hS10 G10 ⊢
          rw [hg] at G10 hg0 ⊢
          clear hg hv
          refine wpAnyH_ready (rs := [5]) (by kernel_rfl) (by simp) ?_
          refine AllReadyH.cons (o := { dst := some 16, op := .buildSlice 59 2 #[(0, .tmp 13), (1, .tmp 15)], type := 59, pos := "period.go:47", after := #[{ on := 2, ground := .data }, { on := 4, ground := .data }], guard := none }) rfl (fun K hK => ?_) AllReadyH.nil
          go_simp
          have hS11 := KEEP.out _ _ hS10 ((Bel.refl v10).alloc (.cells #[.int .i64 c0, .int .i64 c1] 25))
          refine hK.out _ _ hS11 (fun _ => ?_)
          clear hK K
          try simp only [Act.put, List.setIfInBounds_toArray, List.set_cons_zero, List.set_cons_succ]
          have L11 := lit2 v10 c0 c1 25
          obtain ⟨b, hb⟩ : ∃ b, v10.heap.size = b := ⟨_, rfl⟩
          obtain ⟨v11, hv⟩ : ∃ v, v10.alloc (.cells #[.int .i64 c0, .int .i64 c1] 25) = v := ⟨_, rfl⟩
          rw [hv] at hS11 L11 ⊢
          rw [hb] at L11 ⊢
          have G11 := G10.bel (show Bel v10 v11 by rw [← hv]; exact (Bel.refl _).alloc _)
          clear hb hv
          refine wpAnyH_ready (rs := [6]) (by kernel_rfl) (by simp) ?_
          refine AllReadyH.cons (o := { dst := some 17, op := .call { callee := .value (.func 33), args := #[.tmp 11, .tmp 16], argTypes := #[24, 59] }, type := 41, pos := "period.go:47", after := #[{ on := 0, ground := .data }, { on := 5, ground := .data }, { on := 4, ground := .chain }], guard := none }) rfl (fun K hK => ?_) AllReadyH.nil
          go_simp
          refine (CK.out _ _ L11).mono ?_
          rintro e v12 ⟨rfl, k12⟩
          go_wp2_with fail
          have hS12 := KEEP.out _ _ hS11 k12
          refine hK.out _ _ hS12 (fun _ => ?_)
          clear hK K
          try simp only [Act.put, List.setIfInBounds_toArray, List.set_cons_zero, List.set_cons_succ]
          have G12 := G11.bel k12
          clear k12
          refine wpAnyH_take (i := 7) (oi := { dst := some 10, op := .move (.tmp 17), type := 41, pos := "period.go:47", after := #[{ on := 6, ground := .data }], guard := none }) (v := .tuple #[.agg Y.toArray, .int .i64 q]) rfl (by kernel_rfl) (by kernel_rfl) (by kernel_rfl) (fun _ _ _ h => h) (Or.inl ⟨by rfl, by intro w hSw; clear hSw; go_simp⟩) hS12 ?_
          try simp only [Act.put, List.setIfInBounds_toArray, List.set_cons_zero, List.set_cons_succ]
          refine wpAnyH_take (i := 8) (oi := { dst := some 18, op := .extract (.tmp 10) 0, type := 40, pos := "period.go:47", after := #[{ on := 7, ground := .data }], guard := none }) (v := .agg Y.toArray) rfl (by kernel_rfl) (by kernel_rfl) (by kernel_rfl) (fun _ _ _ h => h) (Or.inl ⟨by rfl, by intro w hSw; clear hSw; go_simp⟩) hS12 ?_
          try simp only [Act.put, List.setIfInBounds_toArray, List.set_cons_zero, List.set_cons_succ]
          refine wpAnyH_take (i := 9) (oi := { dst := some 19, op := .extract (.tmp 10) 1, type := 25, pos := "period.go:47", after := #[{ on := 7, ground := .data }, { on := 11, ground := .gcOnly .lateStores }], guard := none }) (v := .int .i64 q) rfl (by kernel_rfl) (by kernel_rfl) (by kernel_rfl) (fun _ _ _ h => h) (Or.inl ⟨by rfl, by intro w hSw; clear hSw; go_simp⟩) hS12 ?_
          try simp only [Act.put, List.setIfInBounds_toArray, List.set_cons_zero, List.set_cons_succ]
          refine wpAnyH_ready (rs := [11]) (by kernel_rfl) (by simp) ?_
          refine AllReadyH.cons (o := { dst := none, op := .store 40 (.tmp 8) (.tmp 18), type := 0, pos := "period.go:47", after := #[{ on := 10, ground := .data }, { on := 8, ground := .data }, { on := 6, ground := .chain }, { on := 0, ground := .phase }, { on := 1, ground := .phase }, { on := 2, ground := .phase }, { on := 3, ground := .phase }, { on := 4, ground := .phase }, { on := 5, ground := .phase }, { on := 6, ground := .phase }, { on := 7, ground := .phase }, { on := 8, ground := .phase }, { on := 9, ground := .textOnly .lateStores }, { on := 10, ground := .phase }], guard := none }) rfl (fun K hK => ?_) AllReadyH.nil
          rw [if_pos (by rfl)]
          refine wp_store_mid 40 (.tmp 8) (.tmp 18) rfl g 0 Y.toArray rfl rfl (put11 _ Y YL.out rfl G12).1 (by rw [List.size_toArray, YL.out]; exact info_chd) YO.out ?_
          refine hK.out _ _ (put_S hS12.1 hS12.2 hg0 YL.out G12) (fun hS13 => ?_)
          have E13 := put_E hS12.1 hS12.2 hg0 YL.out G12
          clear hK K
          try simp only [Act.put]
          refine wpAnyH_take (i := 12) (oi := { dst := some 9, op := .assign (.tmp 19), type := 25, pos := "period.go:47", after := #[{ on := 9, ground := .data }, { on := 11, ground := .chain }, { on := 0, ground := .phase }, { on := 1, ground := .phase }, { on := 2, ground := .phase }, { on := 3, ground := .phase }, { on := 4, ground := .phase }, { on := 5, ground := .phase }, { on := 6, ground := .phase }, { on := 7, ground := .phase }, { on := 8, ground := .phase }, { on := 9, ground := .phase }, { on := 10, ground := .phase }, { on := 11, ground := .phase }], guard := none }) (v := .int .i64 q) rfl (by kernel_rfl) (by kernel_rfl) (by kernel_rfl) (fun _ _ _ h => h) (Or.inl ⟨by rfl, by intro w hSw; clear hSw; go_simp⟩) hS13 ?_
          try simp only [Act.put, List.setIfInBounds_toArray, List.set_cons_zero, List.set_cons_succ]
          refine wpAnyH_done (by kernel_rfl) ?_ _
          go_wp2_with fail
          go_meet
          exact ⟨g, rfl, rfl, E13⟩
      · go_simp
        have hS14 := KEEP.out _ _ hS0 ((Bel.refl w6).alloc (.cells #[.int .i64 0, .int .i64 0, .int .i64 0, .int .i64 0, .int .i64 0, .int .i64 0, .int .i64 0, .int .u64 0, .int .u64 0, .int .i64 0, .int .u64 0] 40))
        refine hK.out _ _ hS14 (fun _ => ?_)
        clear hK K
        try simp only [Act.put, List.setIfInBounds_toArray, List.set_cons_zero, List.set_cons_succ]
        have G14 : Blk (w6.alloc (.cells #[.int .i64 0, .int .i64 0, .int .i64 0, .int .i64 0, .int .i64 0, .int .i64 0, .int .i64 0, .int .u64 0, .int .u64 0, .int .i64 0, .int .u64 0] 40)) w6.heap.size (recC fun _ => 0).toArray 40 := Blk.new w6 _ _
        have hg0 := Below.size hS0.2
        obtain ⟨g, hg⟩ : ∃ g, w6.heap.size = g := ⟨_, rfl⟩
        obtain ⟨v14, hv⟩ : ∃ v, w6.alloc (.cells #[.int .i64 0, .int .i64 0, .int .i64 0, .int .i64 0, .int .i64 0, .int .i64 0, .int .i64 0, .int .u64 0, .int .u64 0, .int .i64 0, .int .u64 0] 40) = v := ⟨_, rfl⟩
        rw [hv] at hS14 G14 ⊢
        rw [hg] at G14 hg0 ⊢
        clear hg hv
        refine wpAnyH_ready (rs := [4]) (by kernel_rfl) (by simp) ?_
        refine AllReadyH.cons (o := { dst := some 15, op := .call { callee := .value (.func 34), args := #[.tmp 14], argTypes := #[43] }, type := 25, pos := "period.go:47", after := #[{ on := 3, ground := .data }, { on := 2, ground := .chain }], guard := none }) rfl (fun K hK => ?_) AllReadyH.nil
        go_simp
        refine (HC1.out _).mono ?_
        rintro e v15 ⟨rfl, rfl⟩
        go_wp2_with fail
        refine hK.out _ _ hS14 (fun _ => ?_)
        clear hK K
        try simp only [Act.put, List.setIfInBounds_toArray, List.set_cons_zero, List.set_cons_succ]
        refine wpAnyH_ready (rs := [5]) (by kernel_rfl) (by simp) ?_
        refine AllReadyH.cons (o := { dst := some 16, op := .buildSlice 59 2 #[(0, .tmp 13), (1, .tmp 15)], type := 59, pos := "period.go:47", after := #[{ on := 2, ground := .data }, { on := 4, ground := .data }], guard := none }) rfl (fun K hK => ?_) AllReadyH.nil
        go_simp
        have hS16 := KEEP.out _ _ hS14 ((Bel.refl v14).alloc (.cells #[.int .i64 c0, .int .i64 c1] 25))
        refine hK.out _ _ hS16 (fun _ => ?_)
        clear hK K
        try simp only [Act.put, List.setIfInBounds_toArray, List.set_cons_zero, List.set_cons_succ]
        have L16 := lit2 v14 c0 c1 25
        obtain ⟨b, hb⟩ : ∃ b, v14.heap.size = b := ⟨_, rfl⟩
        obtain ⟨v16, hv⟩ : ∃ v, v14.alloc (.cells #[.int .i64 c0, .int .i64 c1] 25) = v := ⟨_, rfl⟩
        rw [hv] at hS16 L16 ⊢
        rw [hb] at L16 ⊢
        have G16 := G14.bel (show Bel v14 v16 by rw [← hv]; exact (Bel.refl _).alloc _)
        clear hb hv
        refine wpAnyH_ready (rs := [6]) (by kernel_rfl) (by simp) ?_
        refine AllReadyH.cons (o := { dst := some 17, op := .call { callee := .value (.func 33), args := #[.tmp 11, .tmp 16], argTypes := #[24, 59] }, type := 41, pos := "period.go:47", after := #[{ on := 0, ground := .data }, { on := 5, ground := .data }, { on := 4, ground := .chain }], guard := none }) rfl (fun K hK => ?_) AllReadyH.nil
        go_simp
        refine (CK.out _ _ L16).mono ?_
        rintro e v17 ⟨rfl, k17⟩
        go_wp2_with fail
        have hS17 := KEEP.out _ _ hS16 k17
        refine hK.out _ _ hS17 (fun _ => ?_)
        clear hK K
        try simp only [Act.put, List.setIfInBounds_toArray, List.set_cons_zero, List.set_cons_succ]
        have G17 := G16.bel k17
        clear k17
        refine wpAnyH_take (i := 7) (oi := { dst := some 10, op := .move (.tmp 17), type := 41, pos := "period.go:47", after := #[{ on := 6, ground := .data }], guard := none }) (v := .tuple #[.agg Y.toArray, .int .i64 q]) rfl (by kernel_rfl) (by kernel_rfl) (by kernel_rfl) (fun _ _ _ h => h) (Or.inl ⟨by rfl, by intro w hSw; clear hSw; go_simp⟩) hS17 ?_
        try simp only [Act.put, List.setIfInBounds_toArray, List.set_cons_zero, List.set_cons_succ]
        refine wpAnyH_take (i := 8) (oi := { dst := some 18, op := .extract (.tmp 10) 0, type := 40, pos := "period.go:47", after := #[{ on := 7, ground := .data }], guard := none }) (v := .agg Y.toArray) rfl (by kernel_rfl) (by kernel_rfl) (by kernel_rfl) (fun _ _ _ h => h) (Or.inl ⟨by rfl, by intro w hSw; clear hSw; go_simp⟩) hS17 ?_
        try simp only [Act.put, List.setIfInBounds_toArray, List.set_cons_zero, List.set_cons_succ]
        refine wpAnyH_take (i := 9) (oi := { dst := some 19, op := .extract (.tmp 10) 1, type := 25, pos := "period.go:47", after := #[{ on := 7, ground := .data }, { on := 11, ground := .gcOnly .lateStores }], guard := none }) (v := .int .i64 q) rfl (by kernel_rfl) (by kernel_rfl) (by kernel_rfl) (fun _ _ _ h => h) (Or.inl ⟨by rfl, by intro w hSw; clear hSw; go_simp⟩) hS17 ?_
        try simp only [Act.put, List.setIfInBounds_toArray, List.set_cons_zero, List.set_cons_succ]
        refine wpAnyH_ready (rs := [11]) (by kernel_rfl) (by simp) ?_
        refine AllReadyH.cons (o := { dst := none, op := .store 40 (.tmp 8) (.tmp 18), type := 0, pos := "period.go:47", after := #[{ on := 10, ground := .data }, { on := 8, ground := .data }, { on := 6, ground := .chain }, { on := 0, ground := .phase }, { on := 1, ground := .phase }, { on := 2, ground := .phase }, { on := 3, ground := .phase }, { on := 4, ground := .phase }, { on := 5, ground := .phase }, { on := 6, ground := .phase }, { on := 7, ground := .phase }, { on := 8, ground := .phase }, { on := 9, ground := .textOnly .lateStores }, { on := 10, ground := .phase }], guard := none }) rfl (fun K hK => ?_) AllReadyH.nil
        rw [if_pos (by rfl)]
        refine wp_store_mid 40 (.tmp 8) (.tmp 18) rfl g 0 Y.toArray rfl rfl (put11 _ Y YL.out rfl G17).1 (by rw [List.size_toArray, YL.out]; exact info_chd) YO.out ?_
        refine hK.out _ _ (put_S hS17.1 hS17.2 hg0 YL.out G17) (fun hS18 => ?_)
        have E18 := put_E hS17.1 hS17.2 hg0 YL.out G17
        clear hK K
        try simp only [Act.put]
        refine wpAnyH_take (i := 12) (oi := { dst := some 9, op := .assign (.tmp 19), type := 25, pos := "period.go:47", after := #[{ on := 9, ground := .data }, { on := 11, ground := .chain }, { on := 0, ground := .phase }, { on := 1, ground := .phase }, { on := 2, ground := .phase }, { on := 3, ground := .phase }, { on := 4, ground := .phase }, { on := 5, ground := .phase }, { on := 6, ground := .phase }, { on := 7, ground := .phase }, { on := 8, ground := .phase }, { on := 9, ground := .phase }, { on := 10, ground := .phase }, { on := 11, ground := .phase }], guard := none }) (v := .int .i64 q) rfl (by kernel_rfl) (by kernel_rfl) (by kernel_rfl) (fun _ _ _ h => h) (Or.inl ⟨by rfl, by intro w hSw; clear hSw; go_simp⟩) hS18 ?_
        try simp only [Act.put, List.setIfInBounds_toArray, List.set_cons_zero, List.set_cons_succ]
        refine wpAnyH_done (by kernel_rfl) ?_ _
        go_wp2_with fail
        go_meet
        exact ⟨g, rfl, rfl, E18⟩
    · go_simp
      have hS19 := KEEP.out _ _ hS0 ((Bel.refl w6).alloc (.cells #[.int .i64 0, .int .i64 0, .int .i64 0, .int .i64 0, .int .i64 0, .int .i64 0, .int .i64 0, .int .u64 0, .int .u64 0, .int .i64 0, .int .u64 0] 40))
      refine hK.out _ _ hS19 (fun _ => ?_)
      clear hK K
      try simp only [Act.put, List.setIfInBounds_toArray, List.set_cons_zero, List.set_cons_succ]
      have G19 : Blk (w6.alloc (.cells #[.int .i64 0, .int .i64 0, .int .i64 0, .int .i64 0, .int .i64 0, .int .i64 0, .int .i64 0, .int .u64 0, .int .u64 0, .int .i64 0, .int .u64 0] 40)) w6.heap.size (recC fun _ => 0).toArray 40 := Blk.new w6 _ _
      have hg0 := Below.size hS0.2
      obtain ⟨g, hg⟩ : ∃ g, w6.heap.size = g := ⟨_, rfl⟩
      obtain ⟨v19, hv⟩ : ∃ v, w6.alloc (.cells #[.int .i64 0, .int .i64 0, .int .i64 0, .int .i64 0, .int .i64 0, .int .i64 0, .int .i64 0, .int .u64 0, .int .u64 0, .int .i64 0, .int .u64 0] 40) = v := ⟨_, rfl⟩
      rw [hv] at hS19 G19 ⊢
      rw [hg] at G19 hg0 ⊢
      clear hg hv
      refine wpAnyH_ready (rs := [2]) (by kernel_rfl) (by simp) ?_
      refine AllReadyH.cons (o := { dst := some 13, op := .call { callee := .value (.func 34), args := #[.tmp 12], argTypes := #[43] }, type := 25, pos := "period.go:47", after := #[{ on := 1, ground := .data }], guard := none }) rfl (fun K hK => ?_) AllReadyH.nil
      go_simp
      refine (HC0.out _).mono ?_
      rintro e v20 ⟨rfl, rfl⟩
      go_wp2_with fail
      refine hK.out _ _ hS19 (fun _ => ?_)
      clear hK K
      try simp only [Act.put, List.setIfInBounds_toArray, List.set_cons_zero, List.set_cons_succ]
      refine wpAnyH_ready (rs := [4]) (by kernel_rfl) (by simp) ?_
      refine AllReadyH.cons (o := { dst := some 15, op := .call { callee := .value (.func 34), args := #[.tmp 14], argTypes := #[43] }, type := 25, pos := "period.go:47", after := #[{ on := 3, ground := .data }, { on := 2, ground := .chain }], guard := none }) rfl (fun K hK => ?_) AllReadyH.nil
      go_simp
      refine (HC1.out _).mono ?_
      rintro e v21 ⟨rfl, rfl⟩
      go_wp2_with fail
      refine hK.out _ _ hS19 (fun _ => ?_)
      clear hK K
      try simp only [Act.put, List.setIfInBounds_toArray, List.set_cons_zero, List.set_cons_succ]
      refine wpAnyH_ready (rs := [5]) (by kernel_rfl) (by simp) ?_
      refine AllReadyH.cons (o := { dst := some 16, op := .buildSlice 59 2 #[(0, .tmp 13), (1, .tmp 15)], type := 59, pos := "period.go:47", after := #[{ on := 2, ground := .data }, { on := 4, ground := .data }], guard := none }) rfl (fun K hK => ?_) AllReadyH.nil
      go_simp
      have hS22 := KEEP.out _ _ hS19 ((Bel.refl v19).alloc (.cells #[.int .i64 c0, .int .i64 c1] 25))
      refine hK.out _ _ hS22 (fun _ => ?_)
      clear hK K
      try simp only [Act.put, List.setIfInBounds_toArray, List.set_cons_zero, List.set_cons_succ]
      have L22 := lit2 v19 c0 c1 25
      obtain ⟨b, hb⟩ : ∃ b, v19.heap.size = b := ⟨_, rfl⟩
      obtain ⟨v22, hv⟩ : ∃ v, v19.alloc (.cells #[.int .i64 c0, .int .i64 c1] 25) = v := ⟨_, rfl⟩
      rw [hv] at hS22 L22 ⊢
      rw [hb] at L22 ⊢
      have G22 := G19.bel (show Bel v19 v22 by rw [← hv]; exact (Bel.refl _).alloc _)
      clear hb hv
      refine wpAnyH_ready (rs := [6]) (by kernel_rfl) (by simp) ?_
      refine AllReadyH.cons (o := { dst := some 17, op := .call { callee := .value (.func 33), args := #[.tmp 11, .tmp 16], argTypes := #[24, 59] }, type := 41, pos := "period.go:47", after := #[{ on := 0, ground := .data }, { on := 5, ground := .data }, { on := 4, ground := .chain }], guard := none }) rfl (fun K hK => ?_) AllReadyH.nil
      go_simp
      refine (CK.out _ _ L22).mono ?_
      rintro e v23 ⟨rfl, k23⟩
      go_wp2_with fail
      have hS23 := KEEP.out _ _ hS22 k23
      refine hK.out _ _ hS23 (fun _ => ?_)
      clear hK K
      try simp only [Act.put, List.setIfInBounds_toArray, List.set_cons_zero, List.set_cons_succ]
      have G23 := G22.bel k23
      clear k23
      refine wpAnyH_take (i := 7) (oi := { dst := some 10, op := .move (.tmp 17), type := 41, pos := "period.go:47", after := #[{ on := 6, ground := .data }], guard := none }) (v := .tuple #[.agg Y.toArray, .int .i64 q]) rfl (by kernel_rfl) (by kernel_rfl) (by kernel_rfl) (fun _ _ _ h => h) (Or.inl ⟨by rfl, by intro w hSw; clear hSw; go_simp⟩) hS23 ?_
      try simp only [Act.put, List.setIfInBounds_toArray, List.set_cons_zero, List.set_cons_succ]
      refine wpAnyH_take (i := 8) (oi := { dst := some 18, op := .extract (.tmp 10) 0, type := 40, pos := "period.go:47", after := #[{ on := 7, ground := .data }], guard := none }) (v := .agg Y.toArray) rfl (by kernel_rfl) (by kernel_rfl) (by kernel_rfl) (fun _ _ _ h => h) (Or.inl ⟨by rfl, by intro w hSw; clear hSw; go_simp⟩) hS23 ?_
      try simp only [Act.put, List.setIfInBounds_toArray, List.set_cons_zero, List.set_cons_succ]
      refine wpAnyH_take (i := 9) (oi := { dst := some 19, op := .extract (.tmp 10) 1, type := 25, pos := "period.go:47", after := #[{ on := 7, ground := .data }, { on := 11, ground := .gcOnly .lateStores }], guard := none }) (v := .int .i64 q) rfl (by kernel_rfl) (by kernel_rfl) (by kernel_rfl) (fun _ _ _ h => h) (Or.inl ⟨by rfl, by intro w hSw; clear hSw; go_simp⟩) hS23 ?_
      try simp only [Act.put, List.setIfInBounds_toArray, List.set_cons_zero, List.set_cons_succ]
      refine wpAnyH_ready (rs := [11]) (by kernel_rfl) (by simp) ?_
      refine AllReadyH.cons (o := { dst := none, op := .store 40 (.tmp 8) (.tmp 18), type := 0, pos := "period.go:47", after := #[{ on := 10, ground := .data }, { on := 8, ground := .data }, { on := 6, ground := .chain }, { on := 0, ground := .phase }, { on := 1, ground := .phase }, { on := 2, ground := .phase }, { on := 3, ground := .phase }, { on := 4, ground := .phase }, { on := 5, ground := .phase }, { on := 6, ground := .phase }, { on := 7, ground := .phase }, { on := 8, ground := .phase }, { on := 9, ground := .textOnly .lateStores }, { on := 10, ground := .phase }], guard := none }) rfl (fun K hK => ?_) AllReadyH.nil
      rw [if_pos (by rfl)]
      refine wp_store_mid 40 (.tmp 8) (.tmp 18) rfl g 0 Y.toArray rfl rfl (put11 _ Y YL.out rfl G23).1 (by rw [List.size_toArray, YL.out]; exact info_chd) YO.out ?_
      refine hK.out _ _ (put_S hS23.1 hS23.2 hg0 YL.out G23) (fun hS24 => ?_)
      have E24 := put_E hS23.1 hS23.2 hg0 YL.out G23
      clear hK K
      try simp only [Act.put]
      refine wpAnyH_take (i := 12) (oi := { dst := some 9, op := .assign (.tmp 19), type := 25, pos := "period.go:47", after := #[{ on := 9, ground := .data }, { on := 11, ground := .chain }, { on := 0, ground := .phase }, { on := 1, ground := .phase }, { on := 2, ground := .phase }, { on := 3, ground := .phase }, { on := 4, ground := .phase }, { on := 5, ground := .phase }, { on := 6, ground := .phase }, { on := 7, ground := .phase }, { on := 8, ground := .phase }, { on := 9, ground := .phase }, { on := 10, ground := .phase }, { on := 11, ground := .phase }], guard := none }) (v := .int .i64 q) rfl (by kernel_rfl) (by kernel_rfl) (by kernel_rfl) (fun _ _ _ h => h) (Or.inl ⟨by rfl, by intro w hSw; clear hSw; go_simp⟩) hS24 ?_
      try simp only [Act.put, List.setIfInBounds_toArray, List.set_cons_zero, List.set_cons_succ]
      refine wpAnyH_done (by kernel_rfl) ?_ _
      go_wp2_with fail
      go_meet
      exact ⟨g, rfl, rfl, E24⟩
  case rest =>
    obtain ⟨g, rfl, rfl, hS⟩ := hcut
    clear KEEP CK HC0 HC1
    have uC := Try.underlying40
    have iC := Lib.hid (show (Try.prog.info? 40).map (·.size) = some Y.length by rw [YL.out]; exact info_chd)
    by_cases h0 : q = 0
    · subst h0
      obtain ⟨hc, h1, h2, h3, h4⟩ := e2_zero HQ.out
      have HFt := Lib.hid (fit_of HX.out hc)
      have hY := HY.out
      rw [yz_zero] at hY
      have RG := Lib.hid (show wc.rangeAt g 0 (recC x) by rw [hY]; exact hS.out.2.1)
      have SI := Lib.hid (fun (n : Nat) => (since h c (wc.drewN n) h3 h4 h1 h2).mono fun e w' (k : _ ∧ _) => (⟨k.1, k.2.symm⟩ : _ ∧ _))
      clear hc hY
      have c0 := rec_cell RG.out 0 (by omega)
      rw [show kd 0 = .i64 from rfl] at c0
      obtain ⟨m, hm⟩ : ∃ m, x 0 = m := ⟨_, rfl⟩
      rw [hm] at c0
      have HV := Lib.hid (show ripB x c h = decide (h - c ≥ m) by unfold ripB; rw [HQ.out, hm]; simp)
      clear hm
      go_upto_region 2 with fail
      go_quiet ((go_at_call 38; exact Calls.quiet_of_same (SI.out _)))
      go_wp2_with fail
      go_ret2
      exact ⟨by rw [HV.out, HQ.out]; rfl, B0.out.trans (hS.out.2.2.drewN _)⟩
    · have hb : (q == 0) = false := by simpa using h0
      have hb2 : (q != 0) = true := by simpa using h0
      have HV := Lib.hid (show ripB x c h = false by unfold ripB; rw [HQ.out, decide_eq_false h0]; rfl)
      go_upto_region 2 with fail
      go_quiet (fail)
      go_wp2_with fail
      go_ret2
      exact ⟨by rw [HV.out, HQ.out]; rfl, B0.out.trans (hS.out.2.2.drewN _)⟩

set_option maxRecDepth 100000 in
set_option maxHeartbeats 4000000 in
theorem aliveC (x : Nat → Int) (hx : Kinds x) (c h : Int) (w : World) :
    Calls Try.prog 23 #[.agg (recC x).toArray, .int .i64 c, .int .i64 h] w fun e w' => e = .returned (.tuple #[.bool (aliB x c h), .int .i64 (e2 x c h)]) ∧ Bel w w' := by
  obtain ⟨D, hD⟩ : ∃ D, D = recC x := ⟨_, rfl⟩
  obtain ⟨W0, hW0⟩ : ∃ W0, w.alloc (.cells D.toArray 24) = W0 := ⟨_, rfl⟩
  have B0 := Lib.hid (show Bel w W0 by rw [← hW0]; exact (Bel.refl w).alloc _)
  have R0 := Lib.hid (show W0.rangeAt w.heap.size 0 D by rw [← hW0]; exact rngB (Blk.new w D.toArray 24))
  obtain ⟨p, hp⟩ : ∃ p, w.heap.size = p := ⟨_, rfl⟩
  have hp1 := Lib.hid (show p < W0.heap.size by rw [← hW0, ← hp, World.size_alloc]; omega)
  rw [hp] at R0
  have hDl : D.length = 11 := by rw [hD]; rfl
  obtain ⟨c0, hc0⟩ : ∃ k_, wi c = k_ := ⟨_, rfl⟩
  obtain ⟨c1, hc1⟩ : ∃ k_, wi h = k_ := ⟨_, rfl⟩
  obtain ⟨q, hq⟩ : ∃ q, er x [c0, c1] = q := ⟨_, rfl⟩
  obtain ⟨Y, hY⟩ : ∃ Y, recC (yz x q) = Y := ⟨_, rfl⟩
  have HC0 := Lib.hid (fun V => checkH c V)
  rw [hc0] at HC0
  have HC1 := Lib.hid (fun V => checkH h V)
  rw [hc1] at HC1
  have CK := Lib.hid (fun (V : World) (g : Nat) (hi : Ints .i64 V (some ⟨g, 0, none⟩) 2 [c0, c1]) => check_ x hx (some ⟨g, 0, none⟩) 2 2 [c0, c1] V (by omega) hi)
  rw [hq, hY, ← hD] at CK
  rw [← hD]
  have iD : (Try.prog.info? 24).map (·.size) = some D.length := by rw [hDl]; exact info_rec
  have uD := Try.underlying24
  have YL := Lib.hid (show Y.length = 11 by rw [← hY]; rfl)
  have YO := Lib.hid (all_oneCell_toArray (cs := Y) (by rw [← hY]; exact recC_cells _))
  have HDl := Lib.hid hDl
  have HX := Lib.hid hx
  have HP := Lib.hid hp
  have HW0 := Lib.hid hW0
  have HQ := Lib.hid (show e2 x c h = q by rw [← hq, ← hc0, ← hc1]; rfl)
  have HY := Lib.hid hY
  have HD := Lib.hid hD
  clear hx hp hD hW0 hq hY hDl hc0 hc1
  go_enter Try.func23, Try.ntmps23
  go_upto_region 1 with fail
  rw [HW0.out, HP.out]
  have KEEP := Lib.hid (show ∀ V V' : World, (V.rangeAt p 0 D ∧ Bel W0 V) → Bel V V' → (V'.rangeAt p 0 D ∧ Bel W0 V') from fun V V' h hb => ⟨rng_bel h.1 hb, h.2.trans hb⟩)
  go_cut [8, 9] (fun s8 s9 wx => ∃ g : Nat, s8 = .pointer (some ⟨g, 0, none⟩) ∧ s9 = .int .i64 q ∧ Hid (wx.rangeAt p 0 D ∧ wx.rangeAt g 0 Y ∧ Bel W0 wx))
  case first =>
    refine wp_region_held_drew (S := fun V => V.rangeAt p 0 D ∧ Bel W0 V) (by kernel_rfl) ⟨rng_bel R0.out (Bel.refl W0).drew, (Bel.refl W0).drew⟩ (fun hS0 => ?_)
    obtain ⟨w6, hw6⟩ : ∃ w6, W0.drew = w6 := ⟨_, rfl⟩
    rw [hw6] at hS0 ⊢
    clear hw6
    have hp1 := hp1.out
    refine wpAnyH_take (i := 0) (oi := { dst := some 11, op := .load 24 (.tmp 3), type := 24, pos := "period.go:53", after := #[], guard := none }) (v := .agg D.toArray) rfl (by kernel_rfl) (by kernel_rfl) (by kernel_rfl) (fun _ _ _ h => h) (yieldsIf_load_mid (by rfl) _ _ rfl _ _ rfl _ _ (fun w h => h.1) uD rfl iD) hS0 ?_
    try simp only [Act.put, List.setIfInBounds_toArray, List.set_cons_zero, List.set_cons_succ]
    refine wpAnyH_take (i := 1) (oi := { dst := some 12, op := .move (.tmp 1), type := 3, pos := "period.go:53", after := #[], guard := none }) (v := .int .i64 c) rfl (by kernel_rfl) (by kernel_rfl) (by kernel_rfl) (fun _ _ _ h => h) (Or.inl ⟨by rfl, by intro w hSw; clear hSw; go_simp⟩) hS0 ?_
    try simp only [Act.put, List.setIfInBounds_toArray, List.set_cons_zero, List.set_cons_succ]
    refine wpAnyH_take (i := 3) (oi := { dst := some 14, op := .move (.tmp 2), type := 3, pos := "period.go:53", after := #[], guard := none }) (v := .int .i64 h) rfl (by kernel_rfl) (by kernel_rfl) (by kernel_rfl) (fun _ _ _ h => h) (Or.inl ⟨by rfl, by intro w hSw; clear hSw; go_simp⟩) hS0 ?_
    try simp only [Act.put, List.setIfInBounds_toArray, List.set_cons_zero, List.set_cons_succ]
    refine wpAnyH_ready (rs := [2, 10]) (by kernel_rfl) (by simp) ?_
    refine AllReadyH.cons (o := { dst := some 13, op := .call { callee := .value (.func 34), args := #[.tmp 12], argTypes := #[43] }, type := 25, pos := "period.go:53", after := #[{ on := 1, ground := .data }], guard := none }) rfl (fun K hK => ?_) (AllReadyH.cons (o := { dst := some 8, op := .alloc 40, type := 0, pos := "period.go:53", after := #[], guard := none }) rfl (fun K hK => ?_) AllReadyH.nil)
    · go_simp
      refine (HC0.out _).mono ?_
      rintro e v1 ⟨rfl, rfl⟩
      go_wp2_with fail
      refine hK.out _ _ hS0 (fun _ => ?_)
      clear hK K
      try simp only [Act.put, List.setIfInBounds_toArray, List.set_cons_zero, List.set_cons_succ]
      refine wpAnyH_ready (rs := [4, 10]) (by kernel_rfl) (by simp) ?_
      refine AllReadyH.cons (o := { dst := some 15, op := .call { callee := .value (.func 34), args := #[.tmp 14], argTypes := #[43] }, type := 25, pos := "period.go:53", after := #[{ on := 3, ground := .data }, { on := 2, ground := .chain }], guard := none }) rfl (fun K hK => ?_) (AllReadyH.cons (o := { dst := some 8, op := .alloc 40, type := 0, pos := "period.go:53", after := #[], guard := none }) rfl (fun K hK => ?_) AllReadyH.nil)
      · go_simp
        refine (HC1.out _).mono ?_
        rintro e v2 ⟨rfl, rfl⟩
        go_wp2_with fail
        refine hK.out _ _ hS0 (fun _ => ?_)
        clear hK K
        try simp only [Act.put, List.setIfInBounds_toArray, List.set_cons_zero, List.set_cons_succ]
        refine wpAnyH_ready (rs := [5, 10]) (by kernel_rfl) (by simp) ?_
        refine AllReadyH.cons (o := { dst := some 16, op := .buildSlice 59 2 #[(0, .tmp 13), (1, .tmp 15)], type := 59, pos := "period.go:53", after := #[{ on := 2, ground := .data }, { on := 4, ground := .data }], guard := none }) rfl (fun K hK => ?_) (AllReadyH.cons (o := { dst := some 8, op := .alloc 40, type := 0, pos := "period.go:53", after := #[], guard := none }) rfl (fun K hK => ?_) AllReadyH.nil)
        · go_simp
          have hS3 := KEEP.out _ _ hS0 ((Bel.refl w6).alloc (.cells #[.int .i64 c0, .int .i64 c1] 25))
          refine hK.out _ _ hS3 (fun _ => ?_)
          clear hK K
          try simp only [Act.put, List.setIfInBounds_toArray, List.set_cons_zero, List.set_cons_succ]
          have L3 := lit2 w6 c0 c1 25
          obtain ⟨b, hb⟩ : ∃ b, w6.heap.size = b := ⟨_, rfl⟩
          obtain ⟨v3, hv⟩ : ∃ v, w6.alloc (.cells #[.int .i64 c0, .int .i64 c1] 25) = v := ⟨_, rfl⟩
          rw [hv] at hS3 L3 ⊢
          rw [hb] at L3 ⊢
          clear hb hv
          refine wpAnyH_ready (rs := [6, 10]) (by kernel_rfl) (by simp) ?_
          refine AllReadyH.cons (o := { dst := some 17, op := .call { callee := .value (.func 33), args := #[.tmp 11, .tmp 16], argTypes := #[24, 59] }, type := 41, pos := "period.go:53", after := #[{ on := 0, ground := .data }, { on := 5, ground := .data }, { on := 4, ground := .chain }], guard := none }) rfl (fun K hK => ?_) (AllReadyH.cons (o := { dst := some 8, op := .alloc 40, type := 0, pos := "period.go:53", after := #[], guard := none }) rfl (fun K hK => ?_) AllReadyH.nil)
          · go_simp
            refine (CK.out _ _ L3).mono ?_
            rintro e v4 ⟨rfl, k4⟩
            go_wp2_with fail
            have hS4 := KEEP.out _ _ hS3 k4
            refine hK.out _ _ hS4 (fun _ => ?_)
            clear hK K
            try simp only [Act.put, List.setIfInBounds_toArray, List.set_cons_zero, List.set_cons_succ]
            clear k4
            refine wpAnyH_take (i := 7) (oi := { dst := some 10, op := .move (.tmp 17), type := 41, pos := "period.go:53", after := #[{ on := 6, ground := .data }], guard := none }) (v := .tuple #[.agg Y.toArray, .int .i64 q]) rfl (by kernel_rfl) (by kernel_rfl) (by kernel_rfl) (fun _ _ _ h => h) (Or.inl ⟨by rfl, by intro w hSw; clear hSw; go_simp⟩) hS4 ?_
            try simp only [Act.put, List.setIfInBounds_toArray, List.set_cons_zero, List.set_cons_succ]
            refine wpAnyH_take (i := 8) (oi := { dst := some 18, op := .extract (.tmp 10) 0, type := 40, pos := "period.go:53", after := #[{ on := 7, ground := .data }], guard := none }) (v := .agg Y.toArray) rfl (by kernel_rfl) (by kernel_rfl) (by kernel_rfl) (fun _ _ _ h => h) (Or.inl ⟨by rfl, by intro w hSw; clear hSw; go_simp⟩) hS4 ?_
            try simp only [Act.put, List.setIfInBounds_toArray, List.set_cons_zero, List.set_cons_succ]
            refine wpAnyH_take (i := 9) (oi := { dst := some 19, op := .extract (.tmp 10) 1, type := 25, pos := "period.go:53", after := #[{ on := 7, ground := .data }, { on := 11, ground := .gcOnly .lateStores }], guard := none }) (v := .int .i64 q) rfl (by kernel_rfl) (by kernel_rfl) (by kernel_rfl) (fun _ _ _ h => h) (Or.inl ⟨by rfl, by intro w hSw; clear hSw; go_simp⟩) hS4 ?_
            try simp only [Act.put, List.setIfInBounds_toArray, List.set_cons_zero, List.set_cons_succ]
            refine wpAnyH_ready (rs := [10]) (by kernel_rfl) (by simp) ?_
            refine AllReadyH.cons (o := { dst := some 8, op := .alloc 40, type := 0, pos := "period.go:53", after := #[], guard := none }) rfl (fun K hK => ?_) AllReadyH.nil
            go_simp
            have hS5 := KEEP.out _ _ hS4 ((Bel.refl v4).alloc (.cells #[.int .i64 0, .int .i64 0, .int .i64 0, .int .i64 0, .int .i64 0, .int .i64 0, .int .i64 0, .int .u64 0, .int .u64 0, .int .i64 0, .int .u64 0] 40))
            refine hK.out _ _ hS5 (fun _ => ?_)
            clear hK K
            try simp only [Act.put, List.setIfInBounds_toArray, List.set_cons_zero, List.set_cons_succ]
            have G5 : Blk (v4.alloc (.cells #[.int .i64 0, .int .i64 0, .int .i64 0, .int .i64 0, .int .i64 0, .int .i64 0, .int .i64 0, .int .u64 0, .int .u64 0, .int .i64 0, .int .u64 0] 40)) v4.heap.size (recC fun _ => 0).toArray 40 := Blk.new v4 _ _
            have hg0 := Below.size hS4.2
            obtain ⟨g, hg⟩ : ∃ g, v4.heap.size = g := ⟨_, rfl⟩
            obtain ⟨v5, hv⟩ : ∃ v, v4.alloc (.cells #[.int .i64 0, .int .i64 0, .int .i64 0, .int .i64 0, .int .i64 0, .int .i64 0, .int .i64 0, .int .u64 0, .int .u64 0, .int .i64 0, .int .u64 0] 40) = v := ⟨_, rfl⟩
            rw [hv] at hS5 G5 ⊢
            rw [hg] at G5 hg0 ⊢
            clear hg hv
            refine wpAnyH_ready (rs := [11]) (by kernel_rfl) (by simp) ?_
            refine AllReadyH.cons (o := { dst := none, op := .store 40 (.tmp 8) (.tmp 18), type := 0, pos := "period.go:53", after := #[{ on := 10, ground := .data }, { on := 8, ground := .data }, { on := 6, ground := .chain }, { on := 0, ground := .phase }, { on := 1, ground := .phase }, { on := 2, ground := .phase }, { on := 3, ground := .phase }, { on := 4, ground := .phase }, { on := 5, ground := .phase }, { on := 6, ground := .phase }, { on := 7, ground := .phase }, { on := 8, ground := .phase }, { on := 9, ground := .textOnly .lateStores }, { on := 10, ground := .phase }], guard := none }) rfl (fun K hK => ?_) AllReadyH.nil
            rw [if_pos (by rfl)]
            refine wp_store_mid 40 (.tmp 8) (.tmp 18) rfl g 0 Y.toArray rfl rfl (put11 _ Y YL.out rfl G5).1 (by rw [List.size_toArray, YL.out]; exact info_chd) YO.out ?_
            refine hK.out _ _ (put_S hS5.1 hS5.2 hg0 YL.out G5) (fun hS6 => ?_)
            have E6 := put_E hS5.1 hS5.2 hg0 YL.out G5
            clear hK K
            try simp only [Act.put]
            refine wpAnyH_take (i := 12) (oi := { dst := some 9, op := .assign (.tmp 19), type := 25, pos := "period.go:53", after := #[{ on := 9, ground := .data }, { on := 11, ground := .chain }, { on := 0, ground := .phase }, { on := 1, ground := .phase }, { on := 2, ground := .phase }, { on := 3, ground := .phase }, { on := 4, ground := .phase }, { on := 5, ground := .phase }, { on := 6, ground := .phase }, { on := 7, ground := .phase }, { on := 8, ground := .phase }, { on := 9, ground := .phase }, { on := 10, ground := .phase }, { on := 11, ground := .phase }], guard := none }) (v := .int .i64 q) rfl (by kernel_rfl) (by kernel_rfl) (by kernel_rfl) (fun _ _ _ h => h) (Or.inl ⟨by rfl, by intro w hSw; clear hSw; go_simp⟩) hS6 ?_
            try simp only [Act.put, List.setIfInBounds_toArray, List.set_cons_zero, List.set_cons_succ]
            refine wpAnyH_done (by kernel_rfl) ?_ _
            go_wp2_with fail
            go_meet
            exact ⟨g, rfl, rfl, E6⟩
          · go_simp
            have hS7 := KEEP.out _ _ hS3 ((Bel.refl v3).alloc (.cells #[.int .i64 0, .int .i64 0, .int .i64 0, .int .i64 0, .int .i64 0, .int .i64 0, .int .i64 0, .int .u64 0, .int .u64 0, .int .i64 0, .int .u64 0] 40))
            refine hK.out _ _ hS7 (fun _ => ?_)
            clear hK K
            try simp only [Act.put, List.setIfInBounds_toArray, List.set_cons_zero, List.set_cons_succ]
            have G7 : Blk (v3.alloc (.cells #[.int .i64 0, .int .i64 0, .int .i64 0, .int .i64 0, .int .i64 0, .int .i64 0, .int .i64 0, .int .u64 0, .int .u64 0, .int .i64 0, .int .u64 0] 40)) v3.heap.size (recC fun _ => 0).toArray 40 := Blk.new v3 _ _
            have hg0 := Below.size hS3.2
            obtain ⟨g, hg⟩ : ∃ g, v3.heap.size = g := ⟨_, rfl⟩
            obtain ⟨v7, hv⟩ : ∃ v, v3.alloc (.cells #[.int .i64 0, .int .i64 0, .int .i64 0, .int .i64 0, .int .i64 0, .int .i64 0, .int .i64 0, .int .u64 0, .int .u64 0, .int .i64 0, .int .u64 0] 40) = v := ⟨_, rfl⟩
            rw [hv] at hS7 G7 ⊢
            rw [hg] at G7 hg0 ⊢
            have L7 := L3.bel (show Bel v3 v7 by rw [← hv]; exact (Bel.refl _).alloc _)
            clear hg hv
            refine wpAnyH_ready (rs := [6]) (by kernel_rfl) (by simp) ?_
            refine AllReadyH.cons (o := { dst := some 17, op := .call { callee := .value (.func 33), args := #[.tmp 11, .tmp 16], argTypes := #[24, 59] }, type := 41, pos := "period.go:53", after := #[{ on := 0, ground := .data }, { on := 5, ground := .data }, { on := 4, ground := .chain }], guard := none }) rfl (fun K hK => ?_) AllReadyH.nil
            go_simp
            refine (CK.out _ _ L7).mono ?_
            rintro e v8 ⟨rfl, k8⟩
            go_wp2_with fail
            have hS8 := KEEP.out _ _ hS7 k8
            refine hK.out _ _ hS8 (fun _ => ?_)
            clear hK K
            try simp only [Act.put, List.setIfInBounds_toArray, List.set_cons_zero, List.set_cons_succ]
            have G8 := G7.bel k8
            clear k8
            refine wpAnyH_take (i := 7) (oi := { dst := some 10, op := .move (.tmp 17), type := 41, pos := "period.go:53", after := #[{ on := 6, ground := .data }], guard := none }) (v := .tuple #[.agg Y.toArray, .int .i64 q]) rfl (by kernel_rfl) (by kernel_rfl) (by kernel_rfl) (fun _ _ _ h => h) (Or.inl ⟨by rfl, by intro w hSw; clear hSw; go_simp⟩) hS8 ?_
            try simp only [Act.put, List.setIfInBounds_toArray, List.set_cons_zero, List.set_cons_succ]
            refine wpAnyH_take (i := 8) (oi := { dst := some 18, op := .extract (.tmp 10) 0, type := 40, pos := "period.go:53", after := #[{ on := 7, ground := .data }], guard := none }) (v := .agg Y.toArray) rfl (by kernel_rfl) (by kernel_rfl) (by kernel_rfl) (fun _ _ _ h => h) (Or.inl ⟨by rfl, by intro w hSw; clear hSw; go_simp⟩) hS8 ?_
            try simp only [Act.put, List.setIfInBounds_toArray, List.set_cons_zero, List.set_cons_succ]
            refine wpAnyH_take (i := 9) (oi := { dst := some 19, op := .extract (.tmp 10) 1, type := 25, pos := "period.go:53", after := #[{ on := 7, ground := .data }, { on := 11, ground := .gcOnly .lateStores }], guard := none }) (v := .int .i64 q) rfl (by kernel_rfl) (by kernel_rfl) (by kernel_rfl) (fun _ _ _ h => h) (Or.inl ⟨by rfl, by intro w hSw; clear hSw; go_simp⟩) hS8 ?_
            try simp only [Act.put, List.setIfInBounds_toArray, List.set_cons_zero, List.set_cons_succ]
            refine wpAnyH_ready (rs := [11]) (by kernel_rfl) (by simp) ?_
            refine AllReadyH.cons (o := { dst := none, op := .store 40 (.tmp 8) (.tmp 18), type := 0, pos := "period.go:53", after := #[{ on := 10, ground := .data }, { on := 8, ground := .data }, { on := 6, ground := .chain }, { on := 0, ground := .phase }, { on := 1, ground := .phase }, { on := 2, ground := .phase }, { on := 3, ground := .phase }, { on := 4, ground := .phase }, { on := 5, ground := .phase }, { on := 6, ground := .phase }, { on := 7, ground := .phase }, { on := 8, ground := .phase }, { on := 9, ground := .textOnly .lateStores }, { on := 10, ground := .phase }], guard := none }) rfl (fun K hK => ?_) AllReadyH.nil
            rw [if_pos (by rfl)]
            refine wp_store_mid 40 (.tmp 8) (.tmp 18) rfl g 0 Y.toArray rfl rfl (put11 _ Y YL.out rfl G8).1 (by rw [List.size_toArray, YL.out]; exact info_chd) YO.out ?_
            refine hK.out _ _ (put_S hS8.1 hS8.2 hg0 YL.out G8) (fun hS9 => ?_)
            have E9 := put_E hS8.1 hS8.2 hg0 YL.out G8
            clear hK K
            try simp only [Act.put]
            refine wpAnyH_take (i := 12) (oi := { dst := some 9, op := .assign (.tmp 19), type := 25, pos := "period.go:53", after := #[{ on := 9, ground := .data }, { on := 11, ground := .chain }, { on := 0, ground := .phase }, { on := 1, ground := .phase }, { on := 2, ground := .phase }, { on := 3, ground := .phase }, { on := 4, ground := .phase }, { on := 5, ground := .phase }, { on := 6, ground := .phase }, { on := 7, ground := .phase }, { on := 8, ground := .phase }, { on := 9, ground := .phase }, { on := 10, ground := .phase }, { on := 11, ground := .phase }], guard := none }) (v := .int .i64 q) rfl (by kernel_rfl) (by kernel_rfl) (by kernel_rfl) (fun _ _ _ h => h) (Or.inl ⟨by rfl, by intro w hSw; clear hSw; go_simp⟩) hS9 ?_
            try simp only [Act.put, List.setIfInBounds_toArray, List.set_cons_zero, List.set_cons_succ]
            refine wpAnyH_done (by kernel_rfl) ?_ _
            go_wp2_with fail
            go_meet
            exact ⟨g, rfl, rfl, E9⟩
        · go_simp
          have hS10 := KEEP.out _ _ hS0 ((Bel.refl w6).alloc (.cells #[.int .i64 0, .int .i64 0, .int .i64 0, .int .i64 0, .int .i64 0, .int .i64 0, .int .i64 0, .int .u64 0, .int .u64 0, .int .i64 0, .int .u64 0] 40))
          refine hK.out _ _ hS10 (fun _ => ?_)
          clear hK K
          try simp only [Act.put, List.setIfInBounds_toArray, List.set_cons_zero, List.set_cons_succ]
          have G10 : Blk (w6.alloc (.cells #[.int .i64 0, .int .i64 0, .int .i64 0, .int .i64 0, .int .i64 0, .int .i64 0, .int .i64 0, .int .u64 0, .int .u64 0, .int .i64 0, .int .u64 0] 40)) w6.heap.size (recC fun _ => 0).toArray 40 := Blk.new w6 _ _
          have hg0 := Below.size hS0.2
          obtain ⟨g, hg⟩ : ∃ g, w6.heap.size = g := ⟨_, rfl⟩
          obtain ⟨v10, hv⟩ : ∃ v, w6.alloc (.cells #[.int .i64 0, .int .i64 0, .int .i64 0, .int .i64 0, .int .i64 0, .int .i64 0, .int .i64 0, .int .u64 0, .int .u64 0, .int .i64 0, .int .u64 0] 40) = v := ⟨_, rfl⟩
          rw [hv] at hS10 G10 ⊢
          rw [hg] at G10 hg0 ⊢
          clear hg hv
          refine wpAnyH_ready (rs := [5]) (by kernel_rfl) (by simp) ?_
          refine AllReadyH.cons (o := { dst := some 16, op := .buildSlice 59 2 #[(0, .tmp 13), (1, .tmp 15)], type := 59, pos := "period.go:53", after := #[{ on := 2, ground := .data }, { on := 4, ground := .data }], guard := none }) rfl (fun K hK => ?_) AllReadyH.nil
          go_simp
          have hS11 := KEEP.out _ _ hS10 ((Bel.refl v10).alloc (.cells #[.int .i64 c0, .int .i64 c1] 25))
          refine hK.out _ _ hS11 (fun _ => ?_)
          clear hK K
          try simp only [Act.put, List.setIfInBounds_toArray, List.set_cons_zero, List.set_cons_succ]
          have L11 := lit2 v10 c0 c1 25
          obtain ⟨b, hb⟩ : ∃ b, v10.heap.size = b := ⟨_, rfl⟩
          obtain ⟨v11, hv⟩ : ∃ v, v10.alloc (.cells #[.int .i64 c0, .int .i64 c1] 25) = v := ⟨_, rfl⟩
          rw [hv] at hS11 L11 ⊢
          rw [hb] at L11 ⊢
          have G11 := G10.bel (show Bel v10 v11 by rw [← hv]; exact (Bel.refl _).alloc _)
          clear hb hv
          refine wpAnyH_ready (rs := [6]) (by kernel_rfl) (by simp) ?_
          refine AllReadyH.cons (o := { dst := some 17, op := .call { callee := .value (.func 33), args := #[.tmp 11, .tmp 16], argTypes := #[24, 59] }, type := 41, pos := "period.go:53", after := #[{ on := 0, ground := .data }, { on := 5, ground := .data }, { on := 4, ground := .chain }], guard := none }) rfl (fun K hK => ?_) AllReadyH.nil
          go_simp
          refine (CK.out _ _ L11).mono ?_
          rintro e v12 ⟨rfl, k12⟩
          go_wp2_with fail
          have hS12 := KEEP.out _ _ hS11 k12
          refine hK.out _ _ hS12 (fun _ => ?_)
          clear hK K
          try simp only [Act.put, List.setIfInBounds_toArray, List.set_cons_zero, List.set_cons_succ]
          have G12 := G11.bel k12
          clear k12
          refine wpAnyH_take (i := 7) (oi := { dst := some 10, op := .move (.tmp 17), type := 41, pos := "period.go:53", after := #[{ on := 6, ground := .data }], guard := none }) (v := .tuple #[.agg Y.toArray, .int .i64 q]) rfl (by kernel_rfl) (by kernel_rfl) (by kernel_rfl) (fun _ _ _ h => h) (Or.inl ⟨by rfl, by intro w hSw; clear hSw; go_simp⟩) hS12 ?_
          try simp only [Act.put, List.setIfInBounds_toArray, List.set_cons_zero, List.set_cons_succ]
          refine wpAnyH_take (i := 8) (oi := { dst := some 18, op := .extract (.tmp 10) 0, type := 40, pos := "period.go:53", after := #[{ on := 7, ground := .data }], guard := none }) (v := .agg Y.toArray) rfl (by kernel_rfl) (by kernel_rfl) (by kernel_rfl) (fun _ _ _ h => h) (Or.inl ⟨by rfl, by intro w hSw; clear hSw; go_simp⟩) hS12 ?_
          try simp only [Act.put, List.setIfInBounds_toArray, List.set_cons_zero, List.set_cons_succ]
          refine wpAnyH_take (i := 9) (oi := { dst := some 19, op := .extract (.tmp 10) 1, type := 25, pos := "period.go:53", after := #[{ on := 7, ground := .data }, { on := 11, ground := .gcOnly .lateStores }], guard := none }) (v := .int .i64 q) rfl (by kernel_rfl) (by kernel_rfl) (by kernel_rfl) (fun _ _ _ h => h) (Or.inl ⟨by rfl, by intro w hSw; clear hSw; go_simp⟩) hS12 ?_
          try simp only [Act.put, List.setIfInBounds_toArray, List.set_cons_zero, List.set_cons_succ]
          refine wpAnyH_ready (rs := [11]) (by kernel_rfl) (by simp) ?_
          refine AllReadyH.cons (o := { dst := none, op := .store 40 (.tmp 8) (.tmp 18), type := 0, pos := "period.go:53", after := #[{ on := 10, ground := .data }, { on := 8, ground := .data }, { on := 6, ground := .chain }, { on := 0, ground := .phase }, { on := 1, ground := .phase }, { on := 2, ground := .phase }, { on := 3, ground := .phase }, { on := 4, ground := .phase }, { on := 5, ground := .phase }, { on := 6, ground := .phase }, { on := 7, ground := .phase }, { on := 8, ground := .phase }, { on := 9, ground := .textOnly .lateStores }, { on := 10, ground := .phase }], guard := none }) rfl (fun K hK => ?_) AllReadyH.nil
          rw [if_pos (by rfl)]
          refine wp_store_mid 40 (.tmp 8) (.tmp 18) rfl g 0 Y.toArray rfl rfl (put11 _ Y YL.out rfl G12).1 (by rw [List.size_toArray, YL.out]; exact info_chd) YO.out ?_
          refine hK.out _ _ (put_S hS12.1 hS12.2 hg0 YL.out G12) (fun hS13 => ?_)
          have E13 := put_E hS12.1 hS12.2 hg0 YL.out G12
          clear hK K
          try simp only [Act.put]
          refine wpAnyH_take (i := 12) (oi := { dst := some 9, op := .assign (.tmp 19), type := 25, pos := "period.go:53", after := #[{ on := 9, ground := .data }, { on := 11, ground := .chain }, { on := 0, ground := .phase }, { on := 1, ground := .phase }, { on := 2, ground := .phase }, { on := 3, ground := .phase }, { on := 4, ground := .phase }, { on := 5, ground := .phase }, { on := 6, ground := .phase }, { on := 7, ground := .phase }, { on := 8, ground := .phase }, { on := 9, ground := .phase }, { on := 10, ground := .phase }, { on := 11, ground := .phase }], guard := none }) (v := .int .i64 q) rfl (by kernel_rfl) (by kernel_rfl) (by kernel_rfl) (fun _ _ _ h => h) (Or.inl ⟨by rfl, by intro w hSw; clear hSw; go_simp⟩) hS13 ?_
          try simp only [Act.put, List.setIfInBounds_toArray, List.set_cons_zero, List.set_cons_succ]
          refine wpAnyH_done (by kernel_rfl) ?_ _
          go_wp2_with fail
          go_meet
          exact ⟨g, rfl, rfl, E13⟩
      · go_simp
        have hS14 := KEEP.out _ _ hS0 ((Bel.refl w6).alloc (.cells #[.int .i64 0, .int .i64 0, .int .i64 0, .int .i64 0, .int .i64 0, .int .i64 0, .int .i64 0, .int .u64 0, .int .u64 0, .int .i64 0, .int .u64 0] 40))
        refine hK.out _ _ hS14 (fun _ => ?_)
        clear hK K
        try simp only [Act.put, List.setIfInBounds_toArray, List.set_cons_zero, List.set_cons_succ]
        have G14 : Blk (w6.alloc (.cells #[.int .i64 0, .int .i64 0, .int .i64 0, .int .i64 0, .int .i64 0, .int .i64 0, .int .i64 0, .int .u64 0, .int .u64 0, .int .i64 0, .int .u64 0] 40)) w6.heap.size (recC fun _ => 0).toArray 40 := Blk.new w6 _ _
        have hg0 := Below.size hS0.2
        obtain ⟨g, hg⟩ : ∃ g, w6.heap.size = g := ⟨_, rfl⟩
        obtain ⟨v14, hv⟩ : ∃ v, w6.alloc (.cells #[.int .i64 0, .int .i64 0, .int .i64 0, .int .i64 0, .int .i64 0, .int .i64 0, .int .i64 0, .int .u64 0, .int .u64 0, .int .i64 0, .int .u64 0] 40) = v := ⟨_, rfl⟩
        rw [hv] at hS14 G14 ⊢
        rw [hg] at G14 hg0 ⊢
        clear hg hv
        refine wpAnyH_ready (rs := [4]) (by kernel_rfl) (by simp) ?_
        refine AllReadyH.cons (o := { dst := some 15, op := .call { callee := .value (.func 34), args := #[.tmp 14], argTypes := #[43] }, type := 25, pos := "period.go:53", after := #[{ on := 3, ground := .data }, { on := 2, ground := .chain }], guard := none }) rfl (fun K hK => ?_) AllReadyH.nil
        go_simp
        refine (HC1.out _).mono ?_
        rintro e v15 ⟨rfl, rfl⟩
        go_wp2_with fail
        refine hK.out _ _ hS14 (fun _ => ?_)
        clear hK K
        try simp only [Act.put, List.setIfInBounds_toArray, List.set_cons_zero, List.set_cons_succ]
        refine wpAnyH_ready (rs := [5]) (by kernel_rfl) (by simp) ?_
        refine AllReadyH.cons (o := { dst := some 16, op := .buildSlice 59 2 #[(0, .tmp 13), (1, .tmp 15)], type := 59, pos := "period.go:53", after := #[{ on := 2, ground := .data }, { on := 4, ground := .data }], guard := none }) rfl (fun K hK => ?_) AllReadyH.nil
        go_simp
        have hS16 := KEEP.out _ _ hS14 ((Bel.refl v14).alloc (.cells #[.int .i64 c0, .int .i64 c1] 25))
        refine hK.out _ _ hS16 (fun _ => ?_)
        clear hK K
        try simp only [Act.put, List.setIfInBounds_toArray, List.set_cons_zero, List.set_cons_succ]
        have L16 := lit2 v14 c0 c1 25
        obtain ⟨b, hb⟩ : ∃ b, v14.heap.size = b := ⟨_, rfl⟩
        obtain ⟨v16, hv⟩ : ∃ v, v14.alloc (.cells #[.int .i64 c0, .int .i64 c1] 25) = v := ⟨_, rfl⟩
        rw [hv] at hS16 L16 ⊢
        rw [hb] at L16 ⊢
        have G16 := G14.bel (show Bel v14 v16 by rw [← hv]; exact (Bel.refl _).alloc _)
        clear hb hv
        refine wpAnyH_ready (rs := [6]) (by kernel_rfl) (by simp) ?_
        refine AllReadyH.cons (o := { dst := some 17, op := .call { callee := .value (.func 33), args := #[.tmp 11, .tmp 16], argTypes := #[24, 59] }, type := 41, pos := "period.go:53", after := #[{ on := 0, ground := .data }, { on := 5, ground := .data }, { on := 4, ground := .chain }], guard := none }) rfl (fun K hK => ?_) AllReadyH.nil
        go_simp
        refine (CK.out _ _ L16).mono ?_
        rintro e v17 ⟨rfl, k17⟩
        go_wp2_with fail
        have hS17 := KEEP.out _ _ hS16 k17
        refine hK.out _ _ hS17 (fun _ => ?_)
        clear hK K
        try simp only [Act.put, List.setIfInBounds_toArray, List.set_cons_zero, List.set_cons_succ]
        have G17 := G16.bel k17
        clear k17
        refine wpAnyH_take (i := 7) (oi := { dst := some 10, op := .move (.tmp 17), type := 41, pos := "period.go:53", after := #[{ on := 6, ground := .data }], guard := none }) (v := .tuple #[.agg Y.toArray, .int .i64 q]) rfl (by kernel_rfl) (by kernel_rfl) (by kernel_rfl) (fun _ _ _ h => h) (Or.inl ⟨by rfl, by intro w hSw; clear hSw; go_simp⟩) hS17 ?_
        try simp only [Act.put, List.setIfInBounds_toArray, List.set_cons_zero, List.set_cons_succ]
        refine wpAnyH_take (i := 8) (oi := { dst := some 18, op := .extract (.tmp 10) 0, type := 40, pos := "period.go:53", after := #[{ on := 7, ground := .data }], guard := none }) (v := .agg Y.toArray) rfl (by kernel_rfl) (by kernel_rfl) (by kernel_rfl) (fun _ _ _ h => h) (Or.inl ⟨by rfl, by intro w hSw; clear hSw; go_simp⟩) hS17 ?_
        try simp only [Act.put, List.setIfInBounds_toArray, List.set_cons_zero, List.set_cons_succ]
        refine wpAnyH_take (i := 9) (oi := { dst := some 19, op := .extract (.tmp 10) 1, type := 25, pos := "period.go:53", after := #[{ on := 7, ground := .data }, { on := 11, ground := .gcOnly .lateStores }], guard := none }) (v := .int .i64 q) rfl (by kernel_rfl) (by kernel_rfl) (by kernel_rfl) (fun _ _ _ h => h) (Or.inl ⟨by rfl, by intro w hSw; clear hSw; go_simp⟩) hS17 ?_
        try simp only [Act.put, List.setIfInBounds_toArray, List.set_cons_zero, List.set_cons_succ]
        refine wpAnyH_ready (rs := [11]) (by kernel_rfl) (by simp) ?_
        refine AllReadyH.cons (o := { dst := none, op := .store 40 (.tmp 8) (.tmp 18), type := 0, pos := "period.go:53", after := #[{ on := 10, ground := .data }, { on := 8, ground := .data }, { on := 6, ground := .chain }, { on := 0, ground := .phase }, { on := 1, ground := .phase }, { on := 2, ground := .phase }, { on := 3, ground := .phase }, { on := 4, ground := .phase }, { on := 5, ground := .phase }, { on := 6, ground := .phase }, { on := 7, ground := .phase }, { on := 8, ground := .phase }, { on := 9, ground := .textOnly .lateStores }, { on := 10, ground := .phase }], guard := none }) rfl (fun K hK => ?_) AllReadyH.nil
        rw [if_pos (by rfl)]
        refine wp_store_mid 40 (.tmp 8) (.tmp 18) rfl g 0 Y.toArray rfl rfl (put11 _ Y YL.out rfl G17).1 (by rw [List.size_toArray, YL.out]; exact info_chd) YO.out ?_
        refine hK.out _ _ (put_S hS17.1 hS17.2 hg0 YL.out G17) (fun hS18 => ?_)
        have E18 := put_E hS17.1 hS17.2 hg0 YL.out G17
        clear hK K
        try simp only [Act.put]
        refine wpAnyH_take (i := 12) (oi := { dst := some 9, op := .assign (.tmp 19), type := 25, pos := "period.go:53", after := #[{ on := 9, ground := .data }, { on := 11, ground := .chain }, { on := 0, ground := .phase }, { on := 1, ground := .phase }, { on := 2, ground := .phase }, { on := 3, ground := .phase }, { on := 4, ground := .phase }, { on := 5, ground := .phase }, { on := 6, ground := .phase }, { on := 7, ground := .phase }, { on := 8, ground := .phase }, { on := 9, ground := .phase }, { on := 10, ground := .phase }, { on := 11, ground := .phase }], guard := none }) (v := .int .i64 q) rfl (by kernel_rfl) (by kernel_rfl) (by kernel_rfl) (fun _ _ _ h => h) (Or.inl ⟨by rfl, by intro w hSw; clear hSw; go_simp⟩) hS18 ?_
        try simp only [Act.put, List.setIfInBounds_toArray, List.set_cons_zero, List.set_cons_succ]
        refine wpAnyH_done (by kernel_rfl) ?_ _
        go_wp2_with fail
        go_meet
        exact ⟨g, rfl, rfl, E18⟩
    · go_simp
      have hS19 := KEEP.out _ _ hS0 ((Bel.refl w6).alloc (.cells #[.int .i64 0, .int .i64 0, .int .i64 0, .int .i64 0, .int .i64 0, .int .i64 0, .int .i64 0, .int .u64 0, .int .u64 0, .int .i64 0, .int .u64 0] 40))
      refine hK.out _ _ hS19 (fun _ => ?_)
      clear hK K
      try simp only [Act.put, List.setIfInBounds_toArray, List.set_cons_zero, List.set_cons_succ]
      have G19 : Blk (w6.alloc (.cells #[.int .i64 0, .int .i64 0, .int .i64 0, .int .i64 0, .int .i64 0, .int .i64 0, .int .i64 0, .int .u64 0, .int .u64 0, .int .i64 0, .int .u64 0] 40)) w6.heap.size (recC fun _ => 0).toArray 40 := Blk.new w6 _ _
      have hg0 := Below.size hS0.2
      obtain ⟨g, hg⟩ : ∃ g, w6.heap.size = g := ⟨_, rfl⟩
      obtain ⟨v19, hv⟩ : ∃ v, w6.alloc (.cells #[.int .i64 0, .int .i64 0, .int .i64 0, .int .i64 0, .int .i64 0, .int .i64 0, .int .i64 0, .int .u64 0, .int .u64 0, .int .i64 0, .int .u64 0] 40) = v := ⟨_, rfl⟩
      rw [hv] at hS19 G19 ⊢
      rw [hg] at G19 hg0 ⊢
      clear hg hv
      refine wpAnyH_ready (rs := [2]) (by kernel_rfl) (by simp) ?_
      refine AllReadyH.cons (o := { dst := some 13, op := .call { callee := .value (.func 34), args := #[.tmp 12], argTypes := #[43] }, type := 25, pos := "period.go:53", after := #[{ on := 1, ground := .data }], guard := none }) rfl (fun K hK => ?_) AllReadyH.nil
      go_simp
      refine (HC0.out _).mono ?_
      rintro e v20 ⟨rfl, rfl⟩
      go_wp2_with fail
      refine hK.out _ _ hS19 (fun _ => ?_)
      clear hK K
      try simp only [Act.put, List.setIfInBounds_toArray, List.set_cons_zero, List.set_cons_succ]
      refine wpAnyH_ready (rs := [4]) (by kernel_rfl) (by simp) ?_
      refine AllReadyH.cons (o := { dst := some 15, op := .call { callee := .value (.func 34), args := #[.tmp 14], argTypes := #[43] }, type := 25, pos := "period.go:53", after := #[{ on := 3, ground := .data }, { on := 2, ground := .chain }], guard := none }) rfl (fun K hK => ?_) AllReadyH.nil
      go_simp
      refine (HC1.out _).mono ?_
      rintro e v21 ⟨rfl, rfl⟩
      go_wp2_with fail
      refine hK.out _ _ hS19 (fun _ => ?_)
      clear hK K
      try simp only [Act.put, List.setIfInBounds_toArray, List.set_cons_zero, List.set_cons_succ]
      refine wpAnyH_ready (rs := [5]) (by kernel_rfl) (by simp) ?_
      refine AllReadyH.cons (o := { dst := some 16, op := .buildSlice 59 2 #[(0, .tmp 13), (1, .tmp 15)], type := 59, pos := "period.go:53", after := #[{ on := 2, ground := .data }, { on := 4, ground := .data }], guard := none }) rfl (fun K hK => ?_) AllReadyH.nil
      go_simp
      have hS22 := KEEP.out _ _ hS19 ((Bel.refl v19).alloc (.cells #[.int .i64 c0, .int .i64 c1] 25))
      refine hK.out _ _ hS22 (fun _ => ?_)
      clear hK K
      try simp only [Act.put, List.setIfInBounds_toArray, List.set_cons_zero, List.set_cons_succ]
      have L22 := lit2 v19 c0 c1 25
      obtain ⟨b, hb⟩ : ∃ b, v19.heap.size = b := ⟨_, rfl⟩
      obtain ⟨v22, hv⟩ : ∃ v, v19.alloc (.cells #[.int .i64 c0, .int .i64 c1] 25) = v := ⟨_, rfl⟩
      rw [hv] at hS22 L22 ⊢
      rw [hb] at L22 ⊢
      have G22 := G19.bel (show Bel v19 v22 by rw [← hv]; exact (Bel.refl _).alloc _)
      clear hb hv
      refine wpAnyH_ready (rs := [6]) (by kernel_rfl) (by simp) ?_
      refine AllReadyH.cons (o := { dst := some 17, op := .call { callee := .value (.func 33), args := #[.tmp 11, .tmp 16], argTypes := #[24, 59] }, type := 41, pos := "period.go:53", after := #[{ on := 0, ground := .data }, { on := 5, ground := .data }, { on := 4, ground := .chain }], guard := none }) rfl (fun K hK => ?_) AllReadyH.nil
      go_simp
      refine (CK.out _ _ L22).mono ?_
      rintro e v23 ⟨rfl, k23⟩
      go_wp2_with fail
      have hS23 := KEEP.out _ _ hS22 k23
      refine hK.out _ _ hS23 (fun _ => ?_)
      clear hK K
      try simp only [Act.put, List.setIfInBounds_toArray, List.set_cons_zero, List.set_cons_succ]
      have G23 := G22.bel k23
      clear k23
      refine wpAnyH_take (i := 7) (oi := { dst := some 10, op := .move (.tmp 17), type := 41, pos := "period.go:53", after := #[{ on := 6, ground := .data }], guard := none }) (v := .tuple #[.agg Y.toArray, .int .i64 q]) rfl (by kernel_rfl) (by kernel_rfl) (by kernel_rfl) (fun _ _ _ h => h) (Or.inl ⟨by rfl, by intro w hSw; clear hSw; go_simp⟩) hS23 ?_
      try simp only [Act.put, List.setIfInBounds_toArray, List.set_cons_zero, List.set_cons_succ]
      refine wpAnyH_take (i := 8) (oi := { dst := some 18, op := .extract (.tmp 10) 0, type := 40, pos := "period.go:53", after := #[{ on := 7, ground := .data }], guard := none }) (v := .agg Y.toArray) rfl (by kernel_rfl) (by kernel_rfl) (by kernel_rfl) (fun _ _ _ h => h) (Or.inl ⟨by rfl, by intro w hSw; clear hSw; go_simp⟩) hS23 ?_
      try simp only [Act.put, List.setIfInBounds_toArray, List.set_cons_zero, List.set_cons_succ]
      refine wpAnyH_take (i := 9) (oi := { dst := some 19, op := .extract (.tmp 10) 1, type := 25, pos := "period.go:53", after := #[{ on := 7, ground := .data }, { on := 11, ground := .gcOnly .lateStores }], guard := none }) (v := .int .i64 q) rfl (by kernel_rfl) (by kernel_rfl) (by kernel_rfl) (fun _ _ _ h => h) (Or.inl ⟨by rfl, by intro w hSw; clear hSw; go_simp⟩) hS23 ?_
      try simp only [Act.put, List.setIfInBounds_toArray, List.set_cons_zero, List.set_cons_succ]
      refine wpAnyH_ready (rs := [11]) (by kernel_rfl) (by simp) ?_
      refine AllReadyH.cons (o := { dst := none, op := .store 40 (.tmp 8) (.tmp 18), type := 0, pos := "period.go:53", after := #[{ on := 10, ground := .data }, { on := 8, ground := .data }, { on := 6, ground := .chain }, { on := 0, ground := .phase }, { on := 1, ground := .phase }, { on := 2, ground := .phase }, { on := 3, ground := .phase }, { on := 4, ground := .phase }, { on := 5, ground := .phase }, { on := 6, ground := .phase }, { on := 7, ground := .phase }, { on := 8, ground := .phase }, { on := 9, ground := .textOnly .lateStores }, { on := 10, ground := .phase }], guard := none }) rfl (fun K hK => ?_) AllReadyH.nil
      rw [if_pos (by rfl)]
      refine wp_store_mid 40 (.tmp 8) (.tmp 18) rfl g 0 Y.toArray rfl rfl (put11 _ Y YL.out rfl G23).1 (by rw [List.size_toArray, YL.out]; exact info_chd) YO.out ?_
      refine hK.out _ _ (put_S hS23.1 hS23.2 hg0 YL.out G23) (fun hS24 => ?_)
      have E24 := put_E hS23.1 hS23.2 hg0 YL.out G23
      clear hK K
      try simp only [Act.put]
      refine wpAnyH_take (i := 12) (oi := { dst := some 9, op := .assign (.tmp 19), type := 25, pos := "period.go:53", after := #[{ on := 9, ground := .data }, { on := 11, ground := .chain }, { on := 0, ground := .phase }, { on := 1, ground := .phase }, { on := 2, ground := .phase }, { on := 3, ground := .phase }, { on := 4, ground := .phase }, { on := 5, ground := .phase }, { on := 6, ground := .phase }, { on := 7, ground := .phase }, { on := 8, ground := .phase }, { on := 9, ground := .phase }, { on := 10, ground := .phase }, { on := 11, ground := .phase }], guard := none }) (v := .int .i64 q) rfl (by kernel_rfl) (by kernel_rfl) (by kernel_rfl) (fun _ _ _ h => h) (Or.inl ⟨by rfl, by intro w hSw; clear hSw; go_simp⟩) hS24 ?_
      try simp only [Act.put, List.setIfInBounds_toArray, List.set_cons_zero, List.set_cons_succ]
      refine wpAnyH_done (by kernel_rfl) ?_ _
      go_wp2_with fail
      go_meet
      exact ⟨g, rfl, rfl, E24⟩
  case rest =>
    obtain ⟨g, rfl, rfl, hS⟩ := hcut
    clear KEEP CK HC0 HC1
    have uC := Try.underlying40
    have iC := Lib.hid (show (Try.prog.info? 40).map (·.size) = some Y.length by rw [YL.out]; exact info_chd)
    by_cases h0 : q = 0
    · subst h0
      obtain ⟨hc, h1, h2, h3, h4⟩ := e2_zero HQ.out
      have HFt := Lib.hid (fit_of HX.out hc)
      have hY := HY.out
      rw [yz_zero] at hY
      have RG := Lib.hid (show wc.rangeAt g 0 (recC x) by rw [hY]; exact hS.out.2.1)
      have SI := Lib.hid (fun (n : Nat) => (since h c (wc.drewN n) h3 h4 h1 h2).mono fun e w' (k : _ ∧ _) => (⟨k.1, k.2.symm⟩ : _ ∧ _))
      clear hc hY
      have c0 := rec_cell RG.out 0 (by omega)
      rw [show kd 0 = .i64 from rfl] at c0
      obtain ⟨m, hm⟩ : ∃ m, x 0 = m := ⟨_, rfl⟩
      rw [hm] at c0
      have HV := Lib.hid (show aliB x c h = decide (h - c ≤ m) by unfold aliB; rw [HQ.out, hm]; simp)
      clear hm
      go_upto_region 2 with fail
      go_quiet ((go_at_call 38; exact Calls.quiet_of_same (SI.out _)))
      go_wp2_with fail
      go_ret2
      exact ⟨by rw [HV.out, HQ.out]; rfl, B0.out.trans (hS.out.2.2.drewN _)⟩
    · have hb : (q == 0) = false := by simpa using h0
      have hb2 : (q != 0) = true := by simpa using h0
      have HV := Lib.hid (show aliB x c h = false by unfold aliB; rw [HQ.out, decide_eq_false h0]; rfl)
      go_upto_region 2 with fail
      go_quiet (fail)
      go_wp2_with fail
      go_ret2
      exact ⟨by rw [HV.out, HQ.out]; rfl, B0.out.trans (hS.out.2.2.drewN _)⟩

set_option maxRecDepth 100000 in
set_option maxHeartbeats 4000000 in
theorem notedC (x : Nat → Int) (hx : Kinds x) (c h : Int) (w : World) :
    Calls Try.prog 25 #[.agg (recC x).toArray, .int .i64 c, .int .i64 h] w fun e w' => e = .returned (.tuple #[.bool (notB x c h), .int .i64 (e2 x c h)]) ∧ Bel w w' := by
  obtain ⟨D, hD⟩ : ∃ D, D = recC x := ⟨_, rfl⟩
  obtain ⟨W0, hW0⟩ : ∃ W0, w.alloc (.cells D.toArray 24) = W0 := ⟨_, rfl⟩
  have B0 := Lib.hid (show Bel w W0 by rw [← hW0]; exact (Bel.refl w).alloc _)
  have R0 := Lib.hid (show W0.rangeAt w.heap.size 0 D by rw [← hW0]; exact rngB (Blk.new w D.toArray 24))
  obtain ⟨p, hp⟩ : ∃ p, w.heap.size = p := ⟨_, rfl⟩
  have hp1 := Lib.hid (show p < W0.heap.size by rw [← hW0, ← hp, World.size_alloc]; omega)
  rw [hp] at R0
  have hDl : D.length = 11 := by rw [hD]; rfl
  obtain ⟨c0, hc0⟩ : ∃ k_, wi c = k_ := ⟨_, rfl⟩
  obtain ⟨c1, hc1⟩ : ∃ k_, wi h = k_ := ⟨_, rfl⟩
  obtain ⟨q, hq⟩ : ∃ q, er x [c0, c1] = q := ⟨_, rfl⟩
  obtain ⟨Y, hY⟩ : ∃ Y, recC (yz x q) = Y := ⟨_, rfl⟩
  have HC0 := Lib.hid (fun V => checkH c V)
  rw [hc0] at HC0
  have HC1 := Lib.hid (fun V => checkH h V)
  rw [hc1] at HC1
  have CK := Lib.hid (fun (V : World) (g : Nat) (hi : Ints .i64 V (some ⟨g, 0, none⟩) 2 [c0, c1]) => check_ x hx (some ⟨g, 0, none⟩) 2 2 [c0, c1] V (by omega) hi)
  rw [hq, hY, ← hD] at CK
  rw [← hD]
  have iD : (Try.prog.info? 24).map (·.size) = some D.length := by rw [hDl]; exact info_rec
  have uD := Try.underlying24
  have YL := Lib.hid (show Y.length = 11 by rw [← hY]; rfl)
  have YO := Lib.hid (all_oneCell_toArray (cs := Y) (by rw [← hY]; exact recC_cells _))
  have HDl := Lib.hid hDl
  have HX := Lib.hid hx
  have HP := Lib.hid hp
  have HW0 := Lib.hid hW0
  have HQ := Lib.hid (show e2 x c h = q by rw [← hq, ← hc0, ← hc1]; rfl)
  have HY := Lib.hid hY
  have HD := Lib.hid hD
  clear hx hp hD hW0 hq hY hDl hc0 hc1
  go_enter Try.func25, Try.ntmps25
  go_upto_region 1 with fail
  rw [HW0.out, HP.out]
  have KEEP := Lib.hid (show ∀ V V' : World, (V.rangeAt p 0 D ∧ Bel W0 V) → Bel V V' → (V'.rangeAt p 0 D ∧ Bel W0 V') from fun V V' h hb => ⟨rng_bel h.1 hb, h.2.trans hb⟩)
  go_cut [8, 9] (fun s8 s9 wx => ∃ g : Nat, s8 = .pointer (some ⟨g, 0, none⟩) ∧ s9 = .int .i64 q ∧ Hid (wx.rangeAt p 0 D ∧ wx.rangeAt g 0 Y ∧ Bel W0 wx))
  case first =>
    refine wp_region_held_drew (S := fun V => V.rangeAt p 0 D ∧ Bel W0 V) (by kernel_rfl) ⟨rng_bel R0.out (Bel.refl W0).drew, (Bel.refl W0).drew⟩ (fun hS0 => ?_)
    obtain ⟨w6, hw6⟩ : ∃ w6, W0.drew = w6 := ⟨_, rfl⟩
    rw [hw6] at hS0 ⊢
    clear hw6
    have hp1 := hp1.out
    refine wpAnyH_take (i := 0) (oi := { dst := some 11, op := .load 24 (.tmp 3), type := 24, pos := "period.go:59", after := #[], guard := none }) (v := .agg D.toArray) rfl (by kernel_rfl) (by kernel_rfl) (by kernel_rfl) (fun _ _ _ h => h) (yieldsIf_load_mid (by rfl) _ _ rfl _ _ rfl _ _ (fun w h => h.1) uD rfl iD) hS0 ?_
    try simp only [Act.put, List.setIfInBounds_toArray, List.set_cons_zero, List.set_cons_succ]
    refine wpAnyH_take (i := 1) (oi := { dst := some 12, op := .move (.tmp 1), type := 3, pos := "period.go:59", after := #[], guard := none }) (v := .int .i64 c) rfl (by kernel_rfl) (by kernel_rfl) (by kernel_rfl) (fun _ _ _ h => h) (Or.inl ⟨by rfl, by intro w hSw; clear hSw; go_simp⟩) hS0 ?_
    try simp only [Act.put, List.setIfInBounds_toArray, List.set_cons_zero, List.set_cons_succ]
    refine wpAnyH_take (i := 3) (oi := { dst := some 14, op := .move (.tmp 2), type := 3, pos := "period.go:59", after := #[], guard := none }) (v := .int .i64 h) rfl (by kernel_rfl) (by kernel_rfl) (by kernel_rfl) (fun _ _ _ h => h) (Or.inl ⟨by rfl, by intro w hSw; clear hSw; go_simp⟩) hS0 ?_
    try simp only [Act.put, List.setIfInBounds_toArray, List.set_cons_zero, List.set_cons_succ]
    refine wpAnyH_ready (rs := [2, 10]) (by kernel_rfl) (by simp) ?_
    refine AllReadyH.cons (o := { dst := some 13, op := .call { callee := .value (.func 34), args := #[.tmp 12], argTypes := #[43] }, type := 25, pos := "period.go:59", after := #[{ on := 1, ground := .data }], guard := none }) rfl (fun K hK => ?_) (AllReadyH.cons (o := { dst := some 8, op := .alloc 40, type := 0, pos := "period.go:59", after := #[], guard := none }) rfl (fun K hK => ?_) AllReadyH.nil)
    · go_simp
      refine (HC0.out _).mono ?_
      rintro e v1 ⟨rfl, rfl⟩
      go_wp2_with fail
      refine hK.out _ _ hS0 (fun _ => ?_)
      clear hK K
      try simp only [Act.put, List.setIfInBounds_toArray, List.set_cons_zero, List.set_cons_succ]
      refine wpAnyH_ready (rs := [4, 10]) (by kernel_rfl) (by simp) ?_
      refine AllReadyH.cons (o := { dst := some 15, op := .call { callee := .value (.func 34), args := #[.tmp 14], argTypes := #[43] }, type := 25, pos := "period.go:59", after := #[{ on := 3, ground := .data }, { on := 2, ground := .chain }], guard := none }) rfl (fun K hK => ?_) (AllReadyH.cons (o := { dst := some 8, op := .alloc 40, type := 0, pos := "period.go:59", after := #[], guard := none }) rfl (fun K hK => ?_) AllReadyH.nil)
      · go_simp
        refine (HC1.out _).mono ?_
        rintro e v2 ⟨rfl, rfl⟩
        go_wp2_with fail
        refine hK.out _ _ hS0 (fun _ => ?_)
        clear hK K
        try simp only [Act.put, List.setIfInBounds_toArray, List.set_cons_zero, List.set_cons_succ]
        refine wpAnyH_ready (rs := [5, 10]) (by kernel_rfl) (by simp) ?_
        refine AllReadyH.cons (o := { dst := some 16, op := .buildSlice 59 2 #[(0, .tmp 13), (1, .tmp 15)], type := 59, pos := "period.go:59", after := #[{ on := 2, ground := .data }, { on := 4, ground := .data }], guard := none }) rfl (fun K hK => ?_) (AllReadyH.cons (o := { dst := some 8, op := .alloc 40, type := 0, pos := "period.go:59", after := #[], guard := none }) rfl (fun K hK => ?_) AllReadyH.nil)
        · go_simp
          have hS3 := KEEP.out _ _ hS0 ((Bel.refl w6).alloc (.cells #[.int .i64 c0, .int .i64 c1] 25))
          refine hK.out _ _ hS3 (fun _ => ?_)
          clear hK K
          try simp only [Act.put, List.setIfInBounds_toArray, List.set_cons_zero, List.set_cons_succ]
          have L3 := lit2 w6 c0 c1 25
          obtain ⟨b, hb⟩ : ∃ b, w6.heap.size = b := ⟨_, rfl⟩
          obtain ⟨v3, hv⟩ : ∃ v, w6.alloc (.cells #[.int .i64 c0, .int .i64 c1] 25) = v := ⟨_, rfl⟩
          rw [hv] at hS3 L3 ⊢
          rw [hb] at L3 ⊢
          clear hb hv
          refine wpAnyH_ready (rs := [6, 10]) (by kernel_rfl) (by simp) ?_
          refine AllReadyH.cons (o := { dst := some 17, op := .call { callee := .value (.func 33), args := #[.tmp 11, .tmp 16], argTypes := #[24, 59] }, type := 41, pos := "period.go:59", after := #[{ on := 0, ground := .data }, { on := 5, ground := .data }, { on := 4, ground := .chain }], guard := none }) rfl (fun K hK => ?_) (AllReadyH.cons (o := { dst := some 8, op := .alloc 40, type := 0, pos := "period.go:59", after := #[], guard := none }) rfl (fun K hK => ?_) AllReadyH.nil)
          · go_simp
            refine (CK.out _ _ L3).mono ?_
            rintro e v4 ⟨rfl, k4⟩
            go_wp2_with fail
            have hS4 := KEEP.out _ _ hS3 k4
            refine hK.out _ _ hS4 (fun _ => ?_)
            clear hK K
            try simp only [Act.put, List.setIfInBounds_toArray, List.set_cons_zero, List.set_cons_succ]
            clear k4
            refine wpAnyH_take (i := 7) (oi := { dst := some 10, op := .move (.tmp 17), type := 41, pos := "period.go:59", after := #[{ on := 6, ground := .data }], guard := none }) (v := .tuple #[.agg Y.toArray, .int .i64 q]) rfl (by kernel_rfl) (by kernel_rfl) (by kernel_rfl) (fun _ _ _ h => h) (Or.inl ⟨by rfl, by intro w hSw; clear hSw; go_simp⟩) hS4 ?_
            try simp only [Act.put, List.setIfInBounds_toArray, List.set_cons_zero, List.set_cons_succ]
            refine wpAnyH_take (i := 8) (oi := { dst := some 18, op := .extract (.tmp 10) 0, type := 40, pos := "period.go:59", after := #[{ on := 7, ground := .data }], guard := none }) (v := .agg Y.toArray) rfl (by kernel_rfl) (by kernel_rfl) (by kernel_rfl) (fun _ _ _ h => h) (Or.inl ⟨by rfl, by intro w hSw; clear hSw; go_simp⟩) hS4 ?_
            try simp only [Act.put, List.setIfInBounds_toArray, List.set_cons_zero, List.set_cons_succ]
            refine wpAnyH_take (i := 9) (oi := { dst := some 19, op := .extract (.tmp 10) 1, type := 25, pos := "period.go:59", after := #[{ on := 7, ground := .data }, { on := 11, ground := .gcOnly .lateStores }], guard := none }) (v := .int .i64 q) rfl (by kernel_rfl) (by kernel_rfl) (by kernel_rfl) (fun _ _ _ h => h) (Or.inl ⟨by rfl, by intro w hSw; clear hSw; go_simp⟩) hS4 ?_
            try simp only [Act.put, List.setIfInBounds_toArray, List.set_cons_zero, List.set_cons_succ]
            refine wpAnyH_ready (rs := [10]) (by kernel_rfl) (by simp) ?_
            refine AllReadyH.cons (o := { dst := some 8, op := .alloc 40, type := 0, pos := "period.go:59", after := #[], guard := none }) rfl (fun K hK => ?_) AllReadyH.nil
            go_simp
            have hS5 := KEEP.out _ _ hS4 ((Bel.refl v4).alloc (.cells #[.int .i64 0, .int .i64 0, .int .i64 0, .int .i64 0, .int .i64 0, .int .i64 0, .int .i64 0, .int .u64 0, .int .u64 0, .int .i64 0, .int .u64 0] 40))
            refine hK.out _ _ hS5 (fun _ => ?_)
            clear hK K
            try simp only [Act.put, List.setIfInBounds_toArray, List.set_cons_zero, List.set_cons_succ]
            have G5 : Blk (v4.alloc (.cells #[.int .i64 0, .int .i64 0, .int .i64 0, .int .i64 0, .int .i64 0, .int .i64 0, .int .i64 0, .int .u64 0, .int .u64 0, .int .i64 0, .int .u64 0] 40)) v4.heap.size (recC fun _ => 0).toArray 40 := Blk.new v4 _ _
            have hg0 := Below.size hS4.2
            obtain ⟨g, hg⟩ : ∃ g, v4.heap.size = g := ⟨_, rfl⟩
            obtain ⟨v5, hv⟩ : ∃ v, v4.alloc (.cells #[.int .i64 0, .int .i64 0, .int .i64 0, .int .i64 0, .int .i64 0, .int .i64 0, .int .i64 0, .int .u64 0, .int .u64 0, .int .i64 0, .int .u64 0] 40) = v := ⟨_, rfl⟩
            rw [hv] at hS5 G5 ⊢
            rw [hg] at G5 hg0 ⊢
            clear hg hv
            refine wpAnyH_ready (rs := [11]) (by kernel_rfl) (by simp) ?_
            refine AllReadyH.cons (o := { dst := none, op := .store 40 (.tmp 8) (.tmp 18), type := 0, pos := "period.go:59", after := #[{ on := 10, ground := .data }, { on := 8, ground := .data }, { on := 6, ground := .chain }, { on := 0, ground := .phase }, { on := 1, ground := .phase }, { on := 2, ground := .phase }, { on := 3, ground := .phase }, { on := 4, ground := .phase }, { on := 5, ground := .phase }, { on := 6, ground := .phase }, { on := 7, ground := .phase }, { on := 8, ground := .phase }, { on := 9, ground := .textOnly .lateStores }, { on := 10, ground := .phase }], guard := none }) rfl (fun K hK => ?_) AllReadyH.nil
            rw [if_pos (by rfl)]
            refine wp_store_mid 40 (.tmp 8) (.tmp 18) rfl g 0 Y.toArray rfl rfl (put11 _ Y YL.out rfl G5).1 (by rw [List.size_toArray, YL.out]; exact info_chd) YO.out ?_
            refine hK.out _ _ (put_S hS5.1 hS5.2 hg0 YL.out G5) (fun hS6 => ?_)
            have E6 := put_E hS5.1 hS5.2 hg0 YL.out G5
            clear hK K
            try simp only [Act.put]
            refine wpAnyH_take (i := 12) (oi := { dst := some 9, op := .assign (.tmp 19), type := 25, pos := "period.go:59", after := #[{ on := 9, ground := .data }, { on := 11, ground := .chain }, { on := 0, ground := .phase }, { on := 1, ground := .phase }, { on := 2, ground := .phase }, { on := 3, ground := .phase }, { on := 4, ground := .phase }, { on := 5, ground := .phase }, { on := 6, ground := .phase }, { on := 7, ground := .phase }, { on := 8, ground := .phase }, { on := 9, ground := .phase }, { on := 10, ground := .phase }, { on := 11, ground := .phase }], guard := none }) (v := .int .i64 q) rfl (by kernel_rfl) (by kernel_rfl) (by kernel_rfl) (fun _ _ _ h => h) (Or.inl ⟨by rfl, by intro w hSw; clear hSw; go_simp⟩) hS6 ?_
            try simp only [Act.put, List.setIfInBounds_toArray, List.set_cons_zero, List.set_cons_succ]
            refine wpAnyH_done (by kernel_rfl) ?_ _
            go_wp2_with fail
            go_meet
            exact ⟨g, rfl, rfl, E6⟩
          · go_simp
            have hS7 := KEEP.out _ _ hS3 ((Bel.refl v3).alloc (.cells #[.int .i64 0, .int .i64 0, .int .i64 0, .int .i64 0, .int .i64 0, .int .i64 0, .int .i64 0, .int .u64 0, .int .u64 0, .int .i64 0, .int .u64 0] 40))
            refine hK.out _ _ hS7 (fun _ => ?_)
            clear hK K
            try simp only [Act.put, List.setIfInBounds_toArray, List.set_cons_zero, List.set_cons_succ]
            have G7 : Blk (v3.alloc (.cells #[.int .i64 0, .int .i64 0, .int .i64 0, .int .i64 0, .int .i64 0, .int .i64 0, .int .i64 0, .int .u64 0, .int .u64 0, .int .i64 0, .int .u64 0] 40)) v3.heap.size (recC fun _ => 0).toArray 40 := Blk.new v3 _ _
            have hg0 := Below.size hS3.2
            obtain ⟨g, hg⟩ : ∃ g, v3.heap.size = g := ⟨_, rfl⟩
            obtain ⟨v7, hv⟩ : ∃ v, v3.alloc (.cells #[.int .i64 0, .int .i64 0, .int .i64 0, .int .i64 0, .int .i64 0, .int .i64 0, .int .i64 0, .int .u64 0, .int .u64 0, .int .i64 0, .int .u64 0] 40) = v := ⟨_, rfl⟩
            rw [hv] at hS7 G7 ⊢
            rw [hg] at G7 hg0 ⊢
            have L7 := L3.bel (show Bel v3 v7 by rw [← hv]; exact (Bel.refl _).alloc _)
            clear hg hv
            refine wpAnyH_ready (rs := [6]) (by kernel_rfl) (by simp) ?_
            refine AllReadyH.cons (o := { dst := some 17, op := .call { callee := .value (.func 33), args := #[.tmp 11, .tmp 16], argTypes := #[24, 59] }, type := 41, pos := "period.go:59", after := #[{ on := 0, ground := .data }, { on := 5, ground := .data }, { on := 4, ground := .chain }], guard := none }) rfl (fun K hK => ?_) AllReadyH.nil
            go_simp
            refine (CK.out _ _ L7).mono ?_
            rintro e v8 ⟨rfl, k8⟩
            go_wp2_with fail
            have hS8 := KEEP.out _ _ hS7 k8
            refine hK.out _ _ hS8 (fun _ => ?_)
            clear hK K
            try simp only [Act.put, List.setIfInBounds_toArray, List.set_cons_zero, List.set_cons_succ]
            have G8 := G7.bel k8
            clear k8
            refine wpAnyH_take (i := 7) (oi := { dst := some 10, op := .move (.tmp 17), type := 41, pos := "period.go:59", after := #[{ on := 6, ground := .data }], guard := none }) (v := .tuple #[.agg Y.toArray, .int .i64 q]) rfl (by kernel_rfl) (by kernel_rfl) (by kernel_rfl) (fun _ _ _ h => h) (Or.inl ⟨by rfl, by intro w hSw; clear hSw; go_simp⟩) hS8 ?_
            try simp only [Act.put, List.setIfInBounds_toArray, List.set_cons_zero, List.set_cons_succ]
            refine wpAnyH_take (i := 8) (oi := { dst := some 18, op := .extract (.tmp 10) 0, type := 40, pos := "period.go:59", after := #[{ on := 7, ground := .data }], guard := none }) (v := .agg Y.toArray) rfl (by kernel_rfl) (by kernel_rfl) (by kernel_rfl) (fun _ _ _ h => h) (Or.inl ⟨by rfl, by intro w hSw; clear hSw; go_simp⟩) hS8 ?_
            try simp only [Act.put, List.setIfInBounds_toArray, List.set_cons_zero, List.set_cons_succ]
            refine wpAnyH_take (i := 9) (oi := { dst := some 19, op := .extract (.tmp 10) 1, type := 25, pos := "period.go:59", after := #[{ on := 7, ground := .data }, { on := 11, ground := .gcOnly .lateStores }], guard := none }) (v := .int .i64 q) rfl (by kernel_rfl) (by kernel_rfl) (by kernel_rfl) (fun _ _ _ h => h) (Or.inl ⟨by rfl, by intro w hSw; clear hSw; go_simp⟩) hS8 ?_
            try simp only [Act.put, List.setIfInBounds_toArray, List.set_cons_zero, List.set_cons_succ]
            refine wpAnyH_ready (rs := [11]) (by kernel_rfl) (by simp) ?_
            refine AllReadyH.cons (o := { dst := none, op := .store 40 (.tmp 8) (.tmp 18), type := 0, pos := "period.go:59", after := #[{ on := 10, ground := .data }, { on := 8, ground := .data }, { on := 6, ground := .chain }, { on := 0, ground := .phase }, { on := 1, ground := .phase }, { on := 2, ground := .phase }, { on := 3, ground := .phase }, { on := 4, ground := .phase }, { on := 5, ground := .phase }, { on := 6, ground := .phase }, { on := 7, ground := .phase }, { on := 8, ground := .phase }, { on := 9, ground := .textOnly .lateStores }, { on := 10, ground := .phase }], guard := none }) rfl (fun K hK => ?_) AllReadyH.nil
            rw [if_pos (by rfl)]
            refine wp_store_mid 40 (.tmp 8) (.tmp 18) rfl g 0 Y.toArray rfl rfl (put11 _ Y YL.out rfl G8).1 (by rw [List.size_toArray, YL.out]; exact info_chd) YO.out ?_
            refine hK.out _ _ (put_S hS8.1 hS8.2 hg0 YL.out G8) (fun hS9 => ?_)
            have E9 := put_E hS8.1 hS8.2 hg0 YL.out G8
            clear hK K
            try simp only [Act.put]
            refine wpAnyH_take (i := 12) (oi := { dst := some 9, op := .assign (.tmp 19), type := 25, pos := "period.go:59", after := #[{ on := 9, ground := .data }, { on := 11, ground := .chain }, { on := 0, ground := .phase }, { on := 1, ground := .phase }, { on := 2, ground := .phase }, { on := 3, ground := .phase }, { on := 4, ground := .phase }, { on := 5, ground := .phase }, { on := 6, ground := .phase }, { on := 7, ground := .phase }, { on := 8, ground := .phase }, { on := 9, ground := .phase }, { on := 10, ground := .phase }, { on := 11, ground := .phase }], guard := none }) (v := .int .i64 q) rfl (by kernel_rfl) (by kernel_rfl) (by kernel_rfl) (fun _ _ _ h => h) (Or.inl ⟨by rfl, by intro w hSw; clear hSw; go_simp⟩) hS9 ?_
            try simp only [Act.put, List.setIfInBounds_toArray, List.set_cons_zero, List.set_cons_succ]
            refine wpAnyH_done (by kernel_rfl) ?_ _
            go_wp2_with fail
            go_meet
            exact ⟨g, rfl, rfl, E9⟩
        · go_simp
          have hS10 := KEEP.out _ _ hS0 ((Bel.refl w6).alloc (.cells #[.int .i64 0, .int .i64 0, .int .i64 0, .int .i64 0, .int .i64 0, .int .i64 0, .int .i64 0, .int .u64 0, .int .u64 0, .int .i64 0, .int .u64 0] 40))
          refine hK.out _ _ hS10 (fun _ => ?_)
          clear hK K
          try simp only [Act.put, List.setIfInBounds_toArray, List.set_cons_zero, List.set_cons_succ]
          have G10 : Blk (w6.alloc (.cells #[.int .i64 0, .int .i64 0, .int .i64 0, .int .i64 0, .int .i64 0, .int .i64 0, .int .i64 0, .int .u64 0, .int .u64 0, .int .i64 0, .int .u64 0] 40)) w6.heap.size (recC fun _ => 0).toArray 40 := Blk.new w6 _ _
          have hg0 := Below.size hS0.2
          obtain ⟨g, hg⟩ : ∃ g, w6.heap.size = g := ⟨_, rfl⟩
          obtain ⟨v10, hv⟩ : ∃ v, w6.alloc (.cells #[.int .i64 0, .int .i64 0, .int .i64 0, .int .i64 0, .int .i64 0, .int .i64 0, .int .i64 0, .int .u64 0, .int .u64 0, .int .i64 0, .int .u64 0] 40) = v := ⟨_, rfl⟩
          rw [hv] at hS10 G10 ⊢
          rw [hg] at G10 hg0 ⊢
          clear hg hv
          refine wpAnyH_ready (rs := [5]) (by kernel_rfl) (by simp) ?_
          refine AllReadyH.cons (o := { dst := some 16, op := .buildSlice 59 2 #[(0, .tmp 13), (1, .tmp 15)], type := 59, pos := "period.go:59", after := #[{ on := 2, ground := .data }, { on := 4, ground := .data }], guard := none }) rfl (fun K hK => ?_) AllReadyH.nil
          go_simp
          have hS11 := KEEP.out _ _ hS10 ((Bel.refl v10).alloc (.cells #[.int .i64 c0, .int .i64 c1] 25))
          refine hK.out _ _ hS11 (fun _ => ?_)
          clear hK K
          try simp only [Act.put, List.setIfInBounds_toArray, List.set_cons_zero, List.set_cons_succ]
          have L11 := lit2 v10 c0 c1 25
          obtain ⟨b, hb⟩ : ∃ b, v10.heap.size = b := ⟨_, rfl⟩
          obtain ⟨v11, hv⟩ : ∃ v, v10.alloc (.cells #[.int .i64 c0, .int .i64 c1] 25) = v := ⟨_, rfl⟩
          rw [hv] at hS11 L11 ⊢
          rw [hb] at L11 ⊢
          have G11 := G10.bel (show Bel v10 v11 by rw [← hv]; exact (Bel.refl _).alloc _)
          clear hb hv
          refine wpAnyH_ready (rs := [6]) (by kernel_rfl) (by simp) ?_
          refine AllReadyH.cons (o := { dst := some 17, op := .call { callee := .value (.func 33), args := #[.tmp 11, .tmp 16], argTypes := #[24, 59] }, type := 41, pos := "period.go:59", after := #[{ on := 0, ground := .data }, { on := 5, ground := .data }, { on := 4, ground := .chain }], guard := none }) rfl (fun K hK => ?_) AllReadyH.nil
          go_simp
          refine (CK.out _ _ L11).mono ?_
          rintro e v12 ⟨rfl, k12⟩
          go_wp2_with fail
          have hS12 := KEEP.out _ _ hS11 k12
          refine hK.out _ _ hS12 (fun _ => ?_)
          clear hK K
          try simp only [Act.put, List.setIfInBounds_toArray, List.set_cons_zero, List.set_cons_succ]
          have G12 := G11.bel k12
          clear k12
          refine wpAnyH_take (i := 7) (oi := { dst := some 10, op := .move (.tmp 17), type := 41, pos := "period.go:59", after := #[{ on := 6, ground := .data }], guard := none }) (v := .tuple #[.agg Y.toArray, .int .i64 q]) rfl (by kernel_rfl) (by kernel_rfl) (by kernel_rfl) (fun _ _ _ h => h) (Or.inl ⟨by rfl, by intro w hSw; clear hSw; go_simp⟩) hS12 ?_
          try simp only [Act.put, List.setIfInBounds_toArray, List.set_cons_zero, List.set_cons_succ]
          refine wpAnyH_take (i := 8) (oi := { dst := some 18, op := .extract (.tmp 10) 0, type := 40, pos := "period.go:59", after := #[{ on := 7, ground := .data }], guard := none }) (v := .agg Y.toArray) rfl (by kernel_rfl) (by kernel_rfl) (by kernel_rfl) (fun _ _ _ h => h) (Or.inl ⟨by rfl, by intro w hSw; clear hSw; go_simp⟩) hS12 ?_
          try simp only [Act.put, List.setIfInBounds_toArray, List.set_cons_zero, List.set_cons_succ]
          refine wpAnyH_take (i := 9) (oi := { dst := some 19, op := .extract (.tmp 10) 1, type := 25, pos := "period.go:59", after := #[{ on := 7, ground := .data }, { on := 11, ground := .gcOnly .lateStores }], guard := none }) (v := .int .i64 q) rfl (by kernel_rfl) (by kernel_rfl) (by kernel_rfl) (fun _ _ _ h => h) (Or.inl ⟨by rfl, by intro w hSw; clear hSw; go_simp⟩) hS12 ?_
          try simp only [Act.put, List.setIfInBounds_toArray, List.set_cons_zero, List.set_cons_succ]
          refine wpAnyH_ready (rs := [11]) (by kernel_rfl) (by simp) ?_
          refine AllReadyH.cons (o := { dst := none, op := .store 40 (.tmp 8) (.tmp 18), type := 0, pos := "period.go:59", after := #[{ on := 10, ground := .data }, { on := 8, ground := .data }, { on := 6, ground := .chain }, { on := 0, ground := .phase }, { on := 1, ground := .phase }, { on := 2, ground := .phase }, { on := 3, ground := .phase }, { on := 4, ground := .phase }, { on := 5, ground := .phase }, { on := 6, ground := .phase }, { on := 7, ground := .phase }, { on := 8, ground := .phase }, { on := 9, ground := .textOnly .lateStores }, { on := 10, ground := .phase }], guard := none }) rfl (fun K hK => ?_) AllReadyH.nil
          rw [if_pos (by rfl)]
          refine wp_store_mid 40 (.tmp 8) (.tmp 18) rfl g 0 Y.toArray rfl rfl (put11 _ Y YL.out rfl G12).1 (by rw [List.size_toArray, YL.out]; exact info_chd) YO.out ?_
          refine hK.out _ _ (put_S hS12.1 hS12.2 hg0 YL.out G12) (fun hS13 => ?_)
          have E13 := put_E hS12.1 hS12.2 hg0 YL.out G12
          clear hK K
          try simp only [Act.put]
          refine wpAnyH_take (i := 12) (oi := { dst := some 9, op := .assign (.tmp 19), type := 25, pos := "period.go:59", after := #[{ on := 9, ground := .data }, { on := 11, ground := .chain }, { on := 0, ground := .phase }, { on := 1, ground := .phase }, { on := 2, ground := .phase }, { on := 3, ground := .phase }, { on := 4, ground := .phase }, { on := 5, ground := .phase }, { on := 6, ground := .phase }, { on := 7, ground := .phase }, { on := 8, ground := .phase }, { on := 9, ground := .phase }, { on := 10, ground := .phase }, { on := 11, ground := .phase }], guard := none }) (v := .int .i64 q) rfl (by kernel_rfl) (by kernel_rfl) (by kernel_rfl) (fun _ _ _ h => h) (Or.inl ⟨by rfl, by intro w hSw; clear hSw; go_simp⟩) hS13 ?_
          try simp only [Act.put, List.setIfInBounds_toArray, List.set_cons_zero, List.set_cons_succ]
          refine wpAnyH_done (by kernel_rfl) ?_ _
          go_wp2_with fail
          go_meet
          exact ⟨g, rfl, rfl, E13⟩
      · go_simp
        have hS14 := KEEP.out _ _ hS0 ((Bel.refl w6).alloc (.cells #[.int .i64 0, .int .i64 0, .int .i64 0, .int .i64 0, .int .i64 0, .int .i64 0, .int .i64 0, .int .u64 0, .int .u64 0, .int .i64 0, .int .u64 0] 40))
        refine hK.out _ _ hS14 (fun _ => ?_)
        clear hK K
        try simp only [Act.put, List.setIfInBounds_toArray, List.set_cons_zero, List.set_cons_succ]
        have G14 : Blk (w6.alloc (.cells #[.int .i64 0, .int .i64 0, .int .i64 0, .int .i64 0, .int .i64 0, .int .i64 0, .int .i64 0, .int .u64 0, .int .u64 0, .int .i64 0, .int .u64 0] 40)) w6.heap.size (recC fun _ => 0).toArray 40 := Blk.new w6 _ _
        have hg0 := Below.size hS0.2
        obtain ⟨g, hg⟩ : ∃ g, w6.heap.size = g := ⟨_, rfl⟩
        obtain ⟨v14, hv⟩ : ∃ v, w6.alloc (.cells #[.int .i64 0, .int .i64 0, .int .i64 0, .int .i64 0, .int .i64 0, .int .i64 0, .int .i64 0, .int .u64 0, .int .u64 0, .int .i64 0, .int .u64 0] 40) = v := ⟨_, rfl⟩
        rw [hv] at hS14 G14 ⊢
        rw [hg] at G14 hg0 ⊢
        clear hg hv
        refine wpAnyH_ready (rs := [4]) (by kernel_rfl) (by simp) ?_
        refine AllReadyH.cons (o := { dst := some 15, op := .call { callee := .value (.func 34), args := #[.tmp 14], argTypes := #[43] }, type := 25, pos := "period.go:59", after := #[{ on := 3, ground := .data }, { on := 2, ground := .chain }], guard := none }) rfl (fun K hK => ?_) AllReadyH.nil
        go_simp
        refine (HC1.out _).mono ?_
        rintro e v15 ⟨rfl, rfl⟩
        go_wp2_with fail
        refine hK.out _ _ hS14 (fun _ => ?_)
        clear hK K
        try simp only [Act.put, List.setIfInBounds_toArray, List.set_cons_zero, List.set_cons_succ]
        refine wpAnyH_ready (rs := [5]) (by kernel_rfl) (by simp) ?_
        refine AllReadyH.cons (o := { dst := some 16, op := .buildSlice 59 2 #[(0, .tmp 13), (1, .tmp 15)], type := 59, pos := "period.go:59", after := #[{ on := 2, ground := .data }, { on := 4, ground := .data }], guard := none }) rfl (fun K hK => ?_) AllReadyH.nil
        go_simp
        have hS16 := KEEP.out _ _ hS14 ((Bel.refl v14).alloc (.cells #[.int .i64 c0, .int .i64 c1] 25))
        refine hK.out _ _ hS16 (fun _ => ?_)
        clear hK K
        try simp only [Act.put, List.setIfInBounds_toArray, List.set_cons_zero, List.set_cons_succ]
        have L16 := lit2 v14 c0 c1 25
        obtain ⟨b, hb⟩ : ∃ b, v14.heap.size = b := ⟨_, rfl⟩
        obtain ⟨v16, hv⟩ : ∃ v, v14.alloc (.cells #[.int .i64 c0, .int .i64 c1] 25) = v := ⟨_, rfl⟩
        rw [hv] at hS16 L16 ⊢
        rw [hb] at L16 ⊢
        have G16 := G14.bel (show Bel v14 v16 by rw [← hv]; exact (Bel.refl _).alloc _)
        clear hb hv
        refine wpAnyH_ready (rs := [6]) (by kernel_rfl) (by simp) ?_
        refine AllReadyH.cons (o := { dst := some 17, op := .call { callee := .value (.func 33), args := #[.tmp 11, .tmp 16], argTypes := #[24, 59] }, type := 41, pos := "period.go:59", after := #[{ on := 0, ground := .data }, { on := 5, ground := .data }, { on := 4, ground := .chain }], guard := none }) rfl (fun K hK => ?_) AllReadyH.nil
        go_simp
        refine (CK.out _ _ L16).mono ?_
        rintro e v17 ⟨rfl, k17⟩
        go_wp2_with fail
        have hS17 := KEEP.out _ _ hS16 k17
        refine hK.out _ _ hS17 (fun _ => ?_)
        clear hK K
        try simp only [Act.put, List.setIfInBounds_toArray, List.set_cons_zero, List.set_cons_succ]
        have G17 := G16.bel k17
        clear k17
        refine wpAnyH_take (i := 7) (oi := { dst := some 10, op := .move (.tmp 17), type := 41, pos := "period.go:59", after := #[{ on := 6, ground := .data }], guard := none }) (v := .tuple #[.agg Y.toArray, .int .i64 q]) rfl (by kernel_rfl) (by kernel_rfl) (by kernel_rfl) (fun _ _ _ h => h) (Or.inl ⟨by rfl, by intro w hSw; clear hSw; go_simp⟩) hS17 ?_
        try simp only [Act.put, List.setIfInBounds_toArray, List.set_cons_zero, List.set_cons_succ]
        refine wpAnyH_take (i := 8) (oi := { dst := some 18, op := .extract (.tmp 10) 0, type := 40, pos := "period.go:59", after := #[{ on := 7, ground := .data }], guard := none }) (v := .agg Y.toArray) rfl (by kernel_rfl) (by kernel_rfl) (by kernel_rfl) (fun _ _ _ h => h) (Or.inl ⟨by rfl, by intro w hSw; clear hSw; go_simp⟩) hS17 ?_
        try simp only [Act.put, List.setIfInBounds_toArray, List.set_cons_zero, List.set_cons_succ]
        refine wpAnyH_take (i := 9) (oi := { dst := some 19, op := .extract (.tmp 10) 1, type := 25, pos := "period.go:59", after := #[{ on := 7, ground := .data }, { on := 11, ground := .gcOnly .lateStores }], guard := none }) (v := .int .i64 q) rfl (by kernel_rfl) (by kernel_rfl) (by kernel_rfl) (fun _ _ _ h => h) (Or.inl ⟨by rfl, by intro w hSw; clear hSw; go_simp⟩) hS17 ?_
        try simp only [Act.put, List.setIfInBounds_toArray, List.set_cons_zero, List.set_cons_succ]
        refine wpAnyH_ready (rs := [11]) (by kernel_rfl) (by simp) ?_
        refine AllReadyH.cons (o := { dst := none, op := .store 40 (.tmp 8) (.tmp 18), type := 0, pos := "period.go:59", after := #[{ on := 10, ground := .data }, { on := 8, ground := .data }, { on := 6, ground := .chain }, { on := 0, ground := .phase }, { on := 1, ground := .phase }, { on := 2, ground := .phase }, { on := 3, ground := .phase }, { on := 4, ground := .phase }, { on := 5, ground := .phase }, { on := 6, ground := .phase }, { on := 7, ground := .phase }, { on := 8, ground := .phase }, { on := 9, ground := .textOnly .lateStores }, { on := 10, ground := .phase }], guard := none }) rfl (fun K hK => ?_) AllReadyH.nil
        rw [if_pos (by rfl)]
        refine wp_store_mid 40 (.tmp 8) (.tmp 18) rfl g 0 Y.toArray rfl rfl (put11 _ Y YL.out rfl G17).1 (by rw [List.size_toArray, YL.out]; exact info_chd) YO.out ?_
        refine hK.out _ _ (put_S hS17.1 hS17.2 hg0 YL.out G17) (fun hS18 => ?_)
        have E18 := put_E hS17.1 hS17.2 hg0 YL.out G17
        clear hK K
        try simp only [Act.put]
        refine wpAnyH_take (i := 12) (oi := { dst := some 9, op := .assign (.tmp 19), type := 25, pos := "period.go:59", after := #[{ on := 9, ground := .data }, { on := 11, ground := .chain }, { on := 0, ground := .phase }, { on := 1, ground := .phase }, { on := 2, ground := .phase }, { on := 3, ground := .phase }, { on := 4, ground := .phase }, { on := 5, ground := .phase }, { on := 6, ground := .phase }, { on := 7, ground := .phase }, { on := 8, ground := .phase }, { on := 9, ground := .phase }, { on := 10, ground := .phase }, { on := 11, ground := .phase }], guard := none }) (v := .int .i64 q) rfl (by kernel_rfl) (by kernel_rfl) (by kernel_rfl) (fun _ _ _ h => h) (Or.inl ⟨by rfl, by intro w hSw; clear hSw; go_simp⟩) hS18 ?_
        try simp only [Act.put, List.setIfInBounds_toArray, List.set_cons_zero, List.set_cons_succ]
        refine wpAnyH_done (by kernel_rfl) ?_ _
        go_wp2_with fail
        go_meet
        exact ⟨g, rfl, rfl, E18⟩
    · go_simp
      have hS19 := KEEP.out _ _ hS0 ((Bel.refl w6).alloc (.cells #[.int .i64 0, .int .i64 0, .int .i64 0, .int .i64 0, .int .i64 0, .int .i64 0, .int .i64 0, .int .u64 0, .int .u64 0, .int .i64 0, .int .u64 0] 40))
      refine hK.out _ _ hS19 (fun _ => ?_)
      clear hK K
      try simp only [Act.put, List.setIfInBounds_toArray, List.set_cons_zero, List.set_cons_succ]
      have G19 : Blk (w6.alloc (.cells #[.int .i64 0, .int .i64 0, .int .i64 0, .int .i64 0, .int .i64 0, .int .i64 0, .int .i64 0, .int .u64 0, .int .u64 0, .int .i64 0, .int .u64 0] 40)) w6.heap.size (recC fun _ => 0).toArray 40 := Blk.new w6 _ _
      have hg0 := Below.size hS0.2
      obtain ⟨g, hg⟩ : ∃ g, w6.heap.size = g := ⟨_, rfl⟩
      obtain ⟨v19, hv⟩ : ∃ v, w6.alloc (.cells #[.int .i64 0, .int .i64 0, .int .i64 0, .int .i64 0, .int .i64 0, .int .i64 0, .int .i64 0, .int .u64 0, .int .u64 0, .int .i64 0, .int .u64 0] 40) = v := ⟨_, rfl⟩
      rw [hv] at hS19 G19 ⊢
      rw [hg] at G19 hg0 ⊢
      clear hg hv
      refine wpAnyH_ready (rs := [2]) (by kernel_rfl) (by simp) ?_
      refine AllReadyH.cons (o := { dst := some 13, op := .call { callee := .value (.func 34), args := #[.tmp 12], argTypes := #[43] }, type := 25, pos := "period.go:59", after := #[{ on := 1, ground := .data }], guard := none }) rfl (fun K hK => ?_) AllReadyH.nil
      go_simp
      refine (HC0.out _).mono ?_
      rintro e v20 ⟨rfl, rfl⟩
      go_wp2_with fail
      refine hK.out _ _ hS19 (fun _ => ?_)
      clear hK K
      try simp only [Act.put, List.setIfInBounds_toArray, List.set_cons_zero, List.set_cons_succ]
      refine wpAnyH_ready (rs := [4]) (by kernel_rfl) (by simp) ?_
      refine AllReadyH.cons (o := { dst := some 15, op := .call { callee := .value (.func 34), args := #[.tmp 14], argTypes := #[43] }, type := 25, pos := "period.go:59", after := #[{ on := 3, ground := .data }, { on := 2, ground := .chain }], guard := none }) rfl (fun K hK => ?_) AllReadyH.nil
      go_simp
      refine (HC1.out _).mono ?_
      rintro e v21 ⟨rfl, rfl⟩
      go_wp2_with fail
      refine hK.out _ _ hS19 (fun _ => ?_)
      clear hK K
      try simp only [Act.put, List.setIfInBounds_toArray, List.set_cons_zero, List.set_cons_succ]
      refine wpAnyH_ready (rs := [5]) (by kernel_rfl) (by simp) ?_
      refine AllReadyH.cons (o := { dst := some 16, op := .buildSlice 59 2 #[(0, .tmp 13), (1, .tmp 15)], type := 59, pos := "period.go:59", after := #[{ on := 2, ground := .data }, { on := 4, ground := .data }], guard := none }) rfl (fun K hK => ?_) AllReadyH.nil
      go_simp
      have hS22 := KEEP.out _ _ hS19 ((Bel.refl v19).alloc (.cells #[.int .i64 c0, .int .i64 c1] 25))
      refine hK.out _ _ hS22 (fun _ => ?_)
      clear hK K
      try simp only [Act.put, List.setIfInBounds_toArray, List.set_cons_zero, List.set_cons_succ]
      have L22 := lit2 v19 c0 c1 25
      obtain ⟨b, hb⟩ : ∃ b, v19.heap.size = b := ⟨_, rfl⟩
      obtain ⟨v22, hv⟩ : ∃ v, v19.alloc (.cells #[.int .i64 c0, .int .i64 c1] 25) = v := ⟨_, rfl⟩
      rw [hv] at hS22 L22 ⊢
      rw [hb] at L22 ⊢
      have G22 := G19.bel (show Bel v19 v22 by rw [← hv]; exact (Bel.refl _).alloc _)
      clear hb hv
      refine wpAnyH_ready (rs := [6]) (by kernel_rfl) (by simp) ?_
      refine AllReadyH.cons (o := { dst := some 17, op := .call { callee := .value (.func 33), args := #[.tmp 11, .tmp 16], argTypes := #[24, 59] }, type := 41, pos := "period.go:59", after := #[{ on := 0, ground := .data }, { on := 5, ground := .data }, { on := 4, ground := .chain }], guard := none }) rfl (fun K hK => ?_) AllReadyH.nil
      go_simp
      refine (CK.out _ _ L22).mono ?_
      rintro e v23 ⟨rfl, k23⟩
      go_wp2_with fail
      have hS23 := KEEP.out _ _ hS22 k23
      refine hK.out _ _ hS23 (fun _ => ?_)
      clear hK K
      try simp only [Act.put, List.setIfInBounds_toArray, List.set_cons_zero, List.set_cons_succ]
      have G23 := G22.bel k23
      clear k23
      refine wpAnyH_take (i := 7) (oi := { dst := some 10, op := .move (.tmp 17), type := 41, pos := "period.go:59", after := #[{ on := 6, ground := .data }], guard := none }) (v := .tuple #[.agg Y.toArray, .int .i64 q]) rfl (by kernel_rfl) (by kernel_rfl) (by kernel_rfl) (fun _ _ _ h => h) (Or.inl ⟨by rfl, by intro w hSw; clear hSw; go_simp⟩) hS23 ?_
      try simp only [Act.put, List.setIfInBounds_toArray, List.set_cons_zero, List.set_cons_succ]
      refine wpAnyH_take (i := 8) (oi := { dst := some 18, op := .extract (.tmp 10) 0, type := 40, pos := "period.go:59", after := #[{ on := 7, ground := .data }], guard := none }) (v := .agg Y.toArray) rfl (by kernel_rfl) (by kernel_rfl) (by kernel_rfl) (fun _ _ _ h => h) (Or.inl ⟨by rfl, by intro w hSw; clear hSw; go_simp⟩) hS23 ?_
      try simp only [Act.put, List.setIfInBounds_toArray, List.set_cons_zero, List.set_cons_succ]
      refine wpAnyH_take (i := 9) (oi := { dst := some 19, op := .extract (.tmp 10) 1, type := 25, pos := "period.go:59", after := #[{ on := 7, ground := .data }, { on := 11, ground := .gcOnly .lateStores }], guard := none }) (v := .int .i64 q) rfl (by kernel_rfl) (by kernel_rfl) (by kernel_rfl) (fun _ _ _ h => h) (Or.inl ⟨by rfl, by intro w hSw; clear hSw; go_simp⟩) hS23 ?_
      try simp only [Act.put, List.setIfInBounds_toArray, List.set_cons_zero, List.set_cons_succ]
      refine wpAnyH_ready (rs := [11]) (by kernel_rfl) (by simp) ?_
      refine AllReadyH.cons (o := { dst := none, op := .store 40 (.tmp 8) (.tmp 18), type := 0, pos := "period.go:59", after := #[{ on := 10, ground := .data }, { on := 8, ground := .data }, { on := 6, ground := .chain }, { on := 0, ground := .phase }, { on := 1, ground := .phase }, { on := 2, ground := .phase }, { on := 3, ground := .phase }, { on := 4, ground := .phase }, { on := 5, ground := .phase }, { on := 6, ground := .phase }, { on := 7, ground := .phase }, { on := 8, ground := .phase }, { on := 9, ground := .textOnly .lateStores }, { on := 10, ground := .phase }], guard := none }) rfl (fun K hK => ?_) AllReadyH.nil
      rw [if_pos (by rfl)]
      refine wp_store_mid 40 (.tmp 8) (.tmp 18) rfl g 0 Y.toArray rfl rfl (put11 _ Y YL.out rfl G23).1 (by rw [List.size_toArray, YL.out]; exact info_chd) YO.out ?_
      refine hK.out _ _ (put_S hS23.1 hS23.2 hg0 YL.out G23) (fun hS24 => ?_)
      have E24 := put_E hS23.1 hS23.2 hg0 YL.out G23
      clear hK K
      try simp only [Act.put]
      refine wpAnyH_take (i := 12) (oi := { dst := some 9, op := .assign (.tmp 19), type := 25, pos := "period.go:59", after := #[{ on := 9, ground := .data }, { on := 11, ground := .chain }, { on := 0, ground := .phase }, { on := 1, ground := .phase }, { on := 2, ground := .phase }, { on := 3, ground := .phase }, { on := 4, ground := .phase }, { on := 5, ground := .phase }, { on := 6, ground := .phase }, { on := 7, ground := .phase }, { on := 8, ground := .phase }, { on := 9, ground := .phase }, { on := 10, ground := .phase }, { on := 11, ground := .phase }], guard := none }) (v := .int .i64 q) rfl (by kernel_rfl) (by kernel_rfl) (by kernel_rfl) (fun _ _ _ h => h) (Or.inl ⟨by rfl, by intro w hSw; clear hSw; go_simp⟩) hS24 ?_
      try simp only [Act.put, List.setIfInBounds_toArray, List.set_cons_zero, List.set_cons_succ]
      refine wpAnyH_done (by kernel_rfl) ?_ _
      go_wp2_with fail
      go_meet
      exact ⟨g, rfl, rfl, E24⟩
  case rest =>
    obtain ⟨g, rfl, rfl, hS⟩ := hcut
    clear KEEP CK HC0 HC1
    have uC := Try.underlying40
    have iC := Lib.hid (show (Try.prog.info? 40).map (·.size) = some Y.length by rw [YL.out]; exact info_chd)
    by_cases h0 : q = 0
    · subst h0
      obtain ⟨hc, h1, h2, h3, h4⟩ := e2_zero HQ.out
      have HFt := Lib.hid (fit_of HX.out hc)
      have hY := HY.out
      rw [yz_zero] at hY
      have RG := Lib.hid (show wc.rangeAt g 0 (recC x) by rw [hY]; exact hS.out.2.1)
      have SI := Lib.hid (fun (n : Nat) => (since h c (wc.drewN n) h3 h4 h1 h2).mono fun e w' (k : _ ∧ _) => (⟨k.1, k.2.symm⟩ : _ ∧ _))
      clear hc hY
      have c9 := rec_cell RG.out 9 (by omega)
      rw [show kd 9 = .i64 from rfl] at c9
      obtain ⟨m, hm⟩ : ∃ m, x 9 = m := ⟨_, rfl⟩
      rw [hm] at c9
      by_cases hch : c ≤ h
      · have HV := Lib.hid (show notB x c h = decide (h - c < m) by unfold notB; rw [HQ.out, hm]; simp [hch])
        clear hm
        go_upto_region 2 with fail
        go_quiet ((go_at_call 38; exact Calls.quiet_of_same (SI.out _)))
        go_wp2_with fail
        go_ret2
        exact ⟨by rw [HV.out, HQ.out]; rfl, B0.out.trans (hS.out.2.2.drewN _)⟩
      · have HV := Lib.hid (show notB x c h = false by unfold notB; rw [HQ.out, decide_eq_false hch]; rfl)
        have hd : decide (c ≤ h) = false := decide_eq_false hch
        clear hm
        go_upto_region 2 with fail
        go_quiet (fail)
        go_wp2_with fail
        go_ret2
        exact ⟨by rw [HV.out, HQ.out]; rfl, B0.out.trans (hS.out.2.2.drewN _)⟩
    · have hb : (q == 0) = false := by simpa using h0
      have hb2 : (q != 0) = true := by simpa using h0
      have HV := Lib.hid (show notB x c h = false by unfold notB; rw [HQ.out, decide_eq_false h0]; rfl)
      go_upto_region 2 with fail
      go_quiet (fail)
      go_wp2_with fail
      go_ret2
      exact ⟨by rw [HV.out, HQ.out]; rfl, B0.out.trans (hS.out.2.2.drewN _)⟩

set_option maxRecDepth 100000 in
set_option maxHeartbeats 4000000 in
theorem agedC (x : Nat → Int) (hx : Kinds x) (c h : Int) (w : World) :
    Calls Try.prog 27 #[.agg (recC x).toArray, .int .i64 c, .int .i64 h] w fun e w' => e = .returned (.int .i64 (agN x c h)) ∧ Bel w w' := by
  obtain ⟨D, hD⟩ : ∃ D, D = recC x := ⟨_, rfl⟩
  obtain ⟨W0, hW0⟩ : ∃ W0, w.alloc (.cells D.toArray 24) = W0 := ⟨_, rfl⟩
  have B0 := Lib.hid (show Bel w W0 by rw [← hW0]; exact (Bel.refl w).alloc _)
  have R0 := Lib.hid (show W0.rangeAt w.heap.size 0 D by rw [← hW0]; exact rngB (Blk.new w D.toArray 24))
  obtain ⟨p, hp⟩ : ∃ p, w.heap.size = p := ⟨_, rfl⟩
  have hp1 := Lib.hid (show p < W0.heap.size by rw [← hW0, ← hp, World.size_alloc]; omega)
  rw [hp] at R0
  have hDl : D.length = 11 := by rw [hD]; rfl
  obtain ⟨c0, hc0⟩ : ∃ k_, wi c = k_ := ⟨_, rfl⟩
  obtain ⟨c1, hc1⟩ : ∃ k_, wi h = k_ := ⟨_, rfl⟩
  obtain ⟨q, hq⟩ : ∃ q, er x [c0, c1] = q := ⟨_, rfl⟩
  obtain ⟨Y, hY⟩ : ∃ Y, recC (yz x q) = Y := ⟨_, rfl⟩
  have HC0 := Lib.hid (fun V => checkH c V)
  rw [hc0] at HC0
  have HC1 := Lib.hid (fun V => checkH h V)
  rw [hc1] at HC1
  have CK := Lib.hid (fun (V : World) (g : Nat) (hi : Ints .i64 V (some ⟨g, 0, none⟩) 2 [c0, c1]) => check_ x hx (some ⟨g, 0, none⟩) 2 2 [c0, c1] V (by omega) hi)
  rw [hq, hY, ← hD] at CK
  rw [← hD]
  have iD : (Try.prog.info? 24).map (·.size) = some D.length := by rw [hDl]; exact info_rec
  have uD := Try.underlying24
  have YL := Lib.hid (show Y.length = 11 by rw [← hY]; rfl)
  have YO := Lib.hid (all_oneCell_toArray (cs := Y) (by rw [← hY]; exact recC_cells _))
  have HDl := Lib.hid hDl
  have HX := Lib.hid hx
  have HP := Lib.hid hp
  have HW0 := Lib.hid hW0
  have HQ := Lib.hid (show e2 x c h = q by rw [← hq, ← hc0, ← hc1]; rfl)
  have HY := Lib.hid hY
  have HD := Lib.hid hD
  clear hx hp hD hW0 hq hY hDl hc0 hc1
  go_enter Try.func27, Try.ntmps27
  go_upto_region 1 with fail
  rw [HW0.out, HP.out]
  have KEEP := Lib.hid (show ∀ V V' : World, (V.rangeAt p 0 D ∧ Bel W0 V) → Bel V V' → (V'.rangeAt p 0 D ∧ Bel W0 V') from fun V V' h hb => ⟨rng_bel h.1 hb, h.2.trans hb⟩)
  go_cut [7, 8] (fun s7 s8 wx => ∃ g : Nat, s7 = .pointer (some ⟨g, 0, none⟩) ∧ s8 = .int .i64 q ∧ Hid (wx.rangeAt p 0 D ∧ wx.rangeAt g 0 Y ∧ Bel W0 wx))
  case first =>
    refine wp_region_held_drew (S := fun V => V.rangeAt p 0 D ∧ Bel W0 V) (by kernel_rfl) ⟨rng_bel R0.out (Bel.refl W0).drew, (Bel.refl W0).drew⟩ (fun hS0 => ?_)
    obtain ⟨w6, hw6⟩ : ∃ w6, W0.drew = w6 := ⟨_, rfl⟩
    rw [hw6] at hS0 ⊢
    clear hw6
    have hp1 := hp1.out
    refine wpAnyH_take (i := 0) (oi := { dst := some 10, op := .load 24 (.tmp 3), type := 24, pos := "period.go:65", after := #[], guard := none }) (v := .agg D.toArray) rfl (by kernel_rfl) (by kernel_rfl) (by kernel_rfl) (fun _ _ _ h => h) (yieldsIf_load_mid (by rfl) _ _ rfl _ _ rfl _ _ (fun w h => h.1) uD rfl iD) hS0 ?_
    try simp only [Act.put, List.setIfInBounds_toArray, List.set_cons_zero, List.set_cons_succ]
    refine wpAnyH_take (i := 1) (oi := { dst := some 11, op := .move (.tmp 1), type := 3, pos := "period.go:65", after := #[], guard := none }) (v := .int .i64 c) rfl (by kernel_rfl) (by kernel_rfl) (by kernel_rfl) (fun _ _ _ h => h) (Or.inl ⟨by rfl, by intro w hSw; clear hSw; go_simp⟩) hS0 ?_
    try simp only [Act.put, List.setIfInBounds_toArray, List.set_cons_zero, List.set_cons_succ]
    refine wpAnyH_take (i := 3) (oi := { dst := some 13, op := .move (.tmp 2), type := 3, pos := "period.go:65", after := #[], guard := none }) (v := .int .i64 h) rfl (by kernel_rfl) (by kernel_rfl) (by kernel_rfl) (fun _ _ _ h => h) (Or.inl ⟨by rfl, by intro w hSw; clear hSw; go_simp⟩) hS0 ?_
    try simp only [Act.put, List.setIfInBounds_toArray, List.set_cons_zero, List.set_cons_succ]
    refine wpAnyH_ready (rs := [2, 10]) (by kernel_rfl) (by simp) ?_
    refine AllReadyH.cons (o := { dst := some 12, op := .call { callee := .value (.func 34), args := #[.tmp 11], argTypes := #[43] }, type := 25, pos := "period.go:65", after := #[{ on := 1, ground := .data }], guard := none }) rfl (fun K hK => ?_) (AllReadyH.cons (o := { dst := some 7, op := .alloc 40, type := 0, pos := "period.go:65", after := #[], guard := none }) rfl (fun K hK => ?_) AllReadyH.nil)
    · go_simp
      refine (HC0.out _).mono ?_
      rintro e v1 ⟨rfl, rfl⟩
      go_wp2_with fail
      refine hK.out _ _ hS0 (fun _ => ?_)
      clear hK K
      try simp only [Act.put, List.setIfInBounds_toArray, List.set_cons_zero, List.set_cons_succ]
      refine wpAnyH_ready (rs := [4, 10]) (by kernel_rfl) (by simp) ?_
      refine AllReadyH.cons (o := { dst := some 14, op := .call { callee := .value (.func 34), args := #[.tmp 13], argTypes := #[43] }, type := 25, pos := "period.go:65", after := #[{ on := 3, ground := .data }, { on := 2, ground := .chain }], guard := none }) rfl (fun K hK => ?_) (AllReadyH.cons (o := { dst := some 7, op := .alloc 40, type := 0, pos := "period.go:65", after := #[], guard := none }) rfl (fun K hK => ?_) AllReadyH.nil)
      · go_simp
        refine (HC1.out _).mono ?_
        rintro e v2 ⟨rfl, rfl⟩
        go_wp2_with fail
        refine hK.out _ _ hS0 (fun _ => ?_)
        clear hK K
        try simp only [Act.put, List.setIfInBounds_toArray, List.set_cons_zero, List.set_cons_succ]
        refine wpAnyH_ready (rs := [5, 10]) (by kernel_rfl) (by simp) ?_
        refine AllReadyH.cons (o := { dst := some 15, op := .buildSlice 59 2 #[(0, .tmp 12), (1, .tmp 14)], type := 59, pos := "period.go:65", after := #[{ on := 2, ground := .data }, { on := 4, ground := .data }], guard := none }) rfl (fun K hK => ?_) (AllReadyH.cons (o := { dst := some 7, op := .alloc 40, type := 0, pos := "period.go:65", after := #[], guard := none }) rfl (fun K hK => ?_) AllReadyH.nil)
        · go_simp
          have hS3 := KEEP.out _ _ hS0 ((Bel.refl w6).alloc (.cells #[.int .i64 c0, .int .i64 c1] 25))
          refine hK.out _ _ hS3 (fun _ => ?_)
          clear hK K
          try simp only [Act.put, List.setIfInBounds_toArray, List.set_cons_zero, List.set_cons_succ]
          have L3 := lit2 w6 c0 c1 25
          obtain ⟨b, hb⟩ : ∃ b, w6.heap.size = b := ⟨_, rfl⟩
          obtain ⟨v3, hv⟩ : ∃ v, w6.alloc (.cells #[.int .i64 c0, .int .i64 c1] 25) = v := ⟨_, rfl⟩
          rw [hv] at hS3 L3 ⊢
          rw [hb] at L3 ⊢
          clear hb hv
          refine wpAnyH_ready (rs := [6, 10]) (by kernel_rfl) (by simp) ?_
          refine AllReadyH.cons (o := { dst := some 16, op := .call { callee := .value (.func 33), args := #[.tmp 10, .tmp 15], argTypes := #[24, 59] }, type := 41, pos := "period.go:65", after := #[{ on := 0, ground := .data }, { on := 5, ground := .data }, { on := 4, ground := .chain }], guard := none }) rfl (fun K hK => ?_) (AllReadyH.cons (o := { dst := some 7, op := .alloc 40, type := 0, pos := "period.go:65", after := #[], guard := none }) rfl (fun K hK => ?_) AllReadyH.nil)
          · go_simp
            refine (CK.out _ _ L3).mono ?_
            rintro e v4 ⟨rfl, k4⟩
            go_wp2_with fail
            have hS4 := KEEP.out _ _ hS3 k4
            refine hK.out _ _ hS4 (fun _ => ?_)
            clear hK K
            try simp only [Act.put, List.setIfInBounds_toArray, List.set_cons_zero, List.set_cons_succ]
            clear k4
            refine wpAnyH_take (i := 7) (oi := { dst := some 9, op := .move (.tmp 16), type := 41, pos := "period.go:65", after := #[{ on := 6, ground := .data }], guard := none }) (v := .tuple #[.agg Y.toArray, .int .i64 q]) rfl (by kernel_rfl) (by kernel_rfl) (by kernel_rfl) (fun _ _ _ h => h) (Or.inl ⟨by rfl, by intro w hSw; clear hSw; go_simp⟩) hS4 ?_
            try simp only [Act.put, List.setIfInBounds_toArray, List.set_cons_zero, List.set_cons_succ]
            refine wpAnyH_take (i := 8) (oi := { dst := some 17, op := .extract (.tmp 9) 0, type := 40, pos := "period.go:65", after := #[{ on := 7, ground := .data }], guard := none }) (v := .agg Y.toArray) rfl (by kernel_rfl) (by kernel_rfl) (by kernel_rfl) (fun _ _ _ h => h) (Or.inl ⟨by rfl, by intro w hSw; clear hSw; go_simp⟩) hS4 ?_
            try simp only [Act.put, List.setIfInBounds_toArray, List.set_cons_zero, List.set_cons_succ]
            refine wpAnyH_take (i := 9) (oi := { dst := some 18, op := .extract (.tmp 9) 1, type := 25, pos := "period.go:65", after := #[{ on := 7, ground := .data }, { on := 11, ground := .gcOnly .lateStores }], guard := none }) (v := .int .i64 q) rfl (by kernel_rfl) (by kernel_rfl) (by kernel_rfl) (fun _ _ _ h => h) (Or.inl ⟨by rfl, by intro w hSw; clear hSw; go_simp⟩) hS4 ?_
            try simp only [Act.put, List.setIfInBounds_toArray, List.set_cons_zero, List.set_cons_succ]
            refine wpAnyH_ready (rs := [10]) (by kernel_rfl) (by simp) ?_
            refine AllReadyH.cons (o := { dst := some 7, op := .alloc 40, type := 0, pos := "period.go:65", after := #[], guard := none }) rfl (fun K hK => ?_) AllReadyH.nil
            go_simp
            have hS5 := KEEP.out _ _ hS4 ((Bel.refl v4).alloc (.cells #[.int .i64 0, .int .i64 0, .int .i64 0, .int .i64 0, .int .i64 0, .int .i64 0, .int .i64 0, .int .u64 0, .int .u64 0, .int .i64 0, .int .u64 0] 40))
            refine hK.out _ _ hS5 (fun _ => ?_)
            clear hK K
            try simp only [Act.put, List.setIfInBounds_toArray, List.set_cons_zero, List.set_cons_succ]
            have G5 : Blk (v4.alloc (.cells #[.int .i64 0, .int .i64 0, .int .i64 0, .int .i64 0, .int .i64 0, .int .i64 0, .int .i64 0, .int .u64 0, .int .u64 0, .int .i64 0, .int .u64 0] 40)) v4.heap.size (recC fun _ => 0).toArray 40 := Blk.new v4 _ _
            have hg0 := Below.size hS4.2
            obtain ⟨g, hg⟩ : ∃ g, v4.heap.size = g := ⟨_, rfl⟩
            obtain ⟨v5, hv⟩ : ∃ v, v4.alloc (.cells #[.int .i64 0, .int .i64 0, .int .i64 0, .int .i64 0, .int .i64 0, .int .i64 0, .int .i64 0, .int .u64 0, .int .u64 0, .int .i64 0, .int .u64 0] 40) = v := ⟨_, rfl⟩
            rw [hv] at hS5 G5 ⊢
            rw [hg] at G5 hg0 ⊢
            clear hg hv
            refine wpAnyH_ready (rs := [11]) (by kernel_rfl) (by simp) ?_
            refine AllReadyH.cons (o := { dst := none, op := .store 40 (.tmp 7) (.tmp 17), type := 0, pos := "period.go:65", after := #[{ on := 10, ground := .data }, { on := 8, ground := .data }, { on := 6, ground := .chain }, { on := 0, ground := .phase }, { on := 1, ground := .phase }, { on := 2, ground := .phase }, { on := 3, ground := .phase }, { on := 4, ground := .phase }, { on := 5, ground := .phase }, { on := 6, ground := .phase }, { on := 7, ground := .phase }, { on := 8, ground := .phase }, { on := 9, ground := .textOnly .lateStores }, { on := 10, ground := .phase }], guard := none }) rfl (fun K hK => ?_) AllReadyH.nil
            rw [if_pos (by rfl)]
            refine wp_store_mid 40 (.tmp 7) (.tmp 17) rfl g 0 Y.toArray rfl rfl (put11 _ Y YL.out rfl G5).1 (by rw [List.size_toArray, YL.out]; exact info_chd) YO.out ?_
            refine hK.out _ _ (put_S hS5.1 hS5.2 hg0 YL.out G5) (fun hS6 => ?_)
            have E6 := put_E hS5.1 hS5.2 hg0 YL.out G5
            clear hK K
            try simp only [Act.put]
            refine wpAnyH_take (i := 12) (oi := { dst := some 8, op := .assign (.tmp 18), type := 25, pos := "period.go:65", after := #[{ on := 9, ground := .data }, { on := 11, ground := .chain }, { on := 0, ground := .phase }, { on := 1, ground := .phase }, { on := 2, ground := .phase }, { on := 3, ground := .phase }, { on := 4, ground := .phase }, { on := 5, ground := .phase }, { on := 6, ground := .phase }, { on := 7, ground := .phase }, { on := 8, ground := .phase }, { on := 9, ground := .phase }, { on := 10, ground := .phase }, { on := 11, ground := .phase }], guard := none }) (v := .int .i64 q) rfl (by kernel_rfl) (by kernel_rfl) (by kernel_rfl) (fun _ _ _ h => h) (Or.inl ⟨by rfl, by intro w hSw; clear hSw; go_simp⟩) hS6 ?_
            try simp only [Act.put, List.setIfInBounds_toArray, List.set_cons_zero, List.set_cons_succ]
            refine wpAnyH_done (by kernel_rfl) ?_ _
            go_wp2_with fail
            go_meet
            exact ⟨g, rfl, rfl, E6⟩
          · go_simp
            have hS7 := KEEP.out _ _ hS3 ((Bel.refl v3).alloc (.cells #[.int .i64 0, .int .i64 0, .int .i64 0, .int .i64 0, .int .i64 0, .int .i64 0, .int .i64 0, .int .u64 0, .int .u64 0, .int .i64 0, .int .u64 0] 40))
            refine hK.out _ _ hS7 (fun _ => ?_)
            clear hK K
            try simp only [Act.put, List.setIfInBounds_toArray, List.set_cons_zero, List.set_cons_succ]
            have G7 : Blk (v3.alloc (.cells #[.int .i64 0, .int .i64 0, .int .i64 0, .int .i64 0, .int .i64 0, .int .i64 0, .int .i64 0, .int .u64 0, .int .u64 0, .int .i64 0, .int .u64 0] 40)) v3.heap.size (recC fun _ => 0).toArray 40 := Blk.new v3 _ _
            have hg0 := Below.size hS3.2
            obtain ⟨g, hg⟩ : ∃ g, v3.heap.size = g := ⟨_, rfl⟩
            obtain ⟨v7, hv⟩ : ∃ v, v3.alloc (.cells #[.int .i64 0, .int .i64 0, .int .i64 0, .int .i64 0, .int .i64 0, .int .i64 0, .int .i64 0, .int .u64 0, .int .u64 0, .int .i64 0, .int .u64 0] 40) = v := ⟨_, rfl⟩
            rw [hv] at hS7 G7 ⊢
            rw [hg] at G7 hg0 ⊢
            have L7 := L3.bel (show Bel v3 v7 by rw [← hv]; exact (Bel.refl _).alloc _)
            clear hg hv
            refine wpAnyH_ready (rs := [6]) (by kernel_rfl) (by simp) ?_
            refine AllReadyH.cons (o := { dst := some 16, op := .call { callee := .value (.func 33), args := #[.tmp 10, .tmp 15], argTypes := #[24, 59] }, type := 41, pos := "period.go:65", after := #[{ on := 0, ground := .data }, { on := 5, ground := .data }, { on := 4, ground := .chain }], guard := none }) rfl (fun K hK => ?_) AllReadyH.nil
            go_simp
            refine (CK.out _ _ L7).mono ?_
            rintro e v8 ⟨rfl, k8⟩
            go_wp2_with fail
            have hS8 := KEEP.out _ _ hS7 k8
            refine hK.out _ _ hS8 (fun _ => ?_)
            clear hK K
            try simp only [Act.put, List.setIfInBounds_toArray, List.set_cons_zero, List.set_cons_succ]
            have G8 := G7.bel k8
            clear k8
            refine wpAnyH_take (i := 7) (oi := { dst := some 9, op := .move (.tmp 16), type := 41, pos := "period.go:65", after := #[{ on := 6, ground := .data }], guard := none }) (v := .tuple #[.agg Y.toArray, .int .i64 q]) rfl (by kernel_rfl) (by kernel_rfl) (by kernel_rfl) (fun _ _ _ h => h) (Or.inl ⟨by rfl, by intro w hSw; clear hSw; go_simp⟩) hS8 ?_
            try simp only [Act.put, List.setIfInBounds_toArray, List.set_cons_zero, List.set_cons_succ]
            refine wpAnyH_take (i := 8) (oi := { dst := some 17, op := .extract (.tmp 9) 0, type := 40, pos := "period.go:65", after := #[{ on := 7, ground := .data }], guard := none }) (v := .agg Y.toArray) rfl (by kernel_rfl) (by kernel_rfl) (by kernel_rfl) (fun _ _ _ h => h) (Or.inl ⟨by rfl, by intro w hSw; clear hSw; go_simp⟩) hS8 ?_
            try simp only [Act.put, List.setIfInBounds_toArray, List.set_cons_zero, List.set_cons_succ]
            refine wpAnyH_take (i := 9) (oi := { dst := some 18, op := .extract (.tmp 9) 1, type := 25, pos := "period.go:65", after := #[{ on := 7, ground := .data }, { on := 11, ground := .gcOnly .lateStores }], guard := none }) (v := .int .i64 q) rfl (by kernel_rfl) (by kernel_rfl) (by kernel_rfl) (fun _ _ _ h => h) (Or.inl ⟨by rfl, by intro w hSw; clear hSw; go_simp⟩) hS8 ?_
            try simp only [Act.put, List.setIfInBounds_toArray, List.set_cons_zero, List.set_cons_succ]
            refine wpAnyH_ready (rs := [11]) (by kernel_rfl) (by simp) ?_
            refine AllReadyH.cons (o := { dst := none, op := .store 40 (.tmp 7) (.tmp 17), type := 0, pos := "period.go:65", after := #[{ on := 10, ground := .data }, { on := 8, ground := .data }, { on := 6, ground := .chain }, { on := 0, ground := .phase }, { on := 1, ground := .phase }, { on := 2, ground := .phase }, { on := 3, ground := .phase }, { on := 4, ground := .phase }, { on := 5, ground := .phase }, { on := 6, ground := .phase }, { on := 7, ground := .phase }, { on := 8, ground := .phase }, { on := 9, ground := .textOnly .lateStores }, { on := 10, ground := .phase }], guard := none }) rfl (fun K hK => ?_) AllReadyH.nil
            rw [if_pos (by rfl)]
            refine wp_store_mid 40 (.tmp 7) (.tmp 17) rfl g 0 Y.toArray rfl rfl (put11 _ Y YL.out rfl G8).1 (by rw [List.size_toArray, YL.out]; exact info_chd) YO.out ?_
            refine hK.out _ _ (put_S hS8.1 hS8.2 hg0 YL.out G8) (fun hS9 => ?_)
            have E9 := put_E hS8.1 hS8.2 hg0 YL.out G8
            clear hK K
            try simp only [Act.put]
            refine wpAnyH_take (i := 12) (oi := { dst := some 8, op := .assign (.tmp 18), type := 25, pos := "period.go:65", after := #[{ on := 9, ground := .data }, { on := 11, ground := .chain }, { on := 0, ground := .phase }, { on := 1, ground := .phase }, { on := 2, ground := .phase }, { on := 3, ground := .phase }, { on := 4, ground := .phase }, { on := 5, ground := .phase }, { on := 6, ground := .phase }, { on := 7, ground := .phase }, { on := 8, ground := .phase }, { on := 9, ground := .phase }, { on := 10, ground := .phase }, { on := 11, ground := .phase }], guard := none }) (v := .int .i64 q) rfl (by kernel_rfl) (by kernel_rfl) (by kernel_rfl) (fun _ _ _ h => h) (Or.inl ⟨by rfl, by intro w hSw; clear hSw; go_simp⟩) hS9 ?_
            try simp only [Act.put, List.setIfInBounds_toArray, List.set_cons_zero, List.set_cons_succ]
            refine wpAnyH_done (by kernel_rfl) ?_ _
            go_wp2_with fail
            go_meet
            exact ⟨g, rfl, rfl, E9⟩
        · go_simp
          have hS10 := KEEP.out _ _ hS0 ((Bel.refl w6).alloc (.cells #[.int .i64 0, .int .i64 0, .int .i64 0, .int .i64 0, .int .i64 0, .int .i64 0, .int .i64 0, .int .u64 0, .int .u64 0, .int .i64 0, .int .u64 0] 40))
          refine hK.out _ _ hS10 (fun _ => ?_)
          clear hK K
          try simp only [Act.put, List.setIfInBounds_toArray, List.set_cons_zero, List.set_cons_succ]
          have G10 : Blk (w6.alloc (.cells #[.int .i64 0, .int .i64 0, .int .i64 0, .int .i64 0, .int .i64 0, .int .i64 0, .int .i64 0, .int .u64 0, .int .u64 0, .int .i64 0, .int .u64 0] 40)) w6.heap.size (recC fun _ => 0).toArray 40 := Blk.new w6 _ _
          have hg0 := Below.size hS0.2
          obtain ⟨g, hg⟩ : ∃ g, w6.heap.size = g := ⟨_, rfl⟩
          obtain ⟨v10, hv⟩ : ∃ v, w6.alloc (.cells #[.int .i64 0, .int .i64 0, .int .i64 0, .int .i64 0, .int .i64 0, .int .i64 0, .int .i64 0, .int .u64 0, .int .u64 0, .int .i64 0, .int .u64 0] 40) = v := ⟨_, rfl⟩
          rw [hv] at hS10 G10 ⊢
          rw [hg] at G10 hg0 ⊢
          clear hg hv
          refine wpAnyH_ready (rs := [5]) (by kernel_rfl) (by simp) ?_
          refine AllReadyH.cons (o := { dst := some 15, op := .buildSlice 59 2 #[(0, .tmp 12), (1, .tmp 14)], type := 59, pos := "period.go:65", after := #[{ on := 2, ground := .data }, { on := 4, ground := .data }], guard := none }) rfl (fun K hK => ?_) AllReadyH.nil
          go_simp
          have hS11 := KEEP.out _ _ hS10 ((Bel.refl v10).alloc (.cells #[.int .i64 c0, .int .i64 c1] 25))
          refine hK.out _ _ hS11 (fun _ => ?_)
          clear hK K
          try simp only [Act.put, List.setIfInBounds_toArray, List.set_cons_zero, List.set_cons_succ]
          have L11 := lit2 v10 c0 c1 25
          obtain ⟨b, hb⟩ : ∃ b, v10.heap.size = b := ⟨_, rfl⟩
          obtain ⟨v11, hv⟩ : ∃ v, v10.alloc (.cells #[.int .i64 c0, .int .i64 c1] 25) = v := ⟨_, rfl⟩
          rw [hv] at hS11 L11 ⊢
          rw [hb] at L11 ⊢
          have G11 := G10.bel (show Bel v10 v11 by rw [← hv]; exact (Bel.refl _).alloc _)
          clear hb hv
          refine wpAnyH_ready (rs := [6]) (by kernel_rfl) (by simp) ?_
          refine AllReadyH.cons (o := { dst := some 16, op := .call { callee := .value (.func 33), args := #[.tmp 10, .tmp 15], argTypes := #[24, 59] }, type := 41, pos := "period.go:65", after := #[{ on := 0, ground := .data }, { on := 5, ground := .data }, { on := 4, ground := .chain }], guard := none }) rfl (fun K hK => ?_) AllReadyH.nil
          go_simp
          refine (CK.out _ _ L11).mono ?_
          rintro e v12 ⟨rfl, k12⟩
          go_wp2_with fail
          have hS12 := KEEP.out _ _ hS11 k12
          refine hK.out _ _ hS12 (fun _ => ?_)
          clear hK K
          try simp only [Act.put, List.setIfInBounds_toArray, List.set_cons_zero, List.set_cons_succ]
          have G12 := G11.bel k12
          clear k12
          refine wpAnyH_take (i := 7) (oi := { dst := some 9, op := .move (.tmp 16), type := 41, pos := "period.go:65", after := #[{ on := 6, ground := .data }], guard := none }) (v := .tuple #[.agg Y.toArray, .int .i64 q]) rfl (by kernel_rfl) (by kernel_rfl) (by kernel_rfl) (fun _ _ _ h => h) (Or.inl ⟨by rfl, by intro w hSw; clear hSw; go_simp⟩) hS12 ?_
          try simp only [Act.put, List.setIfInBounds_toArray, List.set_cons_zero, List.set_cons_succ]
          refine wpAnyH_take (i := 8) (oi := { dst := some 17, op := .extract (.tmp 9) 0, type := 40, pos := "period.go:65", after := #[{ on := 7, ground := .data }], guard := none }) (v := .agg Y.toArray) rfl (by kernel_rfl) (by kernel_rfl) (by kernel_rfl) (fun _ _ _ h => h) (Or.inl ⟨by rfl, by intro w hSw; clear hSw; go_simp⟩) hS12 ?_
          try simp only [Act.put, List.setIfInBounds_toArray, List.set_cons_zero, List.set_cons_succ]
          refine wpAnyH_take (i := 9) (oi := { dst := some 18, op := .extract (.tmp 9) 1, type := 25, pos := "period.go:65", after := #[{ on := 7, ground := .data }, { on := 11, ground := .gcOnly .lateStores }], guard := none }) (v := .int .i64 q) rfl (by kernel_rfl) (by kernel_rfl) (by kernel_rfl) (fun _ _ _ h => h) (Or.inl ⟨by rfl, by intro w hSw; clear hSw; go_simp⟩) hS12 ?_
          try simp only [Act.put, List.setIfInBounds_toArray, List.set_cons_zero, List.set_cons_succ]
          refine wpAnyH_ready (rs := [11]) (by kernel_rfl) (by simp) ?_
          refine AllReadyH.cons (o := { dst := none, op := .store 40 (.tmp 7) (.tmp 17), type := 0, pos := "period.go:65", after := #[{ on := 10, ground := .data }, { on := 8, ground := .data }, { on := 6, ground := .chain }, { on := 0, ground := .phase }, { on := 1, ground := .phase }, { on := 2, ground := .phase }, { on := 3, ground := .phase }, { on := 4, ground := .phase }, { on := 5, ground := .phase }, { on := 6, ground := .phase }, { on := 7, ground := .phase }, { on := 8, ground := .phase }, { on := 9, ground := .textOnly .lateStores }, { on := 10, ground := .phase }], guard := none }) rfl (fun K hK => ?_) AllReadyH.nil
          rw [if_pos (by rfl)]
          refine wp_store_mid 40 (.tmp 7) (.tmp 17) rfl g 0 Y.toArray rfl rfl (put11 _ Y YL.out rfl G12).1 (by rw [List.size_toArray, YL.out]; exact info_chd) YO.out ?_
          refine hK.out _ _ (put_S hS12.1 hS12.2 hg0 YL.out G12) (fun hS13 => ?_)
          have E13 := put_E hS12.1 hS12.2 hg0 YL.out G12
          clear hK K
          try simp only [Act.put]
          refine wpAnyH_take (i := 12) (oi := { dst := some 8, op := .assign (.tmp 18), type := 25, pos := "period.go:65", after := #[{ on := 9, ground := .data }, { on := 11, ground := .chain }, { on := 0, ground := .phase }, { on := 1, ground := .phase }, { on := 2, ground := .phase }, { on := 3, ground := .phase }, { on := 4, ground := .phase }, { on := 5, ground := .phase }, { on := 6, ground := .phase }, { on := 7, ground := .phase }, { on := 8, ground := .phase }, { on := 9, ground := .phase }, { on := 10, ground := .phase }, { on := 11, ground := .phase }], guard := none }) (v := .int .i64 q) rfl (by kernel_rfl) (by kernel_rfl) (by kernel_rfl) (fun _ _ _ h => h) (Or.inl ⟨by rfl, by intro w hSw; clear hSw; go_simp⟩) hS13 ?_
          try simp only [Act.put, List.setIfInBounds_toArray, List.set_cons_zero, List.set_cons_succ]
          refine wpAnyH_done (by kernel_rfl) ?_ _
          go_wp2_with fail
          go_meet
          exact ⟨g, rfl, rfl, E13⟩
      · go_simp
        have hS14 := KEEP.out _ _ hS0 ((Bel.refl w6).alloc (.cells #[.int .i64 0, .int .i64 0, .int .i64 0, .int .i64 0, .int .i64 0, .int .i64 0, .int .i64 0, .int .u64 0, .int .u64 0, .int .i64 0, .int .u64 0] 40))
        refine hK.out _ _ hS14 (fun _ => ?_)
        clear hK K
        try simp only [Act.put, List.setIfInBounds_toArray, List.set_cons_zero, List.set_cons_succ]
        have G14 : Blk (w6.alloc (.cells #[.int .i64 0, .int .i64 0, .int .i64 0, .int .i64 0, .int .i64 0, .int .i64 0, .int .i64 0, .int .u64 0, .int .u64 0, .int .i64 0, .int .u64 0] 40)) w6.heap.size (recC fun _ => 0).toArray 40 := Blk.new w6 _ _
        have hg0 := Below.size hS0.2
        obtain ⟨g, hg⟩ : ∃ g, w6.heap.size = g := ⟨_, rfl⟩
        obtain ⟨v14, hv⟩ : ∃ v, w6.alloc (.cells #[.int .i64 0, .int .i64 0, .int .i64 0, .int .i64 0, .int .i64 0, .int .i64 0, .int .i64 0, .int .u64 0, .int .u64 0, .int .i64 0, .int .u64 0] 40) = v := ⟨_, rfl⟩
        rw [hv] at hS14 G14 ⊢
        rw [hg] at G14 hg0 ⊢
        clear hg hv
        refine wpAnyH_ready (rs := [4]) (by kernel_rfl) (by simp) ?_
        refine AllReadyH.cons (o := { dst := some 14, op := .call { callee := .value (.func 34), args := #[.tmp 13], argTypes := #[43] }, type := 25, pos := "period.go:65", after := #[{ on := 3, ground := .data }, { on := 2, ground := .chain }], guard := none }) rfl (fun K hK => ?_) AllReadyH.nil
        go_simp
        refine (HC1.out _).mono ?_
        rintro e v15 ⟨rfl, rfl⟩
        go_wp2_with fail
        refine hK.out _ _ hS14 (fun _ => ?_)
        clear hK K
        try simp only [Act.put, List.setIfInBounds_toArray, List.set_cons_zero, List.set_cons_succ]
        refine wpAnyH_ready (rs := [5]) (by kernel_rfl) (by simp) ?_
        refine AllReadyH.cons (o := { dst := some 15, op := .buildSlice 59 2 #[(0, .tmp 12), (1, .tmp 14)], type := 59, pos := "period.go:65", after := #[{ on := 2, ground := .data }, { on := 4, ground := .data }], guard := none }) rfl (fun K hK => ?_) AllReadyH.nil
        go_simp
        have hS16 := KEEP.out _ _ hS14 ((Bel.refl v14).alloc (.cells #[.int .i64 c0, .int .i64 c1] 25))
        refine hK.out _ _ hS16 (fun _ => ?_)
        clear hK K
        try simp only [Act.put, List.setIfInBounds_toArray, List.set_cons_zero, List.set_cons_succ]
        have L16 := lit2 v14 c0 c1 25
        obtain ⟨b, hb⟩ : ∃ b, v14.heap.size = b := ⟨_, rfl⟩
        obtain ⟨v16, hv⟩ : ∃ v, v14.alloc (.cells #[.int .i64 c0, .int .i64 c1] 25) = v := ⟨_, rfl⟩
        rw [hv] at hS16 L16 ⊢
        rw [hb] at L16 ⊢
        have G16 := G14.bel (show Bel v14 v16 by rw [← hv]; exact (Bel.refl _).alloc _)
        clear hb hv
        refine wpAnyH_ready (rs := [6]) (by kernel_rfl) (by simp) ?_
        refine AllReadyH.cons (o := { dst := some 16, op := .call { callee := .value (.func 33), args := #[.tmp 10, .tmp 15], argTypes := #[24, 59] }, type := 41, pos := "period.go:65", after := #[{ on := 0, ground := .data }, { on := 5, ground := .data }, { on := 4, ground := .chain }], guard := none }) rfl (fun K hK => ?_) AllReadyH.nil
        go_simp
        refine (CK.out _ _ L16).mono ?_
        rintro e v17 ⟨rfl, k17⟩
        go_wp2_with fail
        have hS17 := KEEP.out _ _ hS16 k17
        refine hK.out _ _ hS17 (fun _ => ?_)
        clear hK K
        try simp only [Act.put, List.setIfInBounds_toArray, List.set_cons_zero, List.set_cons_succ]
        have G17 := G16.bel k17
        clear k17
        refine wpAnyH_take (i := 7) (oi := { dst := some 9, op := .move (.tmp 16), type := 41, pos := "period.go:65", after := #[{ on := 6, ground := .data }], guard := none }) (v := .tuple #[.agg Y.toArray, .int .i64 q]) rfl (by kernel_rfl) (by kernel_rfl) (by kernel_rfl) (fun _ _ _ h => h) (Or.inl ⟨by rfl, by intro w hSw; clear hSw; go_simp⟩) hS17 ?_
        try simp only [Act.put, List.setIfInBounds_toArray, List.set_cons_zero, List.set_cons_succ]
        refine wpAnyH_take (i := 8) (oi := { dst := some 17, op := .extract (.tmp 9) 0, type := 40, pos := "period.go:65", after := #[{ on := 7, ground := .data }], guard := none }) (v := .agg Y.toArray) rfl (by kernel_rfl) (by kernel_rfl) (by kernel_rfl) (fun _ _ _ h => h) (Or.inl ⟨by rfl, by intro w hSw; clear hSw; go_simp⟩) hS17 ?_
        try simp only [Act.put, List.setIfInBounds_toArray, List.set_cons_zero, List.set_cons_succ]
        refine wpAnyH_take (i := 9) (oi := { dst := some 18, op := .extract (.tmp 9) 1, type := 25, pos := "period.go:65", after := #[{ on := 7, ground := .data }, { on := 11, ground := .gcOnly .lateStores }], guard := none }) (v := .int .i64 q) rfl (by kernel_rfl) (by kernel_rfl) (by kernel_rfl) (fun _ _ _ h => h) (Or.inl ⟨by rfl, by intro w hSw; clear hSw; go_simp⟩) hS17 ?_
        try simp only [Act.put, List.setIfInBounds_toArray, List.set_cons_zero, List.set_cons_succ]
        refine wpAnyH_ready (rs := [11]) (by kernel_rfl) (by simp) ?_
        refine AllReadyH.cons (o := { dst := none, op := .store 40 (.tmp 7) (.tmp 17), type := 0, pos := "period.go:65", after := #[{ on := 10, ground := .data }, { on := 8, ground := .data }, { on := 6, ground := .chain }, { on := 0, ground := .phase }, { on := 1, ground := .phase }, { on := 2, ground := .phase }, { on := 3, ground := .phase }, { on := 4, ground := .phase }, { on := 5, ground := .phase }, { on := 6, ground := .phase }, { on := 7, ground := .phase }, { on := 8, ground := .phase }, { on := 9, ground := .textOnly .lateStores }, { on := 10, ground := .phase }], guard := none }) rfl (fun K hK => ?_) AllReadyH.nil
        rw [if_pos (by rfl)]
        refine wp_store_mid 40 (.tmp 7) (.tmp 17) rfl g 0 Y.toArray rfl rfl (put11 _ Y YL.out rfl G17).1 (by rw [List.size_toArray, YL.out]; exact info_chd) YO.out ?_
        refine hK.out _ _ (put_S hS17.1 hS17.2 hg0 YL.out G17) (fun hS18 => ?_)
        have E18 := put_E hS17.1 hS17.2 hg0 YL.out G17
        clear hK K
        try simp only [Act.put]
        refine wpAnyH_take (i := 12) (oi := { dst := some 8, op := .assign (.tmp 18), type := 25, pos := "period.go:65", after := #[{ on := 9, ground := .data }, { on := 11, ground := .chain }, { on := 0, ground := .phase }, { on := 1, ground := .phase }, { on := 2, ground := .phase }, { on := 3, ground := .phase }, { on := 4, ground := .phase }, { on := 5, ground := .phase }, { on := 6, ground := .phase }, { on := 7, ground := .phase }, { on := 8, ground := .phase }, { on := 9, ground := .phase }, { on := 10, ground := .phase }, { on := 11, ground := .phase }], guard := none }) (v := .int .i64 q) rfl (by kernel_rfl) (by kernel_rfl) (by kernel_rfl) (fun _ _ _ h => h) (Or.inl ⟨by rfl, by intro w hSw; clear hSw; go_simp⟩) hS18 ?_
        try simp only [Act.put, List.setIfInBounds_toArray, List.set_cons_zero, List.set_cons_succ]
        refine wpAnyH_done (by kernel_rfl) ?_ _
        go_wp2_with fail
        go_meet
        exact ⟨g, rfl, rfl, E18⟩
    · go_simp
      have hS19 := KEEP.out _ _ hS0 ((Bel.refl w6).alloc (.cells #[.int .i64 0, .int .i64 0, .int .i64 0, .int .i64 0, .int .i64 0, .int .i64 0, .int .i64 0, .int .u64 0, .int .u64 0, .int .i64 0, .int .u64 0] 40))
      refine hK.out _ _ hS19 (fun _ => ?_)
      clear hK K
      try simp only [Act.put, List.setIfInBounds_toArray, List.set_cons_zero, List.set_cons_succ]
      have G19 : Blk (w6.alloc (.cells #[.int .i64 0, .int .i64 0, .int .i64 0, .int .i64 0, .int .i64 0, .int .i64 0, .int .i64 0, .int .u64 0, .int .u64 0, .int .i64 0, .int .u64 0] 40)) w6.heap.size (recC fun _ => 0).toArray 40 := Blk.new w6 _ _
      have hg0 := Below.size hS0.2
      obtain ⟨g, hg⟩ : ∃ g, w6.heap.size = g := ⟨_, rfl⟩
      obtain ⟨v19, hv⟩ : ∃ v, w6.alloc (.cells #[.int .i64 0, .int .i64 0, .int .i64 0, .int .i64 0, .int .i64 0, .int .i64 0, .int .i64 0, .int .u64 0, .int .u64 0, .int .i64 0, .int .u64 0] 40) = v := ⟨_, rfl⟩
      rw [hv] at hS19 G19 ⊢
      rw [hg] at G19 hg0 ⊢
      clear hg hv
      refine wpAnyH_ready (rs := [2]) (by kernel_rfl) (by simp) ?_
      refine AllReadyH.cons (o := { dst := some 12, op := .call { callee := .value (.func 34), args := #[.tmp 11], argTypes := #[43] }, type := 25, pos := "period.go:65", after := #[{ on := 1, ground := .data }], guard := none }) rfl (fun K hK => ?_) AllReadyH.nil
      go_simp
      refine (HC0.out _).mono ?_
      rintro e v20 ⟨rfl, rfl⟩
      go_wp2_with fail
      refine hK.out _ _ hS19 (fun _ => ?_)
      clear hK K
      try simp only [Act.put, List.setIfInBounds_toArray, List.set_cons_zero, List.set_cons_succ]
      refine wpAnyH_ready (rs := [4]) (by kernel_rfl) (by simp) ?_
      refine AllReadyH.cons (o := { dst := some 14, op := .call { callee := .value (.func 34), args := #[.tmp 13], argTypes := #[43] }, type := 25, pos := "period.go:65", after := #[{ on := 3, ground := .data }, { on := 2, ground := .chain }], guard := none }) rfl (fun K hK => ?_) AllReadyH.nil
      go_simp
      refine (HC1.out _).mono ?_
      rintro e v21 ⟨rfl, rfl⟩
      go_wp2_with fail
      refine hK.out _ _ hS19 (fun _ => ?_)
      clear hK K
      try simp only [Act.put, List.setIfInBounds_toArray, List.set_cons_zero, List.set_cons_succ]
      refine wpAnyH_ready (rs := [5]) (by kernel_rfl) (by simp) ?_
      refine AllReadyH.cons (o := { dst := some 15, op := .buildSlice 59 2 #[(0, .tmp 12), (1, .tmp 14)], type := 59, pos := "period.go:65", after := #[{ on := 2, ground := .data }, { on := 4, ground := .data }], guard := none }) rfl (fun K hK => ?_) AllReadyH.nil
      go_simp
      have hS22 := KEEP.out _ _ hS19 ((Bel.refl v19).alloc (.cells #[.int .i64 c0, .int .i64 c1] 25))
      refine hK.out _ _ hS22 (fun _ => ?_)
      clear hK K
      try simp only [Act.put, List.setIfInBounds_toArray, List.set_cons_zero, List.set_cons_succ]
      have L22 := lit2 v19 c0 c1 25
      obtain ⟨b, hb⟩ : ∃ b, v19.heap.size = b := ⟨_, rfl⟩
      obtain ⟨v22, hv⟩ : ∃ v, v19.alloc (.cells #[.int .i64 c0, .int .i64 c1] 25) = v := ⟨_, rfl⟩
      rw [hv] at hS22 L22 ⊢
      rw [hb] at L22 ⊢
      have G22 := G19.bel (show Bel v19 v22 by rw [← hv]; exact (Bel.refl _).alloc _)
      clear hb hv
      refine wpAnyH_ready (rs := [6]) (by kernel_rfl) (by simp) ?_
      refine AllReadyH.cons (o := { dst := some 16, op := .call { callee := .value (.func 33), args := #[.tmp 10, .tmp 15], argTypes := #[24, 59] }, type := 41, pos := "period.go:65", after := #[{ on := 0, ground := .data }, { on := 5, ground := .data }, { on := 4, ground := .chain }], guard := none }) rfl (fun K hK => ?_) AllReadyH.nil
      go_simp
      refine (CK.out _ _ L22).mono ?_
      rintro e v23 ⟨rfl, k23⟩
      go_wp2_with fail
      have hS23 := KEEP.out _ _ hS22 k23
      refine hK.out _ _ hS23 (fun _ => ?_)
      clear hK K
      try simp only [Act.put, List.setIfInBounds_toArray, List.set_cons_zero, List.set_cons_succ]
      have G23 := G22.bel k23
      clear k23
      refine wpAnyH_take (i := 7) (oi := { dst := some 9, op := .move (.tmp 16), type := 41, pos := "period.go:65", after := #[{ on := 6, ground := .data }], guard := none }) (v := .tuple #[.agg Y.toArray, .int .i64 q]) rfl (by kernel_rfl) (by kernel_rfl) (by kernel_rfl) (fun _ _ _ h => h) (Or.inl ⟨by rfl, by intro w hSw; clear hSw; go_simp⟩) hS23 ?_
      try simp only [Act.put, List.setIfInBounds_toArray, List.set_cons_zero, List.set_cons_succ]
      refine wpAnyH_take (i := 8) (oi := { dst := some 17, op := .extract (.tmp 9) 0, type := 40, pos := "period.go:65", after := #[{ on := 7, ground := .data }], guard := none }) (v := .agg Y.toArray) rfl (by kernel_rfl) (by kernel_rfl) (by kernel_rfl) (fun _ _ _ h => h) (Or.inl ⟨by rfl, by intro w hSw; clear hSw; go_simp⟩) hS23 ?_
      try simp only [Act.put, List.setIfInBounds_toArray, List.set_cons_zero, List.set_cons_succ]
      refine wpAnyH_take (i := 9) (oi := { dst := some 18, op := .extract (.tmp 9) 1, type := 25, pos := "period.go:65", after := #[{ on := 7, ground := .data }, { on := 11, ground := .gcOnly .lateStores }], guard := none }) (v := .int .i64 q) rfl (by kernel_rfl) (by kernel_rfl) (by kernel_rfl) (fun _ _ _ h => h) (Or.inl ⟨by rfl, by intro w hSw; clear hSw; go_simp⟩) hS23 ?_
      try simp only [Act.put, List.setIfInBounds_toArray, List.set_cons_zero, List.set_cons_succ]
      refine wpAnyH_ready (rs := [11]) (by kernel_rfl) (by simp) ?_
      refine AllReadyH.cons (o := { dst := none, op := .store 40 (.tmp 7) (.tmp 17), type := 0, pos := "period.go:65", after := #[{ on := 10, ground := .data }, { on := 8, ground := .data }, { on := 6, ground := .chain }, { on := 0, ground := .phase }, { on := 1, ground := .phase }, { on := 2, ground := .phase }, { on := 3, ground := .phase }, { on := 4, ground := .phase }, { on := 5, ground := .phase }, { on := 6, ground := .phase }, { on := 7, ground := .phase }, { on := 8, ground := .phase }, { on := 9, ground := .textOnly .lateStores }, { on := 10, ground := .phase }], guard := none }) rfl (fun K hK => ?_) AllReadyH.nil
      rw [if_pos (by rfl)]
      refine wp_store_mid 40 (.tmp 7) (.tmp 17) rfl g 0 Y.toArray rfl rfl (put11 _ Y YL.out rfl G23).1 (by rw [List.size_toArray, YL.out]; exact info_chd) YO.out ?_
      refine hK.out _ _ (put_S hS23.1 hS23.2 hg0 YL.out G23) (fun hS24 => ?_)
      have E24 := put_E hS23.1 hS23.2 hg0 YL.out G23
      clear hK K
      try simp only [Act.put]
      refine wpAnyH_take (i := 12) (oi := { dst := some 8, op := .assign (.tmp 18), type := 25, pos := "period.go:65", after := #[{ on := 9, ground := .data }, { on := 11, ground := .chain }, { on := 0, ground := .phase }, { on := 1, ground := .phase }, { on := 2, ground := .phase }, { on := 3, ground := .phase }, { on := 4, ground := .phase }, { on := 5, ground := .phase }, { on := 6, ground := .phase }, { on := 7, ground := .phase }, { on := 8, ground := .phase }, { on := 9, ground := .phase }, { on := 10, ground := .phase }, { on := 11, ground := .phase }], guard := none }) (v := .int .i64 q) rfl (by kernel_rfl) (by kernel_rfl) (by kernel_rfl) (fun _ _ _ h => h) (Or.inl ⟨by rfl, by intro w hSw; clear hSw; go_simp⟩) hS24 ?_
      try simp only [Act.put, List.setIfInBounds_toArray, List.set_cons_zero, List.set_cons_succ]
      refine wpAnyH_done (by kernel_rfl) ?_ _
      go_wp2_with fail
      go_meet
      exact ⟨g, rfl, rfl, E24⟩
  case rest =>
    obtain ⟨g, rfl, rfl, hS⟩ := hcut
    clear KEEP CK HC0 HC1
    have uC := Try.underlying40
    have iC := Lib.hid (show (Try.prog.info? 40).map (·.size) = some Y.length by rw [YL.out]; exact info_chd)
    by_cases h0 : q = 0
    · subst h0
      obtain ⟨hc, h1, h2, h3, h4⟩ := e2_zero HQ.out
      have HFt := Lib.hid (fit_of HX.out hc)
      have hY := HY.out
      rw [yz_zero] at hY
      have RG := Lib.hid (show wc.rangeAt g 0 (recC x) by rw [hY]; exact hS.out.2.1)
      have SI := Lib.hid (fun (n : Nat) => (since h c (wc.drewN n) h3 h4 h1 h2).mono fun e w' (k : _ ∧ _) => (⟨k.1, k.2.symm⟩ : _ ∧ _))
      clear hc hY
      have c1 := rec_cell RG.out 1 (by omega)
      rw [show kd 1 = .i64 from rfl] at c1
      obtain ⟨m, hm⟩ : ∃ m, x 1 = m := ⟨_, rfl⟩
      rw [hm] at c1
      by_cases hch : c > h
      · have HV := Lib.hid (show agN x c h = 17 by unfold agN; rw [HQ.out, if_pos rfl, if_pos hch])
        clear hm
        go_wp2_with fail
        go_ret
        exact ⟨by rw [HV.out]; rfl, B0.out.trans hS.out.2.2⟩
      · by_cases hm2 : h - c > m
        · have HV := Lib.hid (show agN x c h = 16 by unfold agN; rw [HQ.out, if_pos rfl, if_neg hch, hm, if_pos hm2])
          clear hm
          go_upto_region 6 with fail
          go_quiet ((go_at_call 38; exact Calls.quiet_of_same (SI.out _)))
          go_wp2_with fail
          go_ret
          exact ⟨by rw [HV.out]; rfl, B0.out.trans (hS.out.2.2.drewN _)⟩
        · have HV := Lib.hid (show agN x c h = 0 by unfold agN; rw [HQ.out, if_pos rfl, if_neg hch, hm, if_neg hm2])
          clear hm
          go_upto_region 6 with fail
          go_quiet ((go_at_call 38; exact Calls.quiet_of_same (SI.out _)))
          go_wp2_with fail
          go_ret
          exact ⟨by rw [HV.out]; rfl, B0.out.trans (hS.out.2.2.drewN _)⟩
    · have hb : (q == 0) = false := by simpa using h0
      have hb2 : (q != 0) = true := by simpa using h0
      have HV := Lib.hid (show agN x c h = q by unfold agN; rw [HQ.out, if_neg h0])
      go_wp2_with fail
      go_ret
      exact ⟨by rw [HV.out]; rfl, B0.out.trans hS.out.2.2⟩
end Pd
end Go.Proofs.Ytlhahjpjlahdiaa
end

section
/-
  What period.ends answer. Conditions: the eleven numbers are of their kinds.
-/
namespace Go.Proofs.Ytlhahjpjlahdiaa
open Go.RowKit Go.Shelf
set_option linter.unusedVariables false
namespace Pd
open Kk Pm

set_option maxRecDepth 100000 in
set_option maxHeartbeats 4000000 in
theorem endsC (x : Nat → Int) (hx : Kinds x) (e : Int) (w : World) :
    Calls Try.prog 37 #[.agg (recC x).toArray, .int .i64 e] w fun r w' => r = .returned (.tuple #[.int .i64 (fiN x e), .int .i64 (laN x e), .int .i64 (eF x e)]) ∧ Bel w w' := by
  obtain ⟨D, hD⟩ : ∃ D, D = recC x := ⟨_, rfl⟩
  obtain ⟨W0, hW0⟩ : ∃ W0, w.alloc (.cells D.toArray 24) = W0 := ⟨_, rfl⟩
  have B0 := Lib.hid (show Bel w W0 by rw [← hW0]; exact (Bel.refl w).alloc _)
  have R0 := Lib.hid (show W0.rangeAt w.heap.size 0 D by rw [← hW0]; exact rngB (Blk.new w D.toArray 24))
  obtain ⟨p, hp⟩ : ∃ p, w.heap.size = p := ⟨_, rfl⟩
  have hp1 := Lib.hid (show p < W0.heap.size by rw [← hW0, ← hp, World.size_alloc]; omega)
  rw [hp] at R0
  have hDl : D.length = 11 := by rw [hD]; rfl
  obtain ⟨c0, hc0⟩ : ∃ k_, we e = k_ := ⟨_, rfl⟩
  obtain ⟨q, hq⟩ : ∃ q, er x [c0] = q := ⟨_, rfl⟩
  obtain ⟨Y, hY⟩ : ∃ Y, recC (yz x q) = Y := ⟨_, rfl⟩
  have HC0 := Lib.hid (show ∀ V, Calls Try.prog 43 #[.int .i64 e, .int .i64 0, .int .i64 4294967296] V fun e w' => e = .returned (.int .i64 c0) ∧ V = w' from fun V => by rw [← hc0]; exact within e 0 4294967296 V)
  have CK := Lib.hid (fun (V : World) (g : Nat) (hi : Ints .i64 V (some ⟨g, 0, none⟩) 1 [c0]) => check_ x hx (some ⟨g, 0, none⟩) 1 1 [c0] V (by omega) hi)
  rw [hq, hY, ← hD] at CK
  rw [← hD]
  have iD : (Try.prog.info? 24).map (·.size) = some D.length := by rw [hDl]; exact info_rec
  have uD := Try.underlying24
  have YL := Lib.hid (show Y.length = 11 by rw [← hY]; rfl)
  have YO := Lib.hid (all_oneCell_toArray (cs := Y) (by rw [← hY]; exact recC_cells _))
  have HDl := Lib.hid hDl
  have HX := Lib.hid hx
  have HP := Lib.hid hp
  have HW0 := Lib.hid hW0
  have HQ := Lib.hid (show er x [we e] = q by rw [← hq, ← hc0])
  have HY := Lib.hid hY
  have HD := Lib.hid hD
  clear hx hp hD hW0 hq hY hDl hc0
  go_enter Try.func37, Try.ntmps37
  go_upto_region 1 with fail
  rw [HW0.out, HP.out]
  have KEEP := Lib.hid (show ∀ V V' : World, (V.rangeAt p 0 D ∧ Bel W0 V) → Bel V V' → (V'.rangeAt p 0 D ∧ Bel W0 V') from fun V V' h hb => ⟨rng_bel h.1 hb, h.2.trans hb⟩)
  go_cut [6, 7] (fun s6 s7 wx => ∃ g : Nat, s7 = .pointer (some ⟨g, 0, none⟩) ∧ s6 = .int .i64 q ∧ Hid (wx.rangeAt p 0 D ∧ wx.rangeAt g 0 Y ∧ Bel W0 wx))
  case first =>
    refine wp_region_held_drew (S := fun V => V.rangeAt p 0 D ∧ Bel W0 V) (by kernel_rfl) ⟨rng_bel R0.out (Bel.refl W0).drew, (Bel.refl W0).drew⟩ (fun hS0 => ?_)
    obtain ⟨w6, hw6⟩ : ∃ w6, W0.drew = w6 := ⟨_, rfl⟩
    rw [hw6] at hS0 ⊢
    clear hw6
    have hp1 := hp1.out
    refine wpAnyH_take (i := 0) (oi := { dst := some 9, op := .load 24 (.tmp 2), type := 24, pos := "height.go:19", after := #[], guard := none }) (v := .agg D.toArray) rfl (by kernel_rfl) (by kernel_rfl) (by kernel_rfl) (fun _ _ _ h => h) (yieldsIf_load_mid (by rfl) _ _ rfl _ _ rfl _ _ (fun w h => h.1) uD rfl iD) hS0 ?_
    try simp only [Act.put, List.setIfInBounds_toArray, List.set_cons_zero, List.set_cons_succ]
    refine wpAnyH_take (i := 1) (oi := { dst := some 10, op := .move (.tmp 1), type := 3, pos := "height.go:19", after := #[], guard := none }) (v := .int .i64 e) rfl (by kernel_rfl) (by kernel_rfl) (by kernel_rfl) (fun _ _ _ h => h) (Or.inl ⟨by rfl, by intro w hSw; clear hSw; go_simp⟩) hS0 ?_
    try simp only [Act.put, List.setIfInBounds_toArray, List.set_cons_zero, List.set_cons_succ]
    refine wpAnyH_ready (rs := [2, 8]) (by kernel_rfl) (by simp) ?_
    refine AllReadyH.cons (o := { dst := some 11, op := .call { callee := .value (.func 43), args := #[.tmp 10, .const (Value.int IntKind.i64 0), .const (Value.int IntKind.i64 4294967296)], argTypes := #[3, 3, 3] }, type := 25, pos := "height.go:19", after := #[{ on := 1, ground := .data }], guard := none }) rfl (fun K hK => ?_) (AllReadyH.cons (o := { dst := some 7, op := .alloc 40, type := 0, pos := "height.go:19", after := #[], guard := none }) rfl (fun K hK => ?_) AllReadyH.nil)
    · go_simp
      refine (HC0.out _).mono ?_
      rintro e v1 ⟨rfl, rfl⟩
      go_wp2_with fail
      refine hK.out _ _ hS0 (fun _ => ?_)
      clear hK K
      try simp only [Act.put, List.setIfInBounds_toArray, List.set_cons_zero, List.set_cons_succ]
      refine wpAnyH_ready (rs := [3, 8]) (by kernel_rfl) (by simp) ?_
      refine AllReadyH.cons (o := { dst := some 12, op := .buildSlice 59 1 #[(0, .tmp 11)], type := 59, pos := "height.go:19", after := #[{ on := 2, ground := .data }], guard := none }) rfl (fun K hK => ?_) (AllReadyH.cons (o := { dst := some 7, op := .alloc 40, type := 0, pos := "height.go:19", after := #[], guard := none }) rfl (fun K hK => ?_) AllReadyH.nil)
      · go_simp
        have hS2 := KEEP.out _ _ hS0 ((Bel.refl w6).alloc (.cells #[.int .i64 c0] 25))
        refine hK.out _ _ hS2 (fun _ => ?_)
        clear hK K
        try simp only [Act.put, List.setIfInBounds_toArray, List.set_cons_zero, List.set_cons_succ]
        have L2 := lit1 w6 c0
        obtain ⟨b, hb⟩ : ∃ b, w6.heap.size = b := ⟨_, rfl⟩
        obtain ⟨v2, hv⟩ : ∃ v, w6.alloc (.cells #[.int .i64 c0] 25) = v := ⟨_, rfl⟩
        rw [hv] at hS2 L2 ⊢
        rw [hb] at L2 ⊢
        clear hb hv
        refine wpAnyH_ready (rs := [4, 8]) (by kernel_rfl) (by simp) ?_
        refine AllReadyH.cons (o := { dst := some 13, op := .call { callee := .value (.func 33), args := #[.tmp 9, .tmp 12], argTypes := #[24, 59] }, type := 41, pos := "height.go:19", after := #[{ on := 0, ground := .data }, { on := 3, ground := .data }, { on := 2, ground := .chain }], guard := none }) rfl (fun K hK => ?_) (AllReadyH.cons (o := { dst := some 7, op := .alloc 40, type := 0, pos := "height.go:19", after := #[], guard := none }) rfl (fun K hK => ?_) AllReadyH.nil)
        · go_simp
          refine (CK.out _ _ L2).mono ?_
          rintro e v3 ⟨rfl, k3⟩
          go_wp2_with fail
          have hS3 := KEEP.out _ _ hS2 k3
          refine hK.out _ _ hS3 (fun _ => ?_)
          clear hK K
          try simp only [Act.put, List.setIfInBounds_toArray, List.set_cons_zero, List.set_cons_succ]
          clear k3
          refine wpAnyH_take (i := 5) (oi := { dst := some 8, op := .move (.tmp 13), type := 41, pos := "height.go:19", after := #[{ on := 4, ground := .data }], guard := none }) (v := .tuple #[.agg Y.toArray, .int .i64 q]) rfl (by kernel_rfl) (by kernel_rfl) (by kernel_rfl) (fun _ _ _ h => h) (Or.inl ⟨by rfl, by intro w hSw; clear hSw; go_simp⟩) hS3 ?_
          try simp only [Act.put, List.setIfInBounds_toArray, List.set_cons_zero, List.set_cons_succ]
          refine wpAnyH_take (i := 6) (oi := { dst := some 14, op := .extract (.tmp 8) 0, type := 40, pos := "height.go:19", after := #[{ on := 5, ground := .data }], guard := none }) (v := .agg Y.toArray) rfl (by kernel_rfl) (by kernel_rfl) (by kernel_rfl) (fun _ _ _ h => h) (Or.inl ⟨by rfl, by intro w hSw; clear hSw; go_simp⟩) hS3 ?_
          try simp only [Act.put, List.setIfInBounds_toArray, List.set_cons_zero, List.set_cons_succ]
          refine wpAnyH_take (i := 7) (oi := { dst := some 15, op := .extract (.tmp 8) 1, type := 25, pos := "height.go:19", after := #[{ on := 5, ground := .data }, { on := 9, ground := .gcOnly .lateStores }], guard := none }) (v := .int .i64 q) rfl (by kernel_rfl) (by kernel_rfl) (by kernel_rfl) (fun _ _ _ h => h) (Or.inl ⟨by rfl, by intro w hSw; clear hSw; go_simp⟩) hS3 ?_
          try simp only [Act.put, List.setIfInBounds_toArray, List.set_cons_zero, List.set_cons_succ]
          refine wpAnyH_ready (rs := [8]) (by kernel_rfl) (by simp) ?_
          refine AllReadyH.cons (o := { dst := some 7, op := .alloc 40, type := 0, pos := "height.go:19", after := #[], guard := none }) rfl (fun K hK => ?_) AllReadyH.nil
          go_simp
          have hS4 := KEEP.out _ _ hS3 ((Bel.refl v3).alloc (.cells #[.int .i64 0, .int .i64 0, .int .i64 0, .int .i64 0, .int .i64 0, .int .i64 0, .int .i64 0, .int .u64 0, .int .u64 0, .int .i64 0, .int .u64 0] 40))
          refine hK.out _ _ hS4 (fun _ => ?_)
          clear hK K
          try simp only [Act.put, List.setIfInBounds_toArray, List.set_cons_zero, List.set_cons_succ]
          have G4 : Blk (v3.alloc (.cells #[.int .i64 0, .int .i64 0, .int .i64 0, .int .i64 0, .int .i64 0, .int .i64 0, .int .i64 0, .int .u64 0, .int .u64 0, .int .i64 0, .int .u64 0] 40)) v3.heap.size (recC fun _ => 0).toArray 40 := Blk.new v3 _ _
          have hg0 := Below.size hS3.2
          obtain ⟨g, hg⟩ : ∃ g, v3.heap.size = g := ⟨_, rfl⟩
          obtain ⟨v4, hv⟩ : ∃ v, v3.alloc (.cells #[.int .i64 0, .int .i64 0, .int .i64 0, .int .i64 0, .int .i64 0, .int .i64 0, .int .i64 0, .int .u64 0, .int .u64 0, .int .i64 0, .int .u64 0] 40) = v := ⟨_, rfl⟩
          rw [hv] at hS4 G4 ⊢
          rw [hg] at G4 hg0 ⊢
          clear hg hv
          refine wpAnyH_ready (rs := [9]) (by kernel_rfl) (by simp) ?_
          refine AllReadyH.cons (o := { dst := none, op := .store 40 (.tmp 7) (.tmp 14), type := 0, pos := "height.go:19", after := #[{ on := 8, ground := .data }, { on := 6, ground := .data }, { on := 4, ground := .chain }, { on := 0, ground := .phase }, { on := 1, ground := .phase }, { on := 2, ground := .phase }, { on := 3, ground := .phase }, { on := 4, ground := .phase }, { on := 5, ground := .phase }, { on := 6, ground := .phase }, { on := 7, ground := .textOnly .lateStores }, { on := 8, ground := .phase }], guard := none }) rfl (fun K hK => ?_) AllReadyH.nil
          rw [if_pos (by rfl)]
          refine wp_store_mid 40 (.tmp 7) (.tmp 14) rfl g 0 Y.toArray rfl rfl (put11 _ Y YL.out rfl G4).1 (by rw [List.size_toArray, YL.out]; exact info_chd) YO.out ?_
          refine hK.out _ _ (put_S hS4.1 hS4.2 hg0 YL.out G4) (fun hS5 => ?_)
          have E5 := put_E hS4.1 hS4.2 hg0 YL.out G4
          clear hK K
          try simp only [Act.put]
          refine wpAnyH_take (i := 10) (oi := { dst := some 6, op := .assign (.tmp 15), type := 25, pos := "height.go:19", after := #[{ on := 7, ground := .data }, { on := 9, ground := .chain }, { on := 0, ground := .phase }, { on := 1, ground := .phase }, { on := 2, ground := .phase }, { on := 3, ground := .phase }, { on := 4, ground := .phase }, { on := 5, ground := .phase }, { on := 6, ground := .phase }, { on := 7, ground := .phase }, { on := 8, ground := .phase }, { on := 9, ground := .phase }], guard := none }) (v := .int .i64 q) rfl (by kernel_rfl) (by kernel_rfl) (by kernel_rfl) (fun _ _ _ h => h) (Or.inl ⟨by rfl, by intro w hSw; clear hSw; go_simp⟩) hS5 ?_
          try simp only [Act.put, List.setIfInBounds_toArray, List.set_cons_zero, List.set_cons_succ]
          refine wpAnyH_done (by kernel_rfl) ?_ _
          go_wp2_with fail
          go_meet
          exact ⟨g, rfl, rfl, E5⟩
        · go_simp
          have hS6 := KEEP.out _ _ hS2 ((Bel.refl v2).alloc (.cells #[.int .i64 0, .int .i64 0, .int .i64 0, .int .i64 0, .int .i64 0, .int .i64 0, .int .i64 0, .int .u64 0, .int .u64 0, .int .i64 0, .int .u64 0] 40))
          refine hK.out _ _ hS6 (fun _ => ?_)
          clear hK K
          try simp only [Act.put, List.setIfInBounds_toArray, List.set_cons_zero, List.set_cons_succ]
          have G6 : Blk (v2.alloc (.cells #[.int .i64 0, .int .i64 0, .int .i64 0, .int .i64 0, .int .i64 0, .int .i64 0, .int .i64 0, .int .u64 0, .int .u64 0, .int .i64 0, .int .u64 0] 40)) v2.heap.size (recC fun _ => 0).toArray 40 := Blk.new v2 _ _
          have hg0 := Below.size hS2.2
          obtain ⟨g, hg⟩ : ∃ g, v2.heap.size = g := ⟨_, rfl⟩
          obtain ⟨v6, hv⟩ : ∃ v, v2.alloc (.cells #[.int .i64 0, .int .i64 0, .int .i64 0, .int .i64 0, .int .i64 0, .int .i64 0, .int .i64 0, .int .u64 0, .int .u64 0, .int .i64 0, .int .u64 0] 40) = v := ⟨_, rfl⟩
          rw [hv] at hS6 G6 ⊢
          rw [hg] at G6 hg0 ⊢
          have L6 := L2.bel (show Bel v2 v6 by rw [← hv]; exact (Bel.refl _).alloc _)
          clear hg hv
          refine wpAnyH_ready (rs := [4]) (by kernel_rfl) (by simp) ?_
          refine AllReadyH.cons (o := { dst := some 13, op := .call { callee := .value (.func 33), args := #[.tmp 9, .tmp 12], argTypes := #[24, 59] }, type := 41, pos := "height.go:19", after := #[{ on := 0, ground := .data }, { on := 3, ground := .data }, { on := 2, ground := .chain }], guard := none }) rfl (fun K hK => ?_) AllReadyH.nil
          go_simp
          refine (CK.out _ _ L6).mono ?_
          rintro e v7 ⟨rfl, k7⟩
          go_wp2_with fail
          have hS7 := KEEP.out _ _ hS6 k7
          refine hK.out _ _ hS7 (fun _ => ?_)
          clear hK K
          try simp only [Act.put, List.setIfInBounds_toArray, List.set_cons_zero, List.set_cons_succ]
          have G7 := G6.bel k7
          clear k7
          refine wpAnyH_take (i := 5) (oi := { dst := some 8, op := .move (.tmp 13), type := 41, pos := "height.go:19", after := #[{ on := 4, ground := .data }], guard := none }) (v := .tuple #[.agg Y.toArray, .int .i64 q]) rfl (by kernel_rfl) (by kernel_rfl) (by kernel_rfl) (fun _ _ _ h => h) (Or.inl ⟨by rfl, by intro w hSw; clear hSw; go_simp⟩) hS7 ?_
          try simp only [Act.put, List.setIfInBounds_toArray, List.set_cons_zero, List.set_cons_succ]
          refine wpAnyH_take (i := 6) (oi := { dst := some 14, op := .extract (.tmp 8) 0, type := 40, pos := "height.go:19", after := #[{ on := 5, ground := .data }], guard := none }) (v := .agg Y.toArray) rfl (by kernel_rfl) (by kernel_rfl) (by kernel_rfl) (fun _ _ _ h => h) (Or.inl ⟨by rfl, by intro w hSw; clear hSw; go_simp⟩) hS7 ?_
          try simp only [Act.put, List.setIfInBounds_toArray, List.set_cons_zero, List.set_cons_succ]
          refine wpAnyH_take (i := 7) (oi := { dst := some 15, op := .extract (.tmp 8) 1, type := 25, pos := "height.go:19", after := #[{ on := 5, ground := .data }, { on := 9, ground := .gcOnly .lateStores }], guard := none }) (v := .int .i64 q) rfl (by kernel_rfl) (by kernel_rfl) (by kernel_rfl) (fun _ _ _ h => h) (Or.inl ⟨by rfl, by intro w hSw; clear hSw; go_simp⟩) hS7 ?_
          try simp only [Act.put, List.setIfInBounds_toArray, List.set_cons_zero, List.set_cons_succ]
          refine wpAnyH_ready (rs := [9]) (by kernel_rfl) (by simp) ?_
          refine AllReadyH.cons (o := { dst := none, op := .store 40 (.tmp 7) (.tmp 14), type := 0, pos := "height.go:19", after := #[{ on := 8, ground := .data }, { on := 6, ground := .data }, { on := 4, ground := .chain }, { on := 0, ground := .phase }, { on := 1, ground := .phase }, { on := 2, ground := .phase }, { on := 3, ground := .phase }, { on := 4, ground := .phase }, { on := 5, ground := .phase }, { on := 6, ground := .phase }, { on := 7, ground := .textOnly .lateStores }, { on := 8, ground := .phase }], guard := none }) rfl (fun K hK => ?_) AllReadyH.nil
          rw [if_pos (by rfl)]
          refine wp_store_mid 40 (.tmp 7) (.tmp 14) rfl g 0 Y.toArray rfl rfl (put11 _ Y YL.out rfl G7).1 (by rw [List.size_toArray, YL.out]; exact info_chd) YO.out ?_
          refine hK.out _ _ (put_S hS7.1 hS7.2 hg0 YL.out G7) (fun hS8 => ?_)
          have E8 := put_E hS7.1 hS7.2 hg0 YL.out G7
          clear hK K
          try simp only [Act.put]
          refine wpAnyH_take (i := 10) (oi := { dst := some 6, op := .assign (.tmp 15), type := 25, pos := "height.go:19", after := #[{ on := 7, ground := .data }, { on := 9, ground := .chain }, { on := 0, ground := .phase }, { on := 1, ground := .phase }, { on := 2, ground := .phase }, { on := 3, ground := .phase }, { on := 4, ground := .phase }, { on := 5, ground := .phase }, { on := 6, ground := .phase }, { on := 7, ground := .phase }, { on := 8, ground := .phase }, { on := 9, ground := .phase }], guard := none }) (v := .int .i64 q) rfl (by kernel_rfl) (by kernel_rfl) (by kernel_rfl) (fun _ _ _ h => h) (Or.inl ⟨by rfl, by intro w hSw; clear hSw; go_simp⟩) hS8 ?_
          try simp only [Act.put, List.setIfInBounds_toArray, List.set_cons_zero, List.set_cons_succ]
          refine wpAnyH_done (by kernel_rfl) ?_ _
          go_wp2_with fail
          go_meet
          exact ⟨g, rfl, rfl, E8⟩
      · go_simp
        have hS9 := KEEP.out _ _ hS0 ((Bel.refl w6).alloc (.cells #[.int .i64 0, .int .i64 0, .int .i64 0, .int .i64 0, .int .i64 0, .int .i64 0, .int .i64 0, .int .u64 0, .int .u64 0, .int .i64 0, .int .u64 0] 40))
        refine hK.out _ _ hS9 (fun _ => ?_)
        clear hK K
        try simp only [Act.put, List.setIfInBounds_toArray, List.set_cons_zero, List.set_cons_succ]
        have G9 : Blk (w6.alloc (.cells #[.int .i64 0, .int .i64 0, .int .i64 0, .int .i64 0, .int .i64 0, .int .i64 0, .int .i64 0, .int .u64 0, .int .u64 0, .int .i64 0, .int .u64 0] 40)) w6.heap.size (recC fun _ => 0).toArray 40 := Blk.new w6 _ _
        have hg0 := Below.size hS0.2
        obtain ⟨g, hg⟩ : ∃ g, w6.heap.size = g := ⟨_, rfl⟩
        obtain ⟨v9, hv⟩ : ∃ v, w6.alloc (.cells #[.int .i64 0, .int .i64 0, .int .i64 0, .int .i64 0, .int .i64 0, .int .i64 0, .int .i64 0, .int .u64 0, .int .u64 0, .int .i64 0, .int .u64 0] 40) = v := ⟨_, rfl⟩
        rw [hv] at hS9 G9 ⊢
        rw [hg] at G9 hg0 ⊢
        clear hg hv
        refine wpAnyH_ready (rs := [3]) (by kernel_rfl) (by simp) ?_
        refine AllReadyH.cons (o := { dst := some 12, op := .buildSlice 59 1 #[(0, .tmp 11)], type := 59, pos := "height.go:19", after := #[{ on := 2, ground := .data }], guard := none }) rfl (fun K hK => ?_) AllReadyH.nil
        go_simp
        have hS10 := KEEP.out _ _ hS9 ((Bel.refl v9).alloc (.cells #[.int .i64 c0] 25))
        refine hK.out _ _ hS10 (fun _ => ?_)
        clear hK K
        try simp only [Act.put, List.setIfInBounds_toArray, List.set_cons_zero, List.set_cons_succ]
        have L10 := lit1 v9 c0
        obtain ⟨b, hb⟩ : ∃ b, v9.heap.size = b := ⟨_, rfl⟩
        obtain ⟨v10, hv⟩ : ∃ v, v9.alloc (.cells #[.int .i64 c0] 25) = v := ⟨_, rfl⟩
        rw [hv] at hS10 L10 ⊢
        rw [hb] at L10 ⊢
        have G10 := G9.bel (show Bel v9 v10 by rw [← hv]; exact (Bel.refl _).alloc _)
        clear hb hv
        refine wpAnyH_ready (rs := [4]) (by kernel_rfl) (by simp) ?_
        refine AllReadyH.cons (o := { dst := some 13, op := .call { callee := .value (.func 33), args := #[.tmp 9, .tmp 12], argTypes := #[24, 59] }, type := 41, pos := "height.go:19", after := #[{ on := 0, ground := .data }, { on := 3, ground := .data }, { on := 2, ground := .chain }], guard := none }) rfl (fun K hK => ?_) AllReadyH.nil
        go_simp
        refine (CK.out _ _ L10).mono ?_
        rintro e v11 ⟨rfl, k11⟩
        go_wp2_with fail
        have hS11 := KEEP.out _ _ hS10 k11
        refine hK.out _ _ hS11 (fun _ => ?_)
        clear hK K
        try simp only [Act.put, List.setIfInBounds_toArray, List.set_cons_zero, List.set_cons_succ]
        have G11 := G10.bel k11
        clear k11
        refine wpAnyH_take (i := 5) (oi := { dst := some 8, op := .move (.tmp 13), type := 41, pos := "height.go:19", after := #[{ on := 4, ground := .data }], guard := none }) (v := .tuple #[.agg Y.toArray, .int .i64 q]) rfl (by kernel_rfl) (by kernel_rfl) (by kernel_rfl) (fun _ _ _ h => h) (Or.inl ⟨by rfl, by intro w hSw; clear hSw; go_simp⟩) hS11 ?_
        try simp only [Act.put, List.setIfInBounds_toArray, List.set_cons_zero, List.set_cons_succ]
        refine wpAnyH_take (i := 6) (oi := { dst := some 14, op := .extract (.tmp 8) 0, type := 40, pos := "height.go:19", after := #[{ on := 5, ground := .data }], guard := none }) (v := .agg Y.toArray) rfl (by kernel_rfl) (by kernel_rfl) (by kernel_rfl) (fun _ _ _ h => h) (Or.inl ⟨by rfl, by intro w hSw; clear hSw; go_simp⟩) hS11 ?_
        try simp only [Act.put, List.setIfInBounds_toArray, List.set_cons_zero, List.set_cons_succ]
        refine wpAnyH_take (i := 7) (oi := { dst := some 15, op := .extract (.tmp 8) 1, type := 25, pos := "height.go:19", after := #[{ on := 5, ground := .data }, { on := 9, ground := .gcOnly .lateStores }], guard := none }) (v := .int .i64 q) rfl (by kernel_rfl) (by kernel_rfl) (by kernel_rfl) (fun _ _ _ h => h) (Or.inl ⟨by rfl, by intro w hSw; clear hSw; go_simp⟩) hS11 ?_
        try simp only [Act.put, List.setIfInBounds_toArray, List.set_cons_zero, List.set_cons_succ]
        refine wpAnyH_ready (rs := [9]) (by kernel_rfl) (by simp) ?_
        refine AllReadyH.cons (o := { dst := none, op := .store 40 (.tmp 7) (.tmp 14), type := 0, pos := "height.go:19", after := #[{ on := 8, ground := .data }, { on := 6, ground := .data }, { on := 4, ground := .chain }, { on := 0, ground := .phase }, { on := 1, ground := .phase }, { on := 2, ground := .phase }, { on := 3, ground := .phase }, { on := 4, ground := .phase }, { on := 5, ground := .phase }, { on := 6, ground := .phase }, { on := 7, ground := .textOnly .lateStores }, { on := 8, ground := .phase }], guard := none }) rfl (fun K hK => ?_) AllReadyH.nil
        rw [if_pos (by rfl)]
        refine wp_store_mid 40 (.tmp 7) (.tmp 14) rfl g 0 Y.toArray rfl rfl (put11 _ Y YL.out rfl G11).1 (by rw [List.size_toArray, YL.out]; exact info_chd) YO.out ?_
        refine hK.out _ _ (put_S hS11.1 hS11.2 hg0 YL.out G11) (fun hS12 => ?_)
        have E12 := put_E hS11.1 hS11.2 hg0 YL.out G11
        clear hK K
        try simp only [Act.put]
        refine wpAnyH_take (i := 10) (oi := { dst := some 6, op := .assign (.tmp 15), type := 25, pos := "height.go:19", after := #[{ on := 7, ground := .data }, { on := 9, ground := .chain }, { on := 0, ground := .phase }, { on := 1, ground := .phase }, { on := 2, ground := .phase }, { on := 3, ground := .phase }, { on := 4, ground := .phase }, { on := 5, ground := .phase }, { on := 6, ground := .phase }, { on := 7, ground := .phase }, { on := 8, ground := .phase }, { on := 9, ground := .phase }], guard := none }) (v := .int .i64 q) rfl (by kernel_rfl) (by kernel_rfl) (by kernel_rfl) (fun _ _ _ h => h) (Or.inl ⟨by rfl, by intro w hSw; clear hSw; go_simp⟩) hS12 ?_
        try simp only [Act.put, List.setIfInBounds_toArray, List.set_cons_zero, List.set_cons_succ]
        refine wpAnyH_done (by kernel_rfl) ?_ _
        go_wp2_with fail
        go_meet
        exact ⟨g, rfl, rfl, E12⟩
    · go_simp
      have hS13 := KEEP.out _ _ hS0 ((Bel.refl w6).alloc (.cells #[.int .i64 0, .int .i64 0, .int .i64 0, .int .i64 0, .int .i64 0, .int .i64 0, .int .i64 0, .int .u64 0, .int .u64 0, .int .i64 0, .int .u64 0] 40))
      refine hK.out _ _ hS13 (fun _ => ?_)
      clear hK K
      try simp only [Act.put, List.setIfInBounds_toArray, List.set_cons_zero, List.set_cons_succ]
      have G13 : Blk (w6.alloc (.cells #[.int .i64 0, .int .i64 0, .int .i64 0, .int .i64 0, .int .i64 0, .int .i64 0, .int .i64 0, .int .u64 0, .int .u64 0, .int .i64 0, .int .u64 0] 40)) w6.heap.size (recC fun _ => 0).toArray 40 := Blk.new w6 _ _
      have hg0 := Below.size hS0.2
      obtain ⟨g, hg⟩ : ∃ g, w6.heap.size = g := ⟨_, rfl⟩
      obtain ⟨v13, hv⟩ : ∃ v, w6.alloc (.cells #[.int .i64 0, .int .i64 0, .int .i64 0, .int .i64 0, .int .i64 0, .int .i64 0, .int .i64 0, .int .u64 0, .int .u64 0, .int .i64 0, .int .u64 0] 40) = v := ⟨_, rfl⟩
      rw [hv] at hS13 G13 ⊢
      rw [hg] at G13 hg0 ⊢
      clear hg hv
      refine wpAnyH_ready (rs := [2]) (by kernel_rfl) (by simp) ?_
      refine AllReadyH.cons (o := { dst := some 11, op := .call { callee := .value (.func 43), args := #[.tmp 10, .const (Value.int IntKind.i64 0), .const (Value.int IntKind.i64 4294967296)], argTypes := #[3, 3, 3] }, type := 25, pos := "height.go:19", after := #[{ on := 1, ground := .data }], guard := none }) rfl (fun K hK => ?_) AllReadyH.nil
      go_simp
      refine (HC0.out _).mono ?_
      rintro e v14 ⟨rfl, rfl⟩
      go_wp2_with fail
      refine hK.out _ _ hS13 (fun _ => ?_)
      clear hK K
      try simp only [Act.put, List.setIfInBounds_toArray, List.set_cons_zero, List.set_cons_succ]
      refine wpAnyH_ready (rs := [3]) (by kernel_rfl) (by simp) ?_
      refine AllReadyH.cons (o := { dst := some 12, op := .buildSlice 59 1 #[(0, .tmp 11)], type := 59, pos := "height.go:19", after := #[{ on := 2, ground := .data }], guard := none }) rfl (fun K hK => ?_) AllReadyH.nil
      go_simp
      have hS15 := KEEP.out _ _ hS13 ((Bel.refl v13).alloc (.cells #[.int .i64 c0] 25))
      refine hK.out _ _ hS15 (fun _ => ?_)
      clear hK K
      try simp only [Act.put, List.setIfInBounds_toArray, List.set_cons_zero, List.set_cons_succ]
      have L15 := lit1 v13 c0
      obtain ⟨b, hb⟩ : ∃ b, v13.heap.size = b := ⟨_, rfl⟩
      obtain ⟨v15, hv⟩ : ∃ v, v13.alloc (.cells #[.int .i64 c0] 25) = v := ⟨_, rfl⟩
      rw [hv] at hS15 L15 ⊢
      rw [hb] at L15 ⊢
      have G15 := G13.bel (show Bel v13 v15 by rw [← hv]; exact (Bel.refl _).alloc _)
      clear hb hv
      refine wpAnyH_ready (rs := [4]) (by kernel_rfl) (by simp) ?_
      refine AllReadyH.cons (o := { dst := some 13, op := .call { callee := .value (.func 33), args := #[.tmp 9, .tmp 12], argTypes := #[24, 59] }, type := 41, pos := "height.go:19", after := #[{ on := 0, ground := .data }, { on := 3, ground := .data }, { on := 2, ground := .chain }], guard := none }) rfl (fun K hK => ?_) AllReadyH.nil
      go_simp
      refine (CK.out _ _ L15).mono ?_
      rintro e v16 ⟨rfl, k16⟩
      go_wp2_with fail
      have hS16 := KEEP.out _ _ hS15 k16
      refine hK.out _ _ hS16 (fun _ => ?_)
      clear hK K
      try simp only [Act.put, List.setIfInBounds_toArray, List.set_cons_zero, List.set_cons_succ]
      have G16 := G15.bel k16
      clear k16
      refine wpAnyH_take (i := 5) (oi := { dst := some 8, op := .move (.tmp 13), type := 41, pos := "height.go:19", after := #[{ on := 4, ground := .data }], guard := none }) (v := .tuple #[.agg Y.toArray, .int .i64 q]) rfl (by kernel_rfl) (by kernel_rfl) (by kernel_rfl) (fun _ _ _ h => h) (Or.inl ⟨by rfl, by intro w hSw; clear hSw; go_simp⟩) hS16 ?_
      try simp only [Act.put, List.setIfInBounds_toArray, List.set_cons_zero, List.set_cons_succ]
      refine wpAnyH_take (i := 6) (oi := { dst := some 14, op := .extract (.tmp 8) 0, type := 40, pos := "height.go:19", after := #[{ on := 5, ground := .data }], guard := none }) (v := .agg Y.toArray) rfl (by kernel_rfl) (by kernel_rfl) (by kernel_rfl) (fun _ _ _ h => h) (Or.inl ⟨by rfl, by intro w hSw; clear hSw; go_simp⟩) hS16 ?_
      try simp only [Act.put, List.setIfInBounds_toArray, List.set_cons_zero, List.set_cons_succ]
      refine wpAnyH_take (i := 7) (oi := { dst := some 15, op := .extract (.tmp 8) 1, type := 25, pos := "height.go:19", after := #[{ on := 5, ground := .data }, { on := 9, ground := .gcOnly .lateStores }], guard := none }) (v := .int .i64 q) rfl (by kernel_rfl) (by kernel_rfl) (by kernel_rfl) (fun _ _ _ h => h) (Or.inl ⟨by rfl, by intro w hSw; clear hSw; go_simp⟩) hS16 ?_
      try simp only [Act.put, List.setIfInBounds_toArray, List.set_cons_zero, List.set_cons_succ]
      refine wpAnyH_ready (rs := [9]) (by kernel_rfl) (by simp) ?_
      refine AllReadyH.cons (o := { dst := none, op := .store 40 (.tmp 7) (.tmp 14), type := 0, pos := "height.go:19", after := #[{ on := 8, ground := .data }, { on := 6, ground := .data }, { on := 4, ground := .chain }, { on := 0, ground := .phase }, { on := 1, ground := .phase }, { on := 2, ground := .phase }, { on := 3, ground := .phase }, { on := 4, ground := .phase }, { on := 5, ground := .phase }, { on := 6, ground := .phase }, { on := 7, ground := .textOnly .lateStores }, { on := 8, ground := .phase }], guard := none }) rfl (fun K hK => ?_) AllReadyH.nil
      rw [if_pos (by rfl)]
      refine wp_store_mid 40 (.tmp 7) (.tmp 14) rfl g 0 Y.toArray rfl rfl (put11 _ Y YL.out rfl G16).1 (by rw [List.size_toArray, YL.out]; exact info_chd) YO.out ?_
      refine hK.out _ _ (put_S hS16.1 hS16.2 hg0 YL.out G16) (fun hS17 => ?_)
      have E17 := put_E hS16.1 hS16.2 hg0 YL.out G16
      clear hK K
      try simp only [Act.put]
      refine wpAnyH_take (i := 10) (oi := { dst := some 6, op := .assign (.tmp 15), type := 25, pos := "height.go:19", after := #[{ on := 7, ground := .data }, { on := 9, ground := .chain }, { on := 0, ground := .phase }, { on := 1, ground := .phase }, { on := 2, ground := .phase }, { on := 3, ground := .phase }, { on := 4, ground := .phase }, { on := 5, ground := .phase }, { on := 6, ground := .phase }, { on := 7, ground := .phase }, { on := 8, ground := .phase }, { on := 9, ground := .phase }], guard := none }) (v := .int .i64 q) rfl (by kernel_rfl) (by kernel_rfl) (by kernel_rfl) (fun _ _ _ h => h) (Or.inl ⟨by rfl, by intro w hSw; clear hSw; go_simp⟩) hS17 ?_
      try simp only [Act.put, List.setIfInBounds_toArray, List.set_cons_zero, List.set_cons_succ]
      refine wpAnyH_done (by kernel_rfl) ?_ _
      go_wp2_with fail
      go_meet
      exact ⟨g, rfl, rfl, E17⟩
  case rest =>
    obtain ⟨g, rfl, rfl, hS⟩ := hcut
    clear KEEP CK HC0
    have uC := Try.underlying40
    have iC := Lib.hid (show (Try.prog.info? 40).map (·.size) = some Y.length by rw [YL.out]; exact info_chd)
    by_cases h0 : q = 0
    · subst h0
      obtain ⟨hc, hw0⟩ := er_zero HQ.out
      rw [fo1] at hw0
      have hwe : 0 ≤ e ∧ e ≤ 4294967296 := by
        rcases we_cases e with k | k
        · exact k.2
        · omega
      have HFt := Lib.hid (fit_of HX.out hc)
      have hY := HY.out
      rw [yz_zero] at hY
      have RG := Lib.hid (show wc.rangeAt g 0 (recC x) by rw [hY]; exact hS.out.2.1)
      have c2 := rec_cell RG.out 2 (by omega)
      rw [show kd 2 = .i64 from rfl] at c2
      obtain ⟨l, hl⟩ : ∃ l, x 2 = l := ⟨_, rfl⟩
      have b2 := HFt.out.len
      rw [hl] at c2 b2
      have z0 : 0 ≤ e * l := Int.mul_nonneg hwe.1 (by omega)
      have z1 : e * l ≤ 4294967296 * 1000 := Int.mul_le_mul hwe.2 b2.2 (by omega) (by omega)
      have z2 : (e + 1) * l = e * l + l := by rw [Int.add_mul, Int.one_mul]
      obtain ⟨k, hk⟩ : ∃ k, e * l = k := ⟨_, rfl⟩
      rw [hk] at z0 z1 z2
      have q1 : IntKind.i64.wrap (e * l) = k := by rw [hk]; exact wrapI _ (by omega) (by omega)
      have q2 : IntKind.i64.wrap ((e + 1) * l) = k + l := by rw [z2]; exact wrapI _ (by omega) (by omega)
      obtain ⟨c1, hc1⟩ : ∃ c1, wi (k + 1) = c1 := ⟨_, rfl⟩
      have HE1 := Lib.hid (show eF x e = c1 by unfold eF; rw [if_pos HQ.out, hl, hk, hc1])
      have HF1 := Lib.hid (show c1 = 0 → fiN x e = k + 1 from fun h => by unfold fiN; rw [if_pos (HE1.out.trans h), hl, hk])
      have HL1 := Lib.hid (show c1 = 0 → laN x e = min (k + l) 4294967296 from fun h => by unfold laN; rw [if_pos (HE1.out.trans h), hl, z2])
      have HF2 := Lib.hid (show c1 ≠ 0 → fiN x e = 0 from fun h => if_neg (by rw [HE1.out]; exact h))
      have HL2 := Lib.hid (show c1 ≠ 0 → laN x e = 0 from fun h => if_neg (by rw [HE1.out]; exact h))
      have CHK := Lib.hid (fun V => checkH (k + 1) V)
      rw [hc1] at CHK
      clear hc hY hl hk hc1 z2 hw0
      go_wp2_with fail
      refine (CHK.out _).mono ?_
      rintro r w9 ⟨rfl, rfl⟩
      by_cases h1 : c1 = 0
      · subst h1
        have HF := Lib.hid (HF1.out rfl)
        have HL := Lib.hid (HL1.out rfl)
        clear HF1 HL1
        by_cases hm : k + l ≤ 4294967296
        · have hm2 : min (k + l) 4294967296 = k + l := by omega
          go_upto_region 8 with fail
          go_region
          all_goals go_wp2_with fail
          all_goals go_ret3
          all_goals exact ⟨by rw [HF.out, HL.out, HE1.out, hm2]; rfl, B0.out.trans (hS.out.2.2.drewN _)⟩
        · have hm2 : min (k + l) 4294967296 = 4294967296 := by omega
          go_upto_region 8 with fail
          go_region
          all_goals go_wp2_with fail
          all_goals go_ret3
          all_goals exact ⟨by rw [HF.out, HL.out, HE1.out, hm2]; rfl, B0.out.trans (hS.out.2.2.drewN _)⟩
      · go_wp2_with fail
        go_ret3
        exact ⟨by rw [HF2.out h1, HL2.out h1, HE1.out]; rfl, B0.out.trans hS.out.2.2⟩
    · have HE1 := Lib.hid (show eF x e = q by unfold eF; rw [HQ.out, if_neg h0])
      have HF2 := Lib.hid (show fiN x e = 0 from if_neg (by rw [HE1.out]; exact h0))
      have HL2 := Lib.hid (show laN x e = 0 from if_neg (by rw [HE1.out]; exact h0))
      go_wp2_with fail
      go_ret3
      exact ⟨by rw [HF2.out, HL2.out, HE1.out]; rfl, B0.out.trans hS.out.2.2⟩
end Pd
end Go.Proofs.Ytlhahjpjlahdiaa
end

section
/-
  What period.First and Last answer. Conditions: the eleven numbers are of their kinds.
-/
namespace Go.Proofs.Ytlhahjpjlahdiaa
open Go.RowKit Go.Shelf
set_option linter.unusedVariables false
namespace Pd
open Kk Pm

set_option maxRecDepth 100000 in
set_option maxHeartbeats 4000000 in
theorem firstC (x : Nat → Int) (hx : Kinds x) (e : Int) (w : World) :
    Calls Try.prog 16 #[.agg (recC x).toArray, .int .i64 e] w fun r w' => r = .returned (.tuple #[.int .i64 (fiN x e), .int .i64 (eF x e)]) ∧ Bel w w' := by
  obtain ⟨D, hD⟩ : ∃ D, D = recC x := ⟨_, rfl⟩
  obtain ⟨W0, hW0⟩ : ∃ W0, w.alloc (.cells D.toArray 24) = W0 := ⟨_, rfl⟩
  have B0 := Lib.hid (show Bel w W0 by rw [← hW0]; exact (Bel.refl w).alloc _)
  have R0 := Lib.hid (show W0.rangeAt w.heap.size 0 D by rw [← hW0]; exact rngB (Blk.new w D.toArray 24))
  have RX := Lib.hid (show W0.rangeAt w.heap.size 0 (recC x) by rw [← hW0, hD]; exact rngB (Blk.new w (recC x).toArray 24))
  obtain ⟨p, hp⟩ : ∃ p, w.heap.size = p := ⟨_, rfl⟩
  rw [hp] at R0 RX
  have hDl : D.length = 11 := by rw [hD]; rfl
  have iD : (Try.prog.info? 24).map (·.size) = some D.length := by rw [hDl]; exact info_rec
  have EC := Lib.hid (fun V => endsC x hx e V)
  rw [← hD] at EC
  rw [← hD]
  have HX := Lib.hid hx
  have HP := Lib.hid hp
  have HW0 := Lib.hid hW0
  clear hx hp hD hW0 hDl
  go_enter Try.func16, Try.ntmps16
  go_upto_region 1 with fail
  rw [HW0.out, HP.out]
  go_wp2_with (first | (refine wpList_load_mid rfl 24 (.tmp 2) rfl p 0 rfl D _ R0.out Try.underlying24 rfl iD ?_) | (go_at_call 37; refine (EC.out _).mono ?_; rintro r w1 ⟨rfl, k1⟩; have B1 := Lib.hid k1; clear k1))
  go_ret2
  exact ⟨rfl, B0.out.trans B1.out⟩

set_option maxRecDepth 100000 in
set_option maxHeartbeats 4000000 in
theorem lastC (x : Nat → Int) (hx : Kinds x) (e : Int) (w : World) :
    Calls Try.prog 18 #[.agg (recC x).toArray, .int .i64 e] w fun r w' => r = .returned (.tuple #[.int .i64 (laN x e), .int .i64 (eF x e)]) ∧ Bel w w' := by
  obtain ⟨D, hD⟩ : ∃ D, D = recC x := ⟨_, rfl⟩
  obtain ⟨W0, hW0⟩ : ∃ W0, w.alloc (.cells D.toArray 24) = W0 := ⟨_, rfl⟩
  have B0 := Lib.hid (show Bel w W0 by rw [← hW0]; exact (Bel.refl w).alloc _)
  have R0 := Lib.hid (show W0.rangeAt w.heap.size 0 D by rw [← hW0]; exact rngB (Blk.new w D.toArray 24))
  have RX := Lib.hid (show W0.rangeAt w.heap.size 0 (recC x) by rw [← hW0, hD]; exact rngB (Blk.new w (recC x).toArray 24))
  obtain ⟨p, hp⟩ : ∃ p, w.heap.size = p := ⟨_, rfl⟩
  rw [hp] at R0 RX
  have hDl : D.length = 11 := by rw [hD]; rfl
  have iD : (Try.prog.info? 24).map (·.size) = some D.length := by rw [hDl]; exact info_rec
  have EC := Lib.hid (fun V => endsC x hx e V)
  rw [← hD] at EC
  rw [← hD]
  have HX := Lib.hid hx
  have HP := Lib.hid hp
  have HW0 := Lib.hid hW0
  clear hx hp hD hW0 hDl
  go_enter Try.func18, Try.ntmps18
  go_upto_region 1 with fail
  rw [HW0.out, HP.out]
  go_wp2_with (first | (refine wpList_load_mid rfl 24 (.tmp 2) rfl p 0 rfl D _ R0.out Try.underlying24 rfl iD ?_) | (go_at_call 37; refine (EC.out _).mono ?_; rintro r w1 ⟨rfl, k1⟩; have B1 := Lib.hid k1; clear k1))
  go_ret2
  exact ⟨rfl, B0.out.trans B1.out⟩
end Pd
end Go.Proofs.Ytlhahjpjlahdiaa
end
