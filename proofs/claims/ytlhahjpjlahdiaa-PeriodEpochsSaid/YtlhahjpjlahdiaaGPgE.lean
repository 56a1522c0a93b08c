/-
  What PeriodEpochs answer. Conditions: the eleven numbers are of their kinds.
-/
import Derived.Test.YtlhahjpjlahdiaaGPdE
namespace Go.Proofs.Ytlhahjpjlahdiaa
open Go.RowKit Go.Shelf
set_option linter.unusedVariables false
namespace Pd
open Kk Pm

set_option maxRecDepth 100000 in
set_option maxHeartbeats 8000000 in
theorem epochs (x : Nat → Int) (hx : Kinds x) (h e : Int) (w : World) :
    Calls Try.prog 6 #[.agg (recC x).toArray, .int .i64 h, .int .i64 e] w fun r w' => r = .returned (.bool true) ∧ Bel w w' := by
  obtain ⟨D, hD⟩ : ∃ D, D = recC x := ⟨_, rfl⟩
  obtain ⟨v0, hW0⟩ : ∃ W0, w.alloc (.cells D.toArray 24) = W0 := ⟨_, rfl⟩
  have B0 := Lib.hid (show Bel w v0 by rw [← hW0]; exact (Bel.refl w).alloc _)
  have R0 := Lib.hid (show v0.rangeAt w.heap.size 0 D by rw [← hW0]; exact rngB (Blk.new w D.toArray 24))
  obtain ⟨p, hp⟩ : ∃ p, w.heap.size = p := ⟨_, rfl⟩
  rw [hp] at R0
  have hDl : D.length = 11 := by rw [hD]; rfl
  have iD : (Try.prog.info? 24).map (·.size) = some D.length := by rw [hDl]; exact info_rec
  obtain ⟨n, hn⟩ : ∃ k_, epN x h = k_ := ⟨_, rfl⟩
  obtain ⟨q, hq⟩ : ∃ k_, e1 x h = k_ := ⟨_, rfl⟩
  have C0 := Lib.hid (fun V => epochC x hx h V)
  rw [hn, hq, ← hD] at C0
  have FE := Lib.hid (show q = 0 → EpF x h n from fun h0 => by rw [← hn]; exact epF hx (hq.trans h0))
  have HQ := Lib.hid hq
  have C1 := Lib.hid (fun V => firstC x hx n V)
  rw [← hD] at C1
  have C2 := Lib.hid (fun V => lastC x hx n V)
  rw [← hD] at C2
  have C3 := Lib.hid (fun V => firstC x hx e V)
  rw [← hD] at C3
  have C4 := Lib.hid (fun V => lastC x hx e V)
  rw [← hD] at C4
  have C5 := Lib.hid (fun V => lowC x hx h V)
  have C6 := Lib.hid (fun V => lowC x hx (h + 1) V)
  have C7 := Lib.hid (fun V => floorC x hx h V)
  have C8 := Lib.hid (fun V => floorC x hx (h + 1) V)
  rw [← hD] at C5 C6 C7 C8
  rw [hq] at C5 C7
  clear hn hq
  rw [← hD]
  have HX := Lib.hid hx
  have HP := Lib.hid hp
  have HW0 := Lib.hid hW0
  clear hx hp hD hW0 hDl
  go_enter Try.func6, Try.ntmps6
  go_upto_region 1 with fail
  rw [HW0.out, HP.out]
  go_wp2_with fail
  refine (known v0).mono ?_
  rintro r v1 ⟨rfl, k1⟩
  have B1 := Lib.hid (B0.out.trans k1)
  have R1 := Lib.hid (rng_bel R0.out k1)
  clear k1 R0 B0
  go_wp2_with (refine wpList_load_mid rfl 24 (.tmp 3) rfl p 0 rfl D _ R1.out Try.underlying24 rfl iD ?_)
  refine (C0.out v1).mono ?_
  rintro r v2 ⟨rfl, k2⟩
  have B2 := Lib.hid (B1.out.trans k2)
  have R2 := Lib.hid (rng_bel R1.out k2)
  clear k2 R1 B1
  by_cases h0 : q = 0
  · have F := Lib.hid (FE.out h0)
    subst h0
    have hn0 := F.out.n0
    have hn1 := F.out.n1
    have hh1 := F.out.h1
    have hh2 := F.out.h2
    obtain ⟨a, ha⟩ : ∃ a, fiN x n = a := ⟨_, rfl⟩
    obtain ⟨b, hb⟩ : ∃ b, laN x n = b := ⟨_, rfl⟩
    rw [F.out.ok, ha] at C1
    rw [F.out.ok, hb] at C2
    have g1 : a ≤ h := by rw [← ha]; exact F.out.fi
    have g2 : h ≤ b := by rw [← hb]; exact F.out.la
    obtain ⟨c, hc⟩ : ∃ c, fiN x e = c := ⟨_, rfl⟩
    obtain ⟨d, hd⟩ : ∃ d, laN x e = d := ⟨_, rfl⟩
    obtain ⟨j, hj⟩ : ∃ j, eF x e = j := ⟨_, rfl⟩
    rw [hc, hj] at C3
    rw [hd, hj] at C4
    have FO := Lib.hid (fun (k0 : j = 0) (k1 : e ≠ n) => F.out.other e (hj.trans k0) k1)
    rw [hc, hd] at FO
    clear ha hb hc hd hj FE
    go_wp2_with (refine wpList_load_mid rfl 24 (.tmp 3) rfl p 0 rfl D _ R2.out Try.underlying24 rfl iD ?_)
    refine (C1.out v2).mono ?_
    rintro r v3 ⟨rfl, k3⟩
    have B3 := Lib.hid (B2.out.trans k3)
    have R3 := Lib.hid (rng_bel R2.out k3)
    clear k3 R2 B2
    go_wp2_with (refine wpList_load_mid rfl 24 (.tmp 3) rfl p 0 rfl D _ R3.out Try.underlying24 rfl iD ?_)
    refine (C2.out v3).mono ?_
    rintro r v4 ⟨rfl, k4⟩
    have B4 := Lib.hid (B3.out.trans k4)
    have R4 := Lib.hid (rng_bel R3.out k4)
    clear k4 R3 B3
    go_wp2_with (refine wpList_load_mid rfl 24 (.tmp 3) rfl p 0 rfl D _ R4.out Try.underlying24 rfl iD ?_)
    refine (C3.out v4).mono ?_
    rintro r v5 ⟨rfl, k5⟩
    have B5 := Lib.hid (B4.out.trans k5)
    have R5 := Lib.hid (rng_bel R4.out k5)
    clear k5 R4 B4
    by_cases k0 : j = 0
    · by_cases k1 : e = n
      · have kb : (e != n) = false := by simp [k1]
        subst k0
        by_cases hm : h = 4294967296
        · subst hm
          go_wp2_with fail
          go_ret
          exact ⟨rfl, B5.out⟩
        · have s0 := F.out.low0
          have s1 := F.out.low1
          obtain ⟨s2, s3⟩ := F.out.low2 hm
          have s4 := F.out.fl0
          have s5 := F.out.fl1
          obtain ⟨s6, s7⟩ := F.out.fl2 hm
          rw [F.out.next hm] at C6 C8
          obtain ⟨l0, hl0⟩ : ∃ k_, lowN x h = k_ := ⟨_, rfl⟩
          obtain ⟨l1, hl1⟩ : ∃ k_, lowN x (h + 1) = k_ := ⟨_, rfl⟩
          obtain ⟨f0, hf0⟩ : ∃ k_, flN x h = k_ := ⟨_, rfl⟩
          obtain ⟨f1, hf1⟩ : ∃ k_, flN x (h + 1) = k_ := ⟨_, rfl⟩
          rw [hl0] at C5 s0 s1 s2 s3
          rw [hl1] at C6 s2 s3
          rw [hf0] at C7 s4 s5 s6 s7
          rw [hf1] at C8 s6 s7
          have N0 := Lib.hid (fun V => num l0 0 V (by decide))
          have N1 := Lib.hid (fun V => num l1 0 V (by decide))
          have N2 := Lib.hid (fun V => num f0 0 V (by decide))
          have N3 := Lib.hid (fun V => num f1 0 V (by decide))
          rw [show nu l0 0 = l0 from rfl] at N0
          rw [show nu l1 0 = l1 from rfl] at N1
          rw [show nu f0 0 = f0 from rfl] at N2
          rw [show nu f1 0 = f1 from rfl] at N3
          clear hl0 hl1 hf0 hf1
          have x1 : IntKind.i64.wrap (h + 1) = h + 1 := wrapI _ (by omega) (by omega)
          go_upto_region 16 with fail
          have uD := Try.underlying24
          have KEEP := Lib.hid (show ∀ V V' : World, (V.rangeAt p 0 D ∧ Bel w V) → Bel V V' → (V'.rangeAt p 0 D ∧ Bel w V') from fun V V' h hb => ⟨rng_bel h.1 hb, h.2.trans hb⟩)
          refine wp_region_held_drew (S := fun V => V.rangeAt p 0 D ∧ Bel w V) (by kernel_rfl) ⟨rng_bel R5.out (Bel.refl _).drew, B5.out.drew⟩ (fun hS0 => ?_)
          obtain ⟨w6, hw6⟩ : ∃ w6, v5.drew = w6 := ⟨_, rfl⟩
          rw [hw6] at hS0 ⊢
          clear hw6
          refine wpAnyH_take (i := 0) (oi := { dst := some 99, op := .load 24 (.tmp 3), type := 24, pos := "outright.go:66", after := #[], guard := none }) (v := .agg D.toArray) rfl (by kernel_rfl) (by kernel_rfl) (by kernel_rfl) (fun _ _ _ h => h) (yieldsIf_load_mid (by rfl) _ _ rfl _ _ rfl _ _ (fun w h => h.1) uD rfl iD) hS0 ?_
          try simp only [Act.put, List.setIfInBounds_toArray, List.set_cons_zero, List.set_cons_succ]
          refine wpAnyH_take (i := 1) (oi := { dst := some 100, op := .move (.tmp 1), type := 3, pos := "outright.go:66", after := #[], guard := none }) (v := .int .i64 h) rfl (by kernel_rfl) (by kernel_rfl) (by kernel_rfl) (fun _ _ _ h => h) (Or.inl ⟨by rfl, by intro w hSw; clear hSw; go_simp⟩) hS0 ?_
          try simp only [Act.put, List.setIfInBounds_toArray, List.set_cons_zero, List.set_cons_succ]
          refine wpAnyH_take (i := 6) (oi := { dst := some 105, op := .load 24 (.tmp 3), type := 24, pos := "outright.go:66", after := #[], guard := none }) (v := .agg D.toArray) rfl (by kernel_rfl) (by kernel_rfl) (by kernel_rfl) (fun _ _ _ h => h) (yieldsIf_load_mid (by rfl) _ _ rfl _ _ rfl _ _ (fun w h => h.1) uD rfl iD) hS0 ?_
          try simp only [Act.put, List.setIfInBounds_toArray, List.set_cons_zero, List.set_cons_succ]
          refine wpAnyH_take (i := 7) (oi := { dst := some 106, op := .move (.tmp 1), type := 3, pos := "outright.go:66", after := #[], guard := none }) (v := .int .i64 h) rfl (by kernel_rfl) (by kernel_rfl) (by kernel_rfl) (fun _ _ _ h => h) (Or.inl ⟨by rfl, by intro w hSw; clear hSw; go_simp⟩) hS0 ?_
          try simp only [Act.put, List.setIfInBounds_toArray, List.set_cons_zero, List.set_cons_succ]
          refine wpAnyH_take (i := 8) (oi := { dst := some 107, op := .binOp .add 3 (.tmp 106) (.const (Value.int IntKind.i64 1)) 3, type := 3, pos := "outright.go:66", after := #[{ on := 7, ground := .data }], guard := none }) (v := .int .i64 (h + 1)) rfl (by kernel_rfl) (by kernel_rfl) (by kernel_rfl) (fun _ _ _ h => h) (Or.inl ⟨by rfl, by intro w hSw; clear hSw; go_simp⟩) hS0 ?_
          try simp only [Act.put, List.setIfInBounds_toArray, List.set_cons_zero, List.set_cons_succ]
          refine wpAnyH_ready (rs := [2]) (by kernel_rfl) (by simp) ?_
          refine AllReadyH.cons (o := { dst := some 101, op := .call { callee := .value (.func 10), args := #[.tmp 99, .tmp 100], argTypes := #[24, 3] }, type := 26, pos := "outright.go:66", after := #[{ on := 0, ground := .data }, { on := 1, ground := .data }], guard := none }) rfl (fun K hK => ?_) AllReadyH.nil
          go_simp
          refine (C5.out _).mono ?_
          rintro e v1 ⟨rfl, k1⟩
          go_wp2_with fail
          refine hK.out _ _ (KEEP.out _ _ hS0 k1) (fun hS1 => ?_)
          clear hK K
          try simp only [Act.put, List.setIfInBounds_toArray, List.set_cons_zero, List.set_cons_succ]
          refine wpAnyH_take (i := 3) (oi := { dst := some 102, op := .extract (.tmp 101) 0, type := 3, pos := "outright.go:66", after := #[{ on := 2, ground := .data }], guard := none }) (v := .int .i64 l0) rfl (by kernel_rfl) (by kernel_rfl) (by kernel_rfl) (fun _ _ _ h => h) (Or.inl ⟨by rfl, by intro w hSw; clear hSw; go_simp⟩) hS1 ?_
          try simp only [Act.put, List.setIfInBounds_toArray, List.set_cons_zero, List.set_cons_succ]
          refine wpAnyH_take (i := 4) (oi := { dst := some 103, op := .extract (.tmp 101) 1, type := 25, pos := "outright.go:66", after := #[{ on := 2, ground := .data }], guard := none }) (v := .int .i64 0) rfl (by kernel_rfl) (by kernel_rfl) (by kernel_rfl) (fun _ _ _ h => h) (Or.inl ⟨by rfl, by intro w hSw; clear hSw; go_simp⟩) hS1 ?_
          try simp only [Act.put, List.setIfInBounds_toArray, List.set_cons_zero, List.set_cons_succ]
          refine wpAnyH_ready (rs := [5]) (by kernel_rfl) (by simp) ?_
          refine AllReadyH.cons (o := { dst := some 104, op := .call { callee := .value (.func 30), args := #[.tmp 102, .tmp 103], argTypes := #[3, 25] }, type := 3, pos := "outright.go:66", after := #[{ on := 3, ground := .data }, { on := 4, ground := .data }, { on := 2, ground := .chain }], guard := none }) rfl (fun K hK => ?_) AllReadyH.nil
          go_simp
          refine (N0.out _).mono ?_
          rintro e v2 ⟨rfl, rfl⟩
          go_wp2_with fail
          refine hK.out _ _ (hS1) (fun hS2 => ?_)
          clear hK K
          try simp only [Act.put, List.setIfInBounds_toArray, List.set_cons_zero, List.set_cons_succ]
          refine wpAnyH_ready (rs := [9]) (by kernel_rfl) (by simp) ?_
          refine AllReadyH.cons (o := { dst := some 108, op := .call { callee := .value (.func 10), args := #[.tmp 105, .tmp 107], argTypes := #[24, 3] }, type := 26, pos := "outright.go:66", after := #[{ on := 6, ground := .data }, { on := 8, ground := .data }, { on := 5, ground := .chain }], guard := none }) rfl (fun K hK => ?_) AllReadyH.nil
          go_simp
          refine (C6.out _).mono ?_
          rintro e v3 ⟨rfl, k3⟩
          go_wp2_with fail
          refine hK.out _ _ (KEEP.out _ _ hS2 k3) (fun hS3 => ?_)
          clear hK K
          try simp only [Act.put, List.setIfInBounds_toArray, List.set_cons_zero, List.set_cons_succ]
          refine wpAnyH_take (i := 10) (oi := { dst := some 109, op := .extract (.tmp 108) 0, type := 3, pos := "outright.go:66", after := #[{ on := 9, ground := .data }], guard := none }) (v := .int .i64 l1) rfl (by kernel_rfl) (by kernel_rfl) (by kernel_rfl) (fun _ _ _ h => h) (Or.inl ⟨by rfl, by intro w hSw; clear hSw; go_simp⟩) hS3 ?_
          try simp only [Act.put, List.setIfInBounds_toArray, List.set_cons_zero, List.set_cons_succ]
          refine wpAnyH_take (i := 11) (oi := { dst := some 110, op := .extract (.tmp 108) 1, type := 25, pos := "outright.go:66", after := #[{ on := 9, ground := .data }], guard := none }) (v := .int .i64 0) rfl (by kernel_rfl) (by kernel_rfl) (by kernel_rfl) (fun _ _ _ h => h) (Or.inl ⟨by rfl, by intro w hSw; clear hSw; go_simp⟩) hS3 ?_
          try simp only [Act.put, List.setIfInBounds_toArray, List.set_cons_zero, List.set_cons_succ]
          refine wpAnyH_ready (rs := [12]) (by kernel_rfl) (by simp) ?_
          refine AllReadyH.cons (o := { dst := some 111, op := .call { callee := .value (.func 30), args := #[.tmp 109, .tmp 110], argTypes := #[3, 25] }, type := 3, pos := "outright.go:66", after := #[{ on := 10, ground := .data }, { on := 11, ground := .data }, { on := 9, ground := .chain }], guard := none }) rfl (fun K hK => ?_) AllReadyH.nil
          go_simp
          refine (N1.out _).mono ?_
          rintro e v4 ⟨rfl, rfl⟩
          go_wp2_with fail
          refine hK.out _ _ (hS3) (fun hS4 => ?_)
          clear hK K
          try simp only [Act.put, List.setIfInBounds_toArray, List.set_cons_zero, List.set_cons_succ]
          refine wpAnyH_take (i := 13) (oi := { dst := some 18, op := .assign (.tmp 104), type := 3, pos := "outright.go:66", after := #[{ on := 5, ground := .data }, { on := 12, ground := .chain }, { on := 0, ground := .phase }, { on := 1, ground := .phase }, { on := 2, ground := .phase }, { on := 3, ground := .phase }, { on := 4, ground := .phase }, { on := 5, ground := .phase }, { on := 6, ground := .textOnly .lateStores }, { on := 7, ground := .textOnly .lateStores }, { on := 8, ground := .textOnly .lateStores }, { on := 9, ground := .textOnly .lateStoresUnsure }, { on := 10, ground := .textOnly .lateStores }, { on := 11, ground := .textOnly .lateStores }, { on := 12, ground := .textOnly .lateStoresUnsure }], guard := none }) (v := .int .i64 l0) rfl (by kernel_rfl) (by kernel_rfl) (by kernel_rfl) (fun _ _ _ h => h) (Or.inl ⟨by rfl, by intro w hSw; clear hSw; go_simp⟩) hS4 ?_
          try simp only [Act.put, List.setIfInBounds_toArray, List.set_cons_zero, List.set_cons_succ]
          refine wpAnyH_take (i := 14) (oi := { dst := some 19, op := .assign (.tmp 111), type := 3, pos := "outright.go:66", after := #[{ on := 12, ground := .data }, { on := 13, ground := .chain }, { on := 0, ground := .phase }, { on := 1, ground := .phase }, { on := 2, ground := .phase }, { on := 3, ground := .phase }, { on := 4, ground := .phase }, { on := 5, ground := .phase }, { on := 6, ground := .phase }, { on := 7, ground := .phase }, { on := 8, ground := .phase }, { on := 9, ground := .phase }, { on := 10, ground := .phase }, { on := 11, ground := .phase }, { on := 12, ground := .phase }, { on := 13, ground := .phase }], guard := none }) (v := .int .i64 l1) rfl (by kernel_rfl) (by kernel_rfl) (by kernel_rfl) (fun _ _ _ h => h) (Or.inl ⟨by rfl, by intro w hSw; clear hSw; go_simp⟩) hS4 ?_
          try simp only [Act.put, List.setIfInBounds_toArray, List.set_cons_zero, List.set_cons_succ]
          refine wpAnyH_done (by kernel_rfl) ?_ _
          have RR := Lib.hid hS4.1
          have BB := Lib.hid hS4.2
          clear hS0 hS1 hS2 hS3 hS4 KEEP uD C5 C6 N0 N1
          go_upto_region 17 with fail
          have uD := Try.underlying24
          have KEEP := Lib.hid (show ∀ V V' : World, (V.rangeAt p 0 D ∧ Bel w V) → Bel V V' → (V'.rangeAt p 0 D ∧ Bel w V') from fun V V' h hb => ⟨rng_bel h.1 hb, h.2.trans hb⟩)
          refine wp_region_held_drew (S := fun V => V.rangeAt p 0 D ∧ Bel w V) (by kernel_rfl) ⟨rng_bel RR.out (Bel.refl _).drew, BB.out.drew⟩ (fun hS0 => ?_)
          refine wpAnyH_take (i := 0) (oi := { dst := some 112, op := .load 24 (.tmp 3), type := 24, pos := "outright.go:67", after := #[], guard := none }) (v := .agg D.toArray) rfl (by kernel_rfl) (by kernel_rfl) (by kernel_rfl) (fun _ _ _ h => h) (yieldsIf_load_mid (by rfl) _ _ rfl _ _ rfl _ _ (fun w h => h.1) uD rfl iD) hS0 ?_
          try simp only [Act.put, List.setIfInBounds_toArray, List.set_cons_zero, List.set_cons_succ]
          refine wpAnyH_take (i := 1) (oi := { dst := some 113, op := .move (.tmp 1), type := 3, pos := "outright.go:67", after := #[], guard := none }) (v := .int .i64 h) rfl (by kernel_rfl) (by kernel_rfl) (by kernel_rfl) (fun _ _ _ h => h) (Or.inl ⟨by rfl, by intro w hSw; clear hSw; go_simp⟩) hS0 ?_
          try simp only [Act.put, List.setIfInBounds_toArray, List.set_cons_zero, List.set_cons_succ]
          refine wpAnyH_take (i := 6) (oi := { dst := some 118, op := .load 24 (.tmp 3), type := 24, pos := "outright.go:67", after := #[], guard := none }) (v := .agg D.toArray) rfl (by kernel_rfl) (by kernel_rfl) (by kernel_rfl) (fun _ _ _ h => h) (yieldsIf_load_mid (by rfl) _ _ rfl _ _ rfl _ _ (fun w h => h.1) uD rfl iD) hS0 ?_
          try simp only [Act.put, List.setIfInBounds_toArray, List.set_cons_zero, List.set_cons_succ]
          refine wpAnyH_take (i := 7) (oi := { dst := some 119, op := .move (.tmp 1), type := 3, pos := "outright.go:67", after := #[], guard := none }) (v := .int .i64 h) rfl (by kernel_rfl) (by kernel_rfl) (by kernel_rfl) (fun _ _ _ h => h) (Or.inl ⟨by rfl, by intro w hSw; clear hSw; go_simp⟩) hS0 ?_
          try simp only [Act.put, List.setIfInBounds_toArray, List.set_cons_zero, List.set_cons_succ]
          refine wpAnyH_take (i := 8) (oi := { dst := some 120, op := .binOp .add 3 (.tmp 119) (.const (Value.int IntKind.i64 1)) 3, type := 3, pos := "outright.go:67", after := #[{ on := 7, ground := .data }], guard := none }) (v := .int .i64 (h + 1)) rfl (by kernel_rfl) (by kernel_rfl) (by kernel_rfl) (fun _ _ _ h => h) (Or.inl ⟨by rfl, by intro w hSw; clear hSw; go_simp⟩) hS0 ?_
          try simp only [Act.put, List.setIfInBounds_toArray, List.set_cons_zero, List.set_cons_succ]
          refine wpAnyH_ready (rs := [2]) (by kernel_rfl) (by simp) ?_
          refine AllReadyH.cons (o := { dst := some 114, op := .call { callee := .value (.func 12), args := #[.tmp 112, .tmp 113], argTypes := #[24, 3] }, type := 26, pos := "outright.go:67", after := #[{ on := 0, ground := .data }, { on := 1, ground := .data }], guard := none }) rfl (fun K hK => ?_) AllReadyH.nil
          go_simp
          refine (C7.out _).mono ?_
          rintro e v1 ⟨rfl, k1⟩
          go_wp2_with fail
          refine hK.out _ _ (KEEP.out _ _ hS0 k1) (fun hS1 => ?_)
          clear hK K
          try simp only [Act.put, List.setIfInBounds_toArray, List.set_cons_zero, List.set_cons_succ]
          refine wpAnyH_take (i := 3) (oi := { dst := some 115, op := .extract (.tmp 114) 0, type := 3, pos := "outright.go:67", after := #[{ on := 2, ground := .data }], guard := none }) (v := .int .i64 f0) rfl (by kernel_rfl) (by kernel_rfl) (by kernel_rfl) (fun _ _ _ h => h) (Or.inl ⟨by rfl, by intro w hSw; clear hSw; go_simp⟩) hS1 ?_
          try simp only [Act.put, List.setIfInBounds_toArray, List.set_cons_zero, List.set_cons_succ]
          refine wpAnyH_take (i := 4) (oi := { dst := some 116, op := .extract (.tmp 114) 1, type := 25, pos := "outright.go:67", after := #[{ on := 2, ground := .data }], guard := none }) (v := .int .i64 0) rfl (by kernel_rfl) (by kernel_rfl) (by kernel_rfl) (fun _ _ _ h => h) (Or.inl ⟨by rfl, by intro w hSw; clear hSw; go_simp⟩) hS1 ?_
          try simp only [Act.put, List.setIfInBounds_toArray, List.set_cons_zero, List.set_cons_succ]
          refine wpAnyH_ready (rs := [5]) (by kernel_rfl) (by simp) ?_
          refine AllReadyH.cons (o := { dst := some 117, op := .call { callee := .value (.func 30), args := #[.tmp 115, .tmp 116], argTypes := #[3, 25] }, type := 3, pos := "outright.go:67", after := #[{ on := 3, ground := .data }, { on := 4, ground := .data }, { on := 2, ground := .chain }], guard := none }) rfl (fun K hK => ?_) AllReadyH.nil
          go_simp
          refine (N2.out _).mono ?_
          rintro e v2 ⟨rfl, rfl⟩
          go_wp2_with fail
          refine hK.out _ _ (hS1) (fun hS2 => ?_)
          clear hK K
          try simp only [Act.put, List.setIfInBounds_toArray, List.set_cons_zero, List.set_cons_succ]
          refine wpAnyH_ready (rs := [9]) (by kernel_rfl) (by simp) ?_
          refine AllReadyH.cons (o := { dst := some 121, op := .call { callee := .value (.func 12), args := #[.tmp 118, .tmp 120], argTypes := #[24, 3] }, type := 26, pos := "outright.go:67", after := #[{ on := 6, ground := .data }, { on := 8, ground := .data }, { on := 5, ground := .chain }], guard := none }) rfl (fun K hK => ?_) AllReadyH.nil
          go_simp
          refine (C8.out _).mono ?_
          rintro e v3 ⟨rfl, k3⟩
          go_wp2_with fail
          refine hK.out _ _ (KEEP.out _ _ hS2 k3) (fun hS3 => ?_)
          clear hK K
          try simp only [Act.put, List.setIfInBounds_toArray, List.set_cons_zero, List.set_cons_succ]
          refine wpAnyH_take (i := 10) (oi := { dst := some 122, op := .extract (.tmp 121) 0, type := 3, pos := "outright.go:67", after := #[{ on := 9, ground := .data }], guard := none }) (v := .int .i64 f1) rfl (by kernel_rfl) (by kernel_rfl) (by kernel_rfl) (fun _ _ _ h => h) (Or.inl ⟨by rfl, by intro w hSw; clear hSw; go_simp⟩) hS3 ?_
          try simp only [Act.put, List.setIfInBounds_toArray, List.set_cons_zero, List.set_cons_succ]
          refine wpAnyH_take (i := 11) (oi := { dst := some 123, op := .extract (.tmp 121) 1, type := 25, pos := "outright.go:67", after := #[{ on := 9, ground := .data }], guard := none }) (v := .int .i64 0) rfl (by kernel_rfl) (by kernel_rfl) (by kernel_rfl) (fun _ _ _ h => h) (Or.inl ⟨by rfl, by intro w hSw; clear hSw; go_simp⟩) hS3 ?_
          try simp only [Act.put, List.setIfInBounds_toArray, List.set_cons_zero, List.set_cons_succ]
          refine wpAnyH_ready (rs := [12]) (by kernel_rfl) (by simp) ?_
          refine AllReadyH.cons (o := { dst := some 124, op := .call { callee := .value (.func 30), args := #[.tmp 122, .tmp 123], argTypes := #[3, 25] }, type := 3, pos := "outright.go:67", after := #[{ on := 10, ground := .data }, { on := 11, ground := .data }, { on := 9, ground := .chain }], guard := none }) rfl (fun K hK => ?_) AllReadyH.nil
          go_simp
          refine (N3.out _).mono ?_
          rintro e v4 ⟨rfl, rfl⟩
          go_wp2_with fail
          refine hK.out _ _ (hS3) (fun hS4 => ?_)
          clear hK K
          try simp only [Act.put, List.setIfInBounds_toArray, List.set_cons_zero, List.set_cons_succ]
          refine wpAnyH_take (i := 13) (oi := { dst := some 20, op := .assign (.tmp 117), type := 3, pos := "outright.go:67", after := #[{ on := 5, ground := .data }, { on := 12, ground := .chain }, { on := 0, ground := .phase }, { on := 1, ground := .phase }, { on := 2, ground := .phase }, { on := 3, ground := .phase }, { on := 4, ground := .phase }, { on := 5, ground := .phase }, { on := 6, ground := .textOnly .lateStores }, { on := 7, ground := .textOnly .lateStores }, { on := 8, ground := .textOnly .lateStores }, { on := 9, ground := .textOnly .lateStoresUnsure }, { on := 10, ground := .textOnly .lateStores }, { on := 11, ground := .textOnly .lateStores }, { on := 12, ground := .textOnly .lateStoresUnsure }], guard := none }) (v := .int .i64 f0) rfl (by kernel_rfl) (by kernel_rfl) (by kernel_rfl) (fun _ _ _ h => h) (Or.inl ⟨by rfl, by intro w hSw; clear hSw; go_simp⟩) hS4 ?_
          try simp only [Act.put, List.setIfInBounds_toArray, List.set_cons_zero, List.set_cons_succ]
          refine wpAnyH_take (i := 14) (oi := { dst := some 21, op := .assign (.tmp 124), type := 3, pos := "outright.go:67", after := #[{ on := 12, ground := .data }, { on := 13, ground := .chain }, { on := 0, ground := .phase }, { on := 1, ground := .phase }, { on := 2, ground := .phase }, { on := 3, ground := .phase }, { on := 4, ground := .phase }, { on := 5, ground := .phase }, { on := 6, ground := .phase }, { on := 7, ground := .phase }, { on := 8, ground := .phase }, { on := 9, ground := .phase }, { on := 10, ground := .phase }, { on := 11, ground := .phase }, { on := 12, ground := .phase }, { on := 13, ground := .phase }], guard := none }) (v := .int .i64 f1) rfl (by kernel_rfl) (by kernel_rfl) (by kernel_rfl) (fun _ _ _ h => h) (Or.inl ⟨by rfl, by intro w hSw; clear hSw; go_simp⟩) hS4 ?_
          try simp only [Act.put, List.setIfInBounds_toArray, List.set_cons_zero, List.set_cons_succ]
          refine wpAnyH_done (by kernel_rfl) ?_ _
          have BB := Lib.hid hS4.2
          clear hS0 hS1 hS2 hS3 hS4 KEEP uD
          go_wp2_with fail
          go_ret
          exact ⟨rfl, BB.out⟩
      · have kb : (e != n) = true := by simpa using k1
        obtain ⟨g3, g4⟩ := FO.out k0 k1
        subst k0
        go_wp2_with (refine wpList_load_mid rfl 24 (.tmp 3) rfl p 0 rfl D _ R5.out Try.underlying24 rfl iD ?_)
        refine (C4.out v5).mono ?_
        rintro r v6 ⟨rfl, k6⟩
        have B6 := Lib.hid (B5.out.trans k6)
        have R6 := Lib.hid (rng_bel R5.out k6)
        clear k6 R5 B5
        by_cases g5 : c ≤ h
        · have g6 : ¬ h ≤ d := fun k => g4 ⟨g5, k⟩
          have g6b : decide (h ≤ d) = false := decide_eq_false g6
          by_cases hm : h = 4294967296
          · subst hm
            go_wp2_with fail
            go_ret
            exact ⟨rfl, B6.out⟩
          · have s0 := F.out.low0
            have s1 := F.out.low1
            obtain ⟨s2, s3⟩ := F.out.low2 hm
            have s4 := F.out.fl0
            have s5 := F.out.fl1
            obtain ⟨s6, s7⟩ := F.out.fl2 hm
            rw [F.out.next hm] at C6 C8
            obtain ⟨l0, hl0⟩ : ∃ k_, lowN x h = k_ := ⟨_, rfl⟩
            obtain ⟨l1, hl1⟩ : ∃ k_, lowN x (h + 1) = k_ := ⟨_, rfl⟩
            obtain ⟨f0, hf0⟩ : ∃ k_, flN x h = k_ := ⟨_, rfl⟩
            obtain ⟨f1, hf1⟩ : ∃ k_, flN x (h + 1) = k_ := ⟨_, rfl⟩
            rw [hl0] at C5 s0 s1 s2 s3
            rw [hl1] at C6 s2 s3
            rw [hf0] at C7 s4 s5 s6 s7
            rw [hf1] at C8 s6 s7
            have N0 := Lib.hid (fun V => num l0 0 V (by decide))
            have N1 := Lib.hid (fun V => num l1 0 V (by decide))
            have N2 := Lib.hid (fun V => num f0 0 V (by decide))
            have N3 := Lib.hid (fun V => num f1 0 V (by decide))
            rw [show nu l0 0 = l0 from rfl] at N0
            rw [show nu l1 0 = l1 from rfl] at N1
            rw [show nu f0 0 = f0 from rfl] at N2
            rw [show nu f1 0 = f1 from rfl] at N3
            clear hl0 hl1 hf0 hf1
            have x1 : IntKind.i64.wrap (h + 1) = h + 1 := wrapI _ (by omega) (by omega)
            go_upto_region 16 with fail
            have uD := Try.underlying24
            have KEEP := Lib.hid (show ∀ V V' : World, (V.rangeAt p 0 D ∧ Bel w V) → Bel V V' → (V'.rangeAt p 0 D ∧ Bel w V') from fun V V' h hb => ⟨rng_bel h.1 hb, h.2.trans hb⟩)
            refine wp_region_held_drew (S := fun V => V.rangeAt p 0 D ∧ Bel w V) (by kernel_rfl) ⟨rng_bel R6.out (Bel.refl _).drew, B6.out.drew⟩ (fun hS0 => ?_)
            obtain ⟨w6, hw6⟩ : ∃ w6, v6.drew = w6 := ⟨_, rfl⟩
            rw [hw6] at hS0 ⊢
            clear hw6
            refine wpAnyH_take (i := 0) (oi := { dst := some 99, op := .load 24 (.tmp 3), type := 24, pos := "outright.go:66", after := #[], guard := none }) (v := .agg D.toArray) rfl (by kernel_rfl) (by kernel_rfl) (by kernel_rfl) (fun _ _ _ h => h) (yieldsIf_load_mid (by rfl) _ _ rfl _ _ rfl _ _ (fun w h => h.1) uD rfl iD) hS0 ?_
            try simp only [Act.put, List.setIfInBounds_toArray, List.set_cons_zero, List.set_cons_succ]
            refine wpAnyH_take (i := 1) (oi := { dst := some 100, op := .move (.tmp 1), type := 3, pos := "outright.go:66", after := #[], guard := none }) (v := .int .i64 h) rfl (by kernel_rfl) (by kernel_rfl) (by kernel_rfl) (fun _ _ _ h => h) (Or.inl ⟨by rfl, by intro w hSw; clear hSw; go_simp⟩) hS0 ?_
            try simp only [Act.put, List.setIfInBounds_toArray, List.set_cons_zero, List.set_cons_succ]
            refine wpAnyH_take (i := 6) (oi := { dst := some 105, op := .load 24 (.tmp 3), type := 24, pos := "outright.go:66", after := #[], guard := none }) (v := .agg D.toArray) rfl (by kernel_rfl) (by kernel_rfl) (by kernel_rfl) (fun _ _ _ h => h) (yieldsIf_load_mid (by rfl) _ _ rfl _ _ rfl _ _ (fun w h => h.1) uD rfl iD) hS0 ?_
            try simp only [Act.put, List.setIfInBounds_toArray, List.set_cons_zero, List.set_cons_succ]
            refine wpAnyH_take (i := 7) (oi := { dst := some 106, op := .move (.tmp 1), type := 3, pos := "outright.go:66", after := #[], guard := none }) (v := .int .i64 h) rfl (by kernel_rfl) (by kernel_rfl) (by kernel_rfl) (fun _ _ _ h => h) (Or.inl ⟨by rfl, by intro w hSw; clear hSw; go_simp⟩) hS0 ?_
            try simp only [Act.put, List.setIfInBounds_toArray, List.set_cons_zero, List.set_cons_succ]
            refine wpAnyH_take (i := 8) (oi := { dst := some 107, op := .binOp .add 3 (.tmp 106) (.const (Value.int IntKind.i64 1)) 3, type := 3, pos := "outright.go:66", after := #[{ on := 7, ground := .data }], guard := none }) (v := .int .i64 (h + 1)) rfl (by kernel_rfl) (by kernel_rfl) (by kernel_rfl) (fun _ _ _ h => h) (Or.inl ⟨by rfl, by intro w hSw; clear hSw; go_simp⟩) hS0 ?_
            try simp only [Act.put, List.setIfInBounds_toArray, List.set_cons_zero, List.set_cons_succ]
            refine wpAnyH_ready (rs := [2]) (by kernel_rfl) (by simp) ?_
            refine AllReadyH.cons (o := { dst := some 101, op := .call { callee := .value (.func 10), args := #[.tmp 99, .tmp 100], argTypes := #[24, 3] }, type := 26, pos := "outright.go:66", after := #[{ on := 0, ground := .data }, { on := 1, ground := .data }], guard := none }) rfl (fun K hK => ?_) AllReadyH.nil
            go_simp
            refine (C5.out _).mono ?_
            rintro e v1 ⟨rfl, k1⟩
            go_wp2_with fail
            refine hK.out _ _ (KEEP.out _ _ hS0 k1) (fun hS1 => ?_)
            clear hK K
            try simp only [Act.put, List.setIfInBounds_toArray, List.set_cons_zero, List.set_cons_succ]
            refine wpAnyH_take (i := 3) (oi := { dst := some 102, op := .extract (.tmp 101) 0, type := 3, pos := "outright.go:66", after := #[{ on := 2, ground := .data }], guard := none }) (v := .int .i64 l0) rfl (by kernel_rfl) (by kernel_rfl) (by kernel_rfl) (fun _ _ _ h => h) (Or.inl ⟨by rfl, by intro w hSw; clear hSw; go_simp⟩) hS1 ?_
            try simp only [Act.put, List.setIfInBounds_toArray, List.set_cons_zero, List.set_cons_succ]
            refine wpAnyH_take (i := 4) (oi := { dst := some 103, op := .extract (.tmp 101) 1, type := 25, pos := "outright.go:66", after := #[{ on := 2, ground := .data }], guard := none }) (v := .int .i64 0) rfl (by kernel_rfl) (by kernel_rfl) (by kernel_rfl) (fun _ _ _ h => h) (Or.inl ⟨by rfl, by intro w hSw; clear hSw; go_simp⟩) hS1 ?_
            try simp only [Act.put, List.setIfInBounds_toArray, List.set_cons_zero, List.set_cons_succ]
            refine wpAnyH_ready (rs := [5]) (by kernel_rfl) (by simp) ?_
            refine AllReadyH.cons (o := { dst := some 104, op := .call { callee := .value (.func 30), args := #[.tmp 102, .tmp 103], argTypes := #[3, 25] }, type := 3, pos := "outright.go:66", after := #[{ on := 3, ground := .data }, { on := 4, ground := .data }, { on := 2, ground := .chain }], guard := none }) rfl (fun K hK => ?_) AllReadyH.nil
            go_simp
            refine (N0.out _).mono ?_
            rintro e v2 ⟨rfl, rfl⟩
            go_wp2_with fail
            refine hK.out _ _ (hS1) (fun hS2 => ?_)
            clear hK K
            try simp only [Act.put, List.setIfInBounds_toArray, List.set_cons_zero, List.set_cons_succ]
            refine wpAnyH_ready (rs := [9]) (by kernel_rfl) (by simp) ?_
            refine AllReadyH.cons (o := { dst := some 108, op := .call { callee := .value (.func 10), args := #[.tmp 105, .tmp 107], argTypes := #[24, 3] }, type := 26, pos := "outright.go:66", after := #[{ on := 6, ground := .data }, { on := 8, ground := .data }, { on := 5, ground := .chain }], guard := none }) rfl (fun K hK => ?_) AllReadyH.nil
            go_simp
            refine (C6.out _).mono ?_
            rintro e v3 ⟨rfl, k3⟩
            go_wp2_with fail
            refine hK.out _ _ (KEEP.out _ _ hS2 k3) (fun hS3 => ?_)
            clear hK K
            try simp only [Act.put, List.setIfInBounds_toArray, List.set_cons_zero, List.set_cons_succ]
            refine wpAnyH_take (i := 10) (oi := { dst := some 109, op := .extract (.tmp 108) 0, type := 3, pos := "outright.go:66", after := #[{ on := 9, ground := .data }], guard := none }) (v := .int .i64 l1) rfl (by kernel_rfl) (by kernel_rfl) (by kernel_rfl) (fun _ _ _ h => h) (Or.inl ⟨by rfl, by intro w hSw; clear hSw; go_simp⟩) hS3 ?_
            try simp only [Act.put, List.setIfInBounds_toArray, List.set_cons_zero, List.set_cons_succ]
            refine wpAnyH_take (i := 11) (oi := { dst := some 110, op := .extract (.tmp 108) 1, type := 25, pos := "outright.go:66", after := #[{ on := 9, ground := .data }], guard := none }) (v := .int .i64 0) rfl (by kernel_rfl) (by kernel_rfl) (by kernel_rfl) (fun _ _ _ h => h) (Or.inl ⟨by rfl, by intro w hSw; clear hSw; go_simp⟩) hS3 ?_
            try simp only [Act.put, List.setIfInBounds_toArray, List.set_cons_zero, List.set_cons_succ]
            refine wpAnyH_ready (rs := [12]) (by kernel_rfl) (by simp) ?_
            refine AllReadyH.cons (o := { dst := some 111, op := .call { callee := .value (.func 30), args := #[.tmp 109, .tmp 110], argTypes := #[3, 25] }, type := 3, pos := "outright.go:66", after := #[{ on := 10, ground := .data }, { on := 11, ground := .data }, { on := 9, ground := .chain }], guard := none }) rfl (fun K hK => ?_) AllReadyH.nil
            go_simp
            refine (N1.out _).mono ?_
            rintro e v4 ⟨rfl, rfl⟩
            go_wp2_with fail
            refine hK.out _ _ (hS3) (fun hS4 => ?_)
            clear hK K
            try simp only [Act.put, List.setIfInBounds_toArray, List.set_cons_zero, List.set_cons_succ]
            refine wpAnyH_take (i := 13) (oi := { dst := some 18, op := .assign (.tmp 104), type := 3, pos := "outright.go:66", after := #[{ on := 5, ground := .data }, { on := 12, ground := .chain }, { on := 0, ground := .phase }, { on := 1, ground := .phase }, { on := 2, ground := .phase }, { on := 3, ground := .phase }, { on := 4, ground := .phase }, { on := 5, ground := .phase }, { on := 6, ground := .textOnly .lateStores }, { on := 7, ground := .textOnly .lateStores }, { on := 8, ground := .textOnly .lateStores }, { on := 9, ground := .textOnly .lateStoresUnsure }, { on := 10, ground := .textOnly .lateStores }, { on := 11, ground := .textOnly .lateStores }, { on := 12, ground := .textOnly .lateStoresUnsure }], guard := none }) (v := .int .i64 l0) rfl (by kernel_rfl) (by kernel_rfl) (by kernel_rfl) (fun _ _ _ h => h) (Or.inl ⟨by rfl, by intro w hSw; clear hSw; go_simp⟩) hS4 ?_
            try simp only [Act.put, List.setIfInBounds_toArray, List.set_cons_zero, List.set_cons_succ]
            refine wpAnyH_take (i := 14) (oi := { dst := some 19, op := .assign (.tmp 111), type := 3, pos := "outright.go:66", after := #[{ on := 12, ground := .data }, { on := 13, ground := .chain }, { on := 0, ground := .phase }, { on := 1, ground := .phase }, { on := 2, ground := .phase }, { on := 3, ground := .phase }, { on := 4, ground := .phase }, { on := 5, ground := .phase }, { on := 6, ground := .phase }, { on := 7, ground := .phase }, { on := 8, ground := .phase }, { on := 9, ground := .phase }, { on := 10, ground := .phase }, { on := 11, ground := .phase }, { on := 12, ground := .phase }, { on := 13, ground := .phase }], guard := none }) (v := .int .i64 l1) rfl (by kernel_rfl) (by kernel_rfl) (by kernel_rfl) (fun _ _ _ h => h) (Or.inl ⟨by rfl, by intro w hSw; clear hSw; go_simp⟩) hS4 ?_
            try simp only [Act.put, List.setIfInBounds_toArray, List.set_cons_zero, List.set_cons_succ]
            refine wpAnyH_done (by kernel_rfl) ?_ _
            have RR := Lib.hid hS4.1
            have BB := Lib.hid hS4.2
            clear hS0 hS1 hS2 hS3 hS4 KEEP uD C5 C6 N0 N1
            go_upto_region 17 with fail
            have uD := Try.underlying24
            have KEEP := Lib.hid (show ∀ V V' : World, (V.rangeAt p 0 D ∧ Bel w V) → Bel V V' → (V'.rangeAt p 0 D ∧ Bel w V') from fun V V' h hb => ⟨rng_bel h.1 hb, h.2.trans hb⟩)
            refine wp_region_held_drew (S := fun V => V.rangeAt p 0 D ∧ Bel w V) (by kernel_rfl) ⟨rng_bel RR.out (Bel.refl _).drew, BB.out.drew⟩ (fun hS0 => ?_)
            refine wpAnyH_take (i := 0) (oi := { dst := some 112, op := .load 24 (.tmp 3), type := 24, pos := "outright.go:67", after := #[], guard := none }) (v := .agg D.toArray) rfl (by kernel_rfl) (by kernel_rfl) (by kernel_rfl) (fun _ _ _ h => h) (yieldsIf_load_mid (by rfl) _ _ rfl _ _ rfl _ _ (fun w h => h.1) uD rfl iD) hS0 ?_
            try simp only [Act.put, List.setIfInBounds_toArray, List.set_cons_zero, List.set_cons_succ]
            refine wpAnyH_take (i := 1) (oi := { dst := some 113, op := .move (.tmp 1), type := 3, pos := "outright.go:67", after := #[], guard := none }) (v := .int .i64 h) rfl (by kernel_rfl) (by kernel_rfl) (by kernel_rfl) (fun _ _ _ h => h) (Or.inl ⟨by rfl, by intro w hSw; clear hSw; go_simp⟩) hS0 ?_
            try simp only [Act.put, List.setIfInBounds_toArray, List.set_cons_zero, List.set_cons_succ]
            refine wpAnyH_take (i := 6) (oi := { dst := some 118, op := .load 24 (.tmp 3), type := 24, pos := "outright.go:67", after := #[], guard := none }) (v := .agg D.toArray) rfl (by kernel_rfl) (by kernel_rfl) (by kernel_rfl) (fun _ _ _ h => h) (yieldsIf_load_mid (by rfl) _ _ rfl _ _ rfl _ _ (fun w h => h.1) uD rfl iD) hS0 ?_
            try simp only [Act.put, List.setIfInBounds_toArray, List.set_cons_zero, List.set_cons_succ]
            refine wpAnyH_take (i := 7) (oi := { dst := some 119, op := .move (.tmp 1), type := 3, pos := "outright.go:67", after := #[], guard := none }) (v := .int .i64 h) rfl (by kernel_rfl) (by kernel_rfl) (by kernel_rfl) (fun _ _ _ h => h) (Or.inl ⟨by rfl, by intro w hSw; clear hSw; go_simp⟩) hS0 ?_
            try simp only [Act.put, List.setIfInBounds_toArray, List.set_cons_zero, List.set_cons_succ]
            refine wpAnyH_take (i := 8) (oi := { dst := some 120, op := .binOp .add 3 (.tmp 119) (.const (Value.int IntKind.i64 1)) 3, type := 3, pos := "outright.go:67", after := #[{ on := 7, ground := .data }], guard := none }) (v := .int .i64 (h + 1)) rfl (by kernel_rfl) (by kernel_rfl) (by kernel_rfl) (fun _ _ _ h => h) (Or.inl ⟨by rfl, by intro w hSw; clear hSw; go_simp⟩) hS0 ?_
            try simp only [Act.put, List.setIfInBounds_toArray, List.set_cons_zero, List.set_cons_succ]
            refine wpAnyH_ready (rs := [2]) (by kernel_rfl) (by simp) ?_
            refine AllReadyH.cons (o := { dst := some 114, op := .call { callee := .value (.func 12), args := #[.tmp 112, .tmp 113], argTypes := #[24, 3] }, type := 26, pos := "outright.go:67", after := #[{ on := 0, ground := .data }, { on := 1, ground := .data }], guard := none }) rfl (fun K hK => ?_) AllReadyH.nil
            go_simp
            refine (C7.out _).mono ?_
            rintro e v1 ⟨rfl, k1⟩
            go_wp2_with fail
            refine hK.out _ _ (KEEP.out _ _ hS0 k1) (fun hS1 => ?_)
            clear hK K
            try simp only [Act.put, List.setIfInBounds_toArray, List.set_cons_zero, List.set_cons_succ]
            refine wpAnyH_take (i := 3) (oi := { dst := some 115, op := .extract (.tmp 114) 0, type := 3, pos := "outright.go:67", after := #[{ on := 2, ground := .data }], guard := none }) (v := .int .i64 f0) rfl (by kernel_rfl) (by kernel_rfl) (by kernel_rfl) (fun _ _ _ h => h) (Or.inl ⟨by rfl, by intro w hSw; clear hSw; go_simp⟩) hS1 ?_
            try simp only [Act.put, List.setIfInBounds_toArray, List.set_cons_zero, List.set_cons_succ]
            refine wpAnyH_take (i := 4) (oi := { dst := some 116, op := .extract (.tmp 114) 1, type := 25, pos := "outright.go:67", after := #[{ on := 2, ground := .data }], guard := none }) (v := .int .i64 0) rfl (by kernel_rfl) (by kernel_rfl) (by kernel_rfl) (fun _ _ _ h => h) (Or.inl ⟨by rfl, by intro w hSw; clear hSw; go_simp⟩) hS1 ?_
            try simp only [Act.put, List.setIfInBounds_toArray, List.set_cons_zero, List.set_cons_succ]
            refine wpAnyH_ready (rs := [5]) (by kernel_rfl) (by simp) ?_
            refine AllReadyH.cons (o := { dst := some 117, op := .call { callee := .value (.func 30), args := #[.tmp 115, .tmp 116], argTypes := #[3, 25] }, type := 3, pos := "outright.go:67", after := #[{ on := 3, ground := .data }, { on := 4, ground := .data }, { on := 2, ground := .chain }], guard := none }) rfl (fun K hK => ?_) AllReadyH.nil
            go_simp
            refine (N2.out _).mono ?_
            rintro e v2 ⟨rfl, rfl⟩
            go_wp2_with fail
            refine hK.out _ _ (hS1) (fun hS2 => ?_)
            clear hK K
            try simp only [Act.put, List.setIfInBounds_toArray, List.set_cons_zero, List.set_cons_succ]
            refine wpAnyH_ready (rs := [9]) (by kernel_rfl) (by simp) ?_
            refine AllReadyH.cons (o := { dst := some 121, op := .call { callee := .value (.func 12), args := #[.tmp 118, .tmp 120], argTypes := #[24, 3] }, type := 26, pos := "outright.go:67", after := #[{ on := 6, ground := .data }, { on := 8, ground := .data }, { on := 5, ground := .chain }], guard := none }) rfl (fun K hK => ?_) AllReadyH.nil
            go_simp
            refine (C8.out _).mono ?_
            rintro e v3 ⟨rfl, k3⟩
            go_wp2_with fail
            refine hK.out _ _ (KEEP.out _ _ hS2 k3) (fun hS3 => ?_)
            clear hK K
            try simp only [Act.put, List.setIfInBounds_toArray, List.set_cons_zero, List.set_cons_succ]
            refine wpAnyH_take (i := 10) (oi := { dst := some 122, op := .extract (.tmp 121) 0, type := 3, pos := "outright.go:67", after := #[{ on := 9, ground := .data }], guard := none }) (v := .int .i64 f1) rfl (by kernel_rfl) (by kernel_rfl) (by kernel_rfl) (fun _ _ _ h => h) (Or.inl ⟨by rfl, by intro w hSw; clear hSw; go_simp⟩) hS3 ?_
            try simp only [Act.put, List.setIfInBounds_toArray, List.set_cons_zero, List.set_cons_succ]
            refine wpAnyH_take (i := 11) (oi := { dst := some 123, op := .extract (.tmp 121) 1, type := 25, pos := "outright.go:67", after := #[{ on := 9, ground := .data }], guard := none }) (v := .int .i64 0) rfl (by kernel_rfl) (by kernel_rfl) (by kernel_rfl) (fun _ _ _ h => h) (Or.inl ⟨by rfl, by intro w hSw; clear hSw; go_simp⟩) hS3 ?_
            try simp only [Act.put, List.setIfInBounds_toArray, List.set_cons_zero, List.set_cons_succ]
            refine wpAnyH_ready (rs := [12]) (by kernel_rfl) (by simp) ?_
            refine AllReadyH.cons (o := { dst := some 124, op := .call { callee := .value (.func 30), args := #[.tmp 122, .tmp 123], argTypes := #[3, 25] }, type := 3, pos := "outright.go:67", after := #[{ on := 10, ground := .data }, { on := 11, ground := .data }, { on := 9, ground := .chain }], guard := none }) rfl (fun K hK => ?_) AllReadyH.nil
            go_simp
            refine (N3.out _).mono ?_
            rintro e v4 ⟨rfl, rfl⟩
            go_wp2_with fail
            refine hK.out _ _ (hS3) (fun hS4 => ?_)
            clear hK K
            try simp only [Act.put, List.setIfInBounds_toArray, List.set_cons_zero, List.set_cons_succ]
            refine wpAnyH_take (i := 13) (oi := { dst := some 20, op := .assign (.tmp 117), type := 3, pos := "outright.go:67", after := #[{ on := 5, ground := .data }, { on := 12, ground := .chain }, { on := 0, ground := .phase }, { on := 1, ground := .phase }, { on := 2, ground := .phase }, { on := 3, ground := .phase }, { on := 4, ground := .phase }, { on := 5, ground := .phase }, { on := 6, ground := .textOnly .lateStores }, { on := 7, ground := .textOnly .lateStores }, { on := 8, ground := .textOnly .lateStores }, { on := 9, ground := .textOnly .lateStoresUnsure }, { on := 10, ground := .textOnly .lateStores }, { on := 11, ground := .textOnly .lateStores }, { on := 12, ground := .textOnly .lateStoresUnsure }], guard := none }) (v := .int .i64 f0) rfl (by kernel_rfl) (by kernel_rfl) (by kernel_rfl) (fun _ _ _ h => h) (Or.inl ⟨by rfl, by intro w hSw; clear hSw; go_simp⟩) hS4 ?_
            try simp only [Act.put, List.setIfInBounds_toArray, List.set_cons_zero, List.set_cons_succ]
            refine wpAnyH_take (i := 14) (oi := { dst := some 21, op := .assign (.tmp 124), type := 3, pos := "outright.go:67", after := #[{ on := 12, ground := .data }, { on := 13, ground := .chain }, { on := 0, ground := .phase }, { on := 1, ground := .phase }, { on := 2, ground := .phase }, { on := 3, ground := .phase }, { on := 4, ground := .phase }, { on := 5, ground := .phase }, { on := 6, ground := .phase }, { on := 7, ground := .phase }, { on := 8, ground := .phase }, { on := 9, ground := .phase }, { on := 10, ground := .phase }, { on := 11, ground := .phase }, { on := 12, ground := .phase }, { on := 13, ground := .phase }], guard := none }) (v := .int .i64 f1) rfl (by kernel_rfl) (by kernel_rfl) (by kernel_rfl) (fun _ _ _ h => h) (Or.inl ⟨by rfl, by intro w hSw; clear hSw; go_simp⟩) hS4 ?_
            try simp only [Act.put, List.setIfInBounds_toArray, List.set_cons_zero, List.set_cons_succ]
            refine wpAnyH_done (by kernel_rfl) ?_ _
            have BB := Lib.hid hS4.2
            clear hS0 hS1 hS2 hS3 hS4 KEEP uD
            go_wp2_with fail
            go_ret
            exact ⟨rfl, BB.out⟩
        · have g5b : decide (c ≤ h) = false := decide_eq_false g5
          by_cases hm : h = 4294967296
          · subst hm
            go_wp2_with fail
            go_ret
            exact ⟨rfl, B6.out⟩
          · have s0 := F.out.low0
            have s1 := F.out.low1
            obtain ⟨s2, s3⟩ := F.out.low2 hm
            have s4 := F.out.fl0
            have s5 := F.out.fl1
            obtain ⟨s6, s7⟩ := F.out.fl2 hm
            rw [F.out.next hm] at C6 C8
            obtain ⟨l0, hl0⟩ : ∃ k_, lowN x h = k_ := ⟨_, rfl⟩
            obtain ⟨l1, hl1⟩ : ∃ k_, lowN x (h + 1) = k_ := ⟨_, rfl⟩
            obtain ⟨f0, hf0⟩ : ∃ k_, flN x h = k_ := ⟨_, rfl⟩
            obtain ⟨f1, hf1⟩ : ∃ k_, flN x (h + 1) = k_ := ⟨_, rfl⟩
            rw [hl0] at C5 s0 s1 s2 s3
            rw [hl1] at C6 s2 s3
            rw [hf0] at C7 s4 s5 s6 s7
            rw [hf1] at C8 s6 s7
            have N0 := Lib.hid (fun V => num l0 0 V (by decide))
            have N1 := Lib.hid (fun V => num l1 0 V (by decide))
            have N2 := Lib.hid (fun V => num f0 0 V (by decide))
            have N3 := Lib.hid (fun V => num f1 0 V (by decide))
            rw [show nu l0 0 = l0 from rfl] at N0
            rw [show nu l1 0 = l1 from rfl] at N1
            rw [show nu f0 0 = f0 from rfl] at N2
            rw [show nu f1 0 = f1 from rfl] at N3
            clear hl0 hl1 hf0 hf1
            have x1 : IntKind.i64.wrap (h + 1) = h + 1 := wrapI _ (by omega) (by omega)
            go_upto_region 16 with fail
            have uD := Try.underlying24
            have KEEP := Lib.hid (show ∀ V V' : World, (V.rangeAt p 0 D ∧ Bel w V) → Bel V V' → (V'.rangeAt p 0 D ∧ Bel w V') from fun V V' h hb => ⟨rng_bel h.1 hb, h.2.trans hb⟩)
            refine wp_region_held_drew (S := fun V => V.rangeAt p 0 D ∧ Bel w V) (by kernel_rfl) ⟨rng_bel R6.out (Bel.refl _).drew, B6.out.drew⟩ (fun hS0 => ?_)
            obtain ⟨w6, hw6⟩ : ∃ w6, v6.drew = w6 := ⟨_, rfl⟩
            rw [hw6] at hS0 ⊢
            clear hw6
            refine wpAnyH_take (i := 0) (oi := { dst := some 99, op := .load 24 (.tmp 3), type := 24, pos := "outright.go:66", after := #[], guard := none }) (v := .agg D.toArray) rfl (by kernel_rfl) (by kernel_rfl) (by kernel_rfl) (fun _ _ _ h => h) (yieldsIf_load_mid (by rfl) _ _ rfl _ _ rfl _ _ (fun w h => h.1) uD rfl iD) hS0 ?_
            try simp only [Act.put, List.setIfInBounds_toArray, List.set_cons_zero, List.set_cons_succ]
            refine wpAnyH_take (i := 1) (oi := { dst := some 100, op := .move (.tmp 1), type := 3, pos := "outright.go:66", after := #[], guard := none }) (v := .int .i64 h) rfl (by kernel_rfl) (by kernel_rfl) (by kernel_rfl) (fun _ _ _ h => h) (Or.inl ⟨by rfl, by intro w hSw; clear hSw; go_simp⟩) hS0 ?_
            try simp only [Act.put, List.setIfInBounds_toArray, List.set_cons_zero, List.set_cons_succ]
            refine wpAnyH_take (i := 6) (oi := { dst := some 105, op := .load 24 (.tmp 3), type := 24, pos := "outright.go:66", after := #[], guard := none }) (v := .agg D.toArray) rfl (by kernel_rfl) (by kernel_rfl) (by kernel_rfl) (fun _ _ _ h => h) (yieldsIf_load_mid (by rfl) _ _ rfl _ _ rfl _ _ (fun w h => h.1) uD rfl iD) hS0 ?_
            try simp only [Act.put, List.setIfInBounds_toArray, List.set_cons_zero, List.set_cons_succ]
            refine wpAnyH_take (i := 7) (oi := { dst := some 106, op := .move (.tmp 1), type := 3, pos := "outright.go:66", after := #[], guard := none }) (v := .int .i64 h) rfl (by kernel_rfl) (by kernel_rfl) (by kernel_rfl) (fun _ _ _ h => h) (Or.inl ⟨by rfl, by intro w hSw; clear hSw; go_simp⟩) hS0 ?_
            try simp only [Act.put, List.setIfInBounds_toArray, List.set_cons_zero, List.set_cons_succ]
            refine wpAnyH_take (i := 8) (oi := { dst := some 107, op := .binOp .add 3 (.tmp 106) (.const (Value.int IntKind.i64 1)) 3, type := 3, pos := "outright.go:66", after := #[{ on := 7, ground := .data }], guard := none }) (v := .int .i64 (h + 1)) rfl (by kernel_rfl) (by kernel_rfl) (by kernel_rfl) (fun _ _ _ h => h) (Or.inl ⟨by rfl, by intro w hSw; clear hSw; go_simp⟩) hS0 ?_
            try simp only [Act.put, List.setIfInBounds_toArray, List.set_cons_zero, List.set_cons_succ]
            refine wpAnyH_ready (rs := [2]) (by kernel_rfl) (by simp) ?_
            refine AllReadyH.cons (o := { dst := some 101, op := .call { callee := .value (.func 10), args := #[.tmp 99, .tmp 100], argTypes := #[24, 3] }, type := 26, pos := "outright.go:66", after := #[{ on := 0, ground := .data }, { on := 1, ground := .data }], guard := none }) rfl (fun K hK => ?_) AllReadyH.nil
            go_simp
            refine (C5.out _).mono ?_
            rintro e v1 ⟨rfl, k1⟩
            go_wp2_with fail
            refine hK.out _ _ (KEEP.out _ _ hS0 k1) (fun hS1 => ?_)
            clear hK K
            try simp only [Act.put, List.setIfInBounds_toArray, List.set_cons_zero, List.set_cons_succ]
            refine wpAnyH_take (i := 3) (oi := { dst := some 102, op := .extract (.tmp 101) 0, type := 3, pos := "outright.go:66", after := #[{ on := 2, ground := .data }], guard := none }) (v := .int .i64 l0) rfl (by kernel_rfl) (by kernel_rfl) (by kernel_rfl) (fun _ _ _ h => h) (Or.inl ⟨by rfl, by intro w hSw; clear hSw; go_simp⟩) hS1 ?_
            try simp only [Act.put, List.setIfInBounds_toArray, List.set_cons_zero, List.set_cons_succ]
            refine wpAnyH_take (i := 4) (oi := { dst := some 103, op := .extract (.tmp 101) 1, type := 25, pos := "outright.go:66", after := #[{ on := 2, ground := .data }], guard := none }) (v := .int .i64 0) rfl (by kernel_rfl) (by kernel_rfl) (by kernel_rfl) (fun _ _ _ h => h) (Or.inl ⟨by rfl, by intro w hSw; clear hSw; go_simp⟩) hS1 ?_
            try simp only [Act.put, List.setIfInBounds_toArray, List.set_cons_zero, List.set_cons_succ]
            refine wpAnyH_ready (rs := [5]) (by kernel_rfl) (by simp) ?_
            refine AllReadyH.cons (o := { dst := some 104, op := .call { callee := .value (.func 30), args := #[.tmp 102, .tmp 103], argTypes := #[3, 25] }, type := 3, pos := "outright.go:66", after := #[{ on := 3, ground := .data }, { on := 4, ground := .data }, { on := 2, ground := .chain }], guard := none }) rfl (fun K hK => ?_) AllReadyH.nil
            go_simp
            refine (N0.out _).mono ?_
            rintro e v2 ⟨rfl, rfl⟩
            go_wp2_with fail
            refine hK.out _ _ (hS1) (fun hS2 => ?_)
            clear hK K
            try simp only [Act.put, List.setIfInBounds_toArray, List.set_cons_zero, List.set_cons_succ]
            refine wpAnyH_ready (rs := [9]) (by kernel_rfl) (by simp) ?_
            refine AllReadyH.cons (o := { dst := some 108, op := .call { callee := .value (.func 10), args := #[.tmp 105, .tmp 107], argTypes := #[24, 3] }, type := 26, pos := "outright.go:66", after := #[{ on := 6, ground := .data }, { on := 8, ground := .data }, { on := 5, ground := .chain }], guard := none }) rfl (fun K hK => ?_) AllReadyH.nil
            go_simp
            refine (C6.out _).mono ?_
            rintro e v3 ⟨rfl, k3⟩
            go_wp2_with fail
            refine hK.out _ _ (KEEP.out _ _ hS2 k3) (fun hS3 => ?_)
            clear hK K
            try simp only [Act.put, List.setIfInBounds_toArray, List.set_cons_zero, List.set_cons_succ]
            refine wpAnyH_take (i := 10) (oi := { dst := some 109, op := .extract (.tmp 108) 0, type := 3, pos := "outright.go:66", after := #[{ on := 9, ground := .data }], guard := none }) (v := .int .i64 l1) rfl (by kernel_rfl) (by kernel_rfl) (by kernel_rfl) (fun _ _ _ h => h) (Or.inl ⟨by rfl, by intro w hSw; clear hSw; go_simp⟩) hS3 ?_
            try simp only [Act.put, List.setIfInBounds_toArray, List.set_cons_zero, List.set_cons_succ]
            refine wpAnyH_take (i := 11) (oi := { dst := some 110, op := .extract (.tmp 108) 1, type := 25, pos := "outright.go:66", after := #[{ on := 9, ground := .data }], guard := none }) (v := .int .i64 0) rfl (by kernel_rfl) (by kernel_rfl) (by kernel_rfl) (fun _ _ _ h => h) (Or.inl ⟨by rfl, by intro w hSw; clear hSw; go_simp⟩) hS3 ?_
            try simp only [Act.put, List.setIfInBounds_toArray, List.set_cons_zero, List.set_cons_succ]
            refine wpAnyH_ready (rs := [12]) (by kernel_rfl) (by simp) ?_
            refine AllReadyH.cons (o := { dst := some 111, op := .call { callee := .value (.func 30), args := #[.tmp 109, .tmp 110], argTypes := #[3, 25] }, type := 3, pos := "outright.go:66", after := #[{ on := 10, ground := .data }, { on := 11, ground := .data }, { on := 9, ground := .chain }], guard := none }) rfl (fun K hK => ?_) AllReadyH.nil
            go_simp
            refine (N1.out _).mono ?_
            rintro e v4 ⟨rfl, rfl⟩
            go_wp2_with fail
            refine hK.out _ _ (hS3) (fun hS4 => ?_)
            clear hK K
            try simp only [Act.put, List.setIfInBounds_toArray, List.set_cons_zero, List.set_cons_succ]
            refine wpAnyH_take (i := 13) (oi := { dst := some 18, op := .assign (.tmp 104), type := 3, pos := "outright.go:66", after := #[{ on := 5, ground := .data }, { on := 12, ground := .chain }, { on := 0, ground := .phase }, { on := 1, ground := .phase }, { on := 2, ground := .phase }, { on := 3, ground := .phase }, { on := 4, ground := .phase }, { on := 5, ground := .phase }, { on := 6, ground := .textOnly .lateStores }, { on := 7, ground := .textOnly .lateStores }, { on := 8, ground := .textOnly .lateStores }, { on := 9, ground := .textOnly .lateStoresUnsure }, { on := 10, ground := .textOnly .lateStores }, { on := 11, ground := .textOnly .lateStores }, { on := 12, ground := .textOnly .lateStoresUnsure }], guard := none }) (v := .int .i64 l0) rfl (by kernel_rfl) (by kernel_rfl) (by kernel_rfl) (fun _ _ _ h => h) (Or.inl ⟨by rfl, by intro w hSw; clear hSw; go_simp⟩) hS4 ?_
            try simp only [Act.put, List.setIfInBounds_toArray, List.set_cons_zero, List.set_cons_succ]
            refine wpAnyH_take (i := 14) (oi := { dst := some 19, op := .assign (.tmp 111), type := 3, pos := "outright.go:66", after := #[{ on := 12, ground := .data }, { on := 13, ground := .chain }, { on := 0, ground := .phase }, { on := 1, ground := .phase }, { on := 2, ground := .phase }, { on := 3, ground := .phase }, { on := 4, ground := .phase }, { on := 5, ground := .phase }, { on := 6, ground := .phase }, { on := 7, ground := .phase }, { on := 8, ground := .phase }, { on := 9, ground := .phase }, { on := 10, ground := .phase }, { on := 11, ground := .phase }, { on := 12, ground := .phase }, { on := 13, ground := .phase }], guard := none }) (v := .int .i64 l1) rfl (by kernel_rfl) (by kernel_rfl) (by kernel_rfl) (fun _ _ _ h => h) (Or.inl ⟨by rfl, by intro w hSw; clear hSw; go_simp⟩) hS4 ?_
            try simp only [Act.put, List.setIfInBounds_toArray, List.set_cons_zero, List.set_cons_succ]
            refine wpAnyH_done (by kernel_rfl) ?_ _
            have RR := Lib.hid hS4.1
            have BB := Lib.hid hS4.2
            clear hS0 hS1 hS2 hS3 hS4 KEEP uD C5 C6 N0 N1
            go_upto_region 17 with fail
            have uD := Try.underlying24
            have KEEP := Lib.hid (show ∀ V V' : World, (V.rangeAt p 0 D ∧ Bel w V) → Bel V V' → (V'.rangeAt p 0 D ∧ Bel w V') from fun V V' h hb => ⟨rng_bel h.1 hb, h.2.trans hb⟩)
            refine wp_region_held_drew (S := fun V => V.rangeAt p 0 D ∧ Bel w V) (by kernel_rfl) ⟨rng_bel RR.out (Bel.refl _).drew, BB.out.drew⟩ (fun hS0 => ?_)
            refine wpAnyH_take (i := 0) (oi := { dst := some 112, op := .load 24 (.tmp 3), type := 24, pos := "outright.go:67", after := #[], guard := none }) (v := .agg D.toArray) rfl (by kernel_rfl) (by kernel_rfl) (by kernel_rfl) (fun _ _ _ h => h) (yieldsIf_load_mid (by rfl) _ _ rfl _ _ rfl _ _ (fun w h => h.1) uD rfl iD) hS0 ?_
            try simp only [Act.put, List.setIfInBounds_toArray, List.set_cons_zero, List.set_cons_succ]
            refine wpAnyH_take (i := 1) (oi := { dst := some 113, op := .move (.tmp 1), type := 3, pos := "outright.go:67", after := #[], guard := none }) (v := .int .i64 h) rfl (by kernel_rfl) (by kernel_rfl) (by kernel_rfl) (fun _ _ _ h => h) (Or.inl ⟨by rfl, by intro w hSw; clear hSw; go_simp⟩) hS0 ?_
            try simp only [Act.put, List.setIfInBounds_toArray, List.set_cons_zero, List.set_cons_succ]
            refine wpAnyH_take (i := 6) (oi := { dst := some 118, op := .load 24 (.tmp 3), type := 24, pos := "outright.go:67", after := #[], guard := none }) (v := .agg D.toArray) rfl (by kernel_rfl) (by kernel_rfl) (by kernel_rfl) (fun _ _ _ h => h) (yieldsIf_load_mid (by rfl) _ _ rfl _ _ rfl _ _ (fun w h => h.1) uD rfl iD) hS0 ?_
            try simp only [Act.put, List.setIfInBounds_toArray, List.set_cons_zero, List.set_cons_succ]
            refine wpAnyH_take (i := 7) (oi := { dst := some 119, op := .move (.tmp 1), type := 3, pos := "outright.go:67", after := #[], guard := none }) (v := .int .i64 h) rfl (by kernel_rfl) (by kernel_rfl) (by kernel_rfl) (fun _ _ _ h => h) (Or.inl ⟨by rfl, by intro w hSw; clear hSw; go_simp⟩) hS0 ?_
            try simp only [Act.put, List.setIfInBounds_toArray, List.set_cons_zero, List.set_cons_succ]
            refine wpAnyH_take (i := 8) (oi := { dst := some 120, op := .binOp .add 3 (.tmp 119) (.const (Value.int IntKind.i64 1)) 3, type := 3, pos := "outright.go:67", after := #[{ on := 7, ground := .data }], guard := none }) (v := .int .i64 (h + 1)) rfl (by kernel_rfl) (by kernel_rfl) (by kernel_rfl) (fun _ _ _ h => h) (Or.inl ⟨by rfl, by intro w hSw; clear hSw; go_simp⟩) hS0 ?_
            try simp only [Act.put, List.setIfInBounds_toArray, List.set_cons_zero, List.set_cons_succ]
            refine wpAnyH_ready (rs := [2]) (by kernel_rfl) (by simp) ?_
            refine AllReadyH.cons (o := { dst := some 114, op := .call { callee := .value (.func 12), args := #[.tmp 112, .tmp 113], argTypes := #[24, 3] }, type := 26, pos := "outright.go:67", after := #[{ on := 0, ground := .data }, { on := 1, ground := .data }], guard := none }) rfl (fun K hK => ?_) AllReadyH.nil
            go_simp
            refine (C7.out _).mono ?_
            rintro e v1 ⟨rfl, k1⟩
            go_wp2_with fail
            refine hK.out _ _ (KEEP.out _ _ hS0 k1) (fun hS1 => ?_)
            clear hK K
            try simp only [Act.put, List.setIfInBounds_toArray, List.set_cons_zero, List.set_cons_succ]
            refine wpAnyH_take (i := 3) (oi := { dst := some 115, op := .extract (.tmp 114) 0, type := 3, pos := "outright.go:67", after := #[{ on := 2, ground := .data }], guard := none }) (v := .int .i64 f0) rfl (by kernel_rfl) (by kernel_rfl) (by kernel_rfl) (fun _ _ _ h => h) (Or.inl ⟨by rfl, by intro w hSw; clear hSw; go_simp⟩) hS1 ?_
            try simp only [Act.put, List.setIfInBounds_toArray, List.set_cons_zero, List.set_cons_succ]
            refine wpAnyH_take (i := 4) (oi := { dst := some 116, op := .extract (.tmp 114) 1, type := 25, pos := "outright.go:67", after := #[{ on := 2, ground := .data }], guard := none }) (v := .int .i64 0) rfl (by kernel_rfl) (by kernel_rfl) (by kernel_rfl) (fun _ _ _ h => h) (Or.inl ⟨by rfl, by intro w hSw; clear hSw; go_simp⟩) hS1 ?_
            try simp only [Act.put, List.setIfInBounds_toArray, List.set_cons_zero, List.set_cons_succ]
            refine wpAnyH_ready (rs := [5]) (by kernel_rfl) (by simp) ?_
            refine AllReadyH.cons (o := { dst := some 117, op := .call { callee := .value (.func 30), args := #[.tmp 115, .tmp 116], argTypes := #[3, 25] }, type := 3, pos := "outright.go:67", after := #[{ on := 3, ground := .data }, { on := 4, ground := .data }, { on := 2, ground := .chain }], guard := none }) rfl (fun K hK => ?_) AllReadyH.nil
            go_simp
            refine (N2.out _).mono ?_
            rintro e v2 ⟨rfl, rfl⟩
            go_wp2_with fail
            refine hK.out _ _ (hS1) (fun hS2 => ?_)
            clear hK K
            try simp only [Act.put, List.setIfInBounds_toArray, List.set_cons_zero, List.set_cons_succ]
            refine wpAnyH_ready (rs := [9]) (by kernel_rfl) (by simp) ?_
            refine AllReadyH.cons (o := { dst := some 121, op := .call { callee := .value (.func 12), args := #[.tmp 118, .tmp 120], argTypes := #[24, 3] }, type := 26, pos := "outright.go:67", after := #[{ on := 6, ground := .data }, { on := 8, ground := .data }, { on := 5, ground := .chain }], guard := none }) rfl (fun K hK => ?_) AllReadyH.nil
            go_simp
            refine (C8.out _).mono ?_
            rintro e v3 ⟨rfl, k3⟩
            go_wp2_with fail
            refine hK.out _ _ (KEEP.out _ _ hS2 k3) (fun hS3 => ?_)
            clear hK K
            try simp only [Act.put, List.setIfInBounds_toArray, List.set_cons_zero, List.set_cons_succ]
            refine wpAnyH_take (i := 10) (oi := { dst := some 122, op := .extract (.tmp 121) 0, type := 3, pos := "outright.go:67", after := #[{ on := 9, ground := .data }], guard := none }) (v := .int .i64 f1) rfl (by kernel_rfl) (by kernel_rfl) (by kernel_rfl) (fun _ _ _ h => h) (Or.inl ⟨by rfl, by intro w hSw; clear hSw; go_simp⟩) hS3 ?_
            try simp only [Act.put, List.setIfInBounds_toArray, List.set_cons_zero, List.set_cons_succ]
            refine wpAnyH_take (i := 11) (oi := { dst := some 123, op := .extract (.tmp 121) 1, type := 25, pos := "outright.go:67", after := #[{ on := 9, ground := .data }], guard := none }) (v := .int .i64 0) rfl (by kernel_rfl) (by kernel_rfl) (by kernel_rfl) (fun _ _ _ h => h) (Or.inl ⟨by rfl, by intro w hSw; clear hSw; go_simp⟩) hS3 ?_
            try simp only [Act.put, List.setIfInBounds_toArray, List.set_cons_zero, List.set_cons_succ]
            refine wpAnyH_ready (rs := [12]) (by kernel_rfl) (by simp) ?_
            refine AllReadyH.cons (o := { dst := some 124, op := .call { callee := .value (.func 30), args := #[.tmp 122, .tmp 123], argTypes := #[3, 25] }, type := 3, pos := "outright.go:67", after := #[{ on := 10, ground := .data }, { on := 11, ground := .data }, { on := 9, ground := .chain }], guard := none }) rfl (fun K hK => ?_) AllReadyH.nil
            go_simp
            refine (N3.out _).mono ?_
            rintro e v4 ⟨rfl, rfl⟩
            go_wp2_with fail
            refine hK.out _ _ (hS3) (fun hS4 => ?_)
            clear hK K
            try simp only [Act.put, List.setIfInBounds_toArray, List.set_cons_zero, List.set_cons_succ]
            refine wpAnyH_take (i := 13) (oi := { dst := some 20, op := .assign (.tmp 117), type := 3, pos := "outright.go:67", after := #[{ on := 5, ground := .data }, { on := 12, ground := .chain }, { on := 0, ground := .phase }, { on := 1, ground := .phase }, { on := 2, ground := .phase }, { on := 3, ground := .phase }, { on := 4, ground := .phase }, { on := 5, ground := .phase }, { on := 6, ground := .textOnly .lateStores }, { on := 7, ground := .textOnly .lateStores }, { on := 8, ground := .textOnly .lateStores }, { on := 9, ground := .textOnly .lateStoresUnsure }, { on := 10, ground := .textOnly .lateStores }, { on := 11, ground := .textOnly .lateStores }, { on := 12, ground := .textOnly .lateStoresUnsure }], guard := none }) (v := .int .i64 f0) rfl (by kernel_rfl) (by kernel_rfl) (by kernel_rfl) (fun _ _ _ h => h) (Or.inl ⟨by rfl, by intro w hSw; clear hSw; go_simp⟩) hS4 ?_
            try simp only [Act.put, List.setIfInBounds_toArray, List.set_cons_zero, List.set_cons_succ]
            refine wpAnyH_take (i := 14) (oi := { dst := some 21, op := .assign (.tmp 124), type := 3, pos := "outright.go:67", after := #[{ on := 12, ground := .data }, { on := 13, ground := .chain }, { on := 0, ground := .phase }, { on := 1, ground := .phase }, { on := 2, ground := .phase }, { on := 3, ground := .phase }, { on := 4, ground := .phase }, { on := 5, ground := .phase }, { on := 6, ground := .phase }, { on := 7, ground := .phase }, { on := 8, ground := .phase }, { on := 9, ground := .phase }, { on := 10, ground := .phase }, { on := 11, ground := .phase }, { on := 12, ground := .phase }, { on := 13, ground := .phase }], guard := none }) (v := .int .i64 f1) rfl (by kernel_rfl) (by kernel_rfl) (by kernel_rfl) (fun _ _ _ h => h) (Or.inl ⟨by rfl, by intro w hSw; clear hSw; go_simp⟩) hS4 ?_
            try simp only [Act.put, List.setIfInBounds_toArray, List.set_cons_zero, List.set_cons_succ]
            refine wpAnyH_done (by kernel_rfl) ?_ _
            have BB := Lib.hid hS4.2
            clear hS0 hS1 hS2 hS3 hS4 KEEP uD
            go_wp2_with fail
            go_ret
            exact ⟨rfl, BB.out⟩
    · have kb : (j == 0) = false := by simpa using k0
      by_cases hm : h = 4294967296
      · subst hm
        go_wp2_with fail
        go_ret
        exact ⟨rfl, B5.out⟩
      · have s0 := F.out.low0
        have s1 := F.out.low1
        obtain ⟨s2, s3⟩ := F.out.low2 hm
        have s4 := F.out.fl0
        have s5 := F.out.fl1
        obtain ⟨s6, s7⟩ := F.out.fl2 hm
        rw [F.out.next hm] at C6 C8
        obtain ⟨l0, hl0⟩ : ∃ k_, lowN x h = k_ := ⟨_, rfl⟩
        obtain ⟨l1, hl1⟩ : ∃ k_, lowN x (h + 1) = k_ := ⟨_, rfl⟩
        obtain ⟨f0, hf0⟩ : ∃ k_, flN x h = k_ := ⟨_, rfl⟩
        obtain ⟨f1, hf1⟩ : ∃ k_, flN x (h + 1) = k_ := ⟨_, rfl⟩
        rw [hl0] at C5 s0 s1 s2 s3
        rw [hl1] at C6 s2 s3
        rw [hf0] at C7 s4 s5 s6 s7
        rw [hf1] at C8 s6 s7
        have N0 := Lib.hid (fun V => num l0 0 V (by decide))
        have N1 := Lib.hid (fun V => num l1 0 V (by decide))
        have N2 := Lib.hid (fun V => num f0 0 V (by decide))
        have N3 := Lib.hid (fun V => num f1 0 V (by decide))
        rw [show nu l0 0 = l0 from rfl] at N0
        rw [show nu l1 0 = l1 from rfl] at N1
        rw [show nu f0 0 = f0 from rfl] at N2
        rw [show nu f1 0 = f1 from rfl] at N3
        clear hl0 hl1 hf0 hf1
        have x1 : IntKind.i64.wrap (h + 1) = h + 1 := wrapI _ (by omega) (by omega)
        go_upto_region 16 with fail
        have uD := Try.underlying24
        have KEEP := Lib.hid (show ∀ V V' : World, (V.rangeAt p 0 D ∧ Bel w V) → Bel V V' → (V'.rangeAt p 0 D ∧ Bel w V') from fun V V' h hb => ⟨rng_bel h.1 hb, h.2.trans hb⟩)
        refine wp_region_held_drew (S := fun V => V.rangeAt p 0 D ∧ Bel w V) (by kernel_rfl) ⟨rng_bel R5.out (Bel.refl _).drew, B5.out.drew⟩ (fun hS0 => ?_)
        obtain ⟨w6, hw6⟩ : ∃ w6, v5.drew = w6 := ⟨_, rfl⟩
        rw [hw6] at hS0 ⊢
        clear hw6
        refine wpAnyH_take (i := 0) (oi := { dst := some 99, op := .load 24 (.tmp 3), type := 24, pos := "outright.go:66", after := #[], guard := none }) (v := .agg D.toArray) rfl (by kernel_rfl) (by kernel_rfl) (by kernel_rfl) (fun _ _ _ h => h) (yieldsIf_load_mid (by rfl) _ _ rfl _ _ rfl _ _ (fun w h => h.1) uD rfl iD) hS0 ?_
        try simp only [Act.put, List.setIfInBounds_toArray, List.set_cons_zero, List.set_cons_succ]
        refine wpAnyH_take (i := 1) (oi := { dst := some 100, op := .move (.tmp 1), type := 3, pos := "outright.go:66", after := #[], guard := none }) (v := .int .i64 h) rfl (by kernel_rfl) (by kernel_rfl) (by kernel_rfl) (fun _ _ _ h => h) (Or.inl ⟨by rfl, by intro w hSw; clear hSw; go_simp⟩) hS0 ?_
        try simp only [Act.put, List.setIfInBounds_toArray, List.set_cons_zero, List.set_cons_succ]
        refine wpAnyH_take (i := 6) (oi := { dst := some 105, op := .load 24 (.tmp 3), type := 24, pos := "outright.go:66", after := #[], guard := none }) (v := .agg D.toArray) rfl (by kernel_rfl) (by kernel_rfl) (by kernel_rfl) (fun _ _ _ h => h) (yieldsIf_load_mid (by rfl) _ _ rfl _ _ rfl _ _ (fun w h => h.1) uD rfl iD) hS0 ?_
        try simp only [Act.put, List.setIfInBounds_toArray, List.set_cons_zero, List.set_cons_succ]
        refine wpAnyH_take (i := 7) (oi := { dst := some 106, op := .move (.tmp 1), type := 3, pos := "outright.go:66", after := #[], guard := none }) (v := .int .i64 h) rfl (by kernel_rfl) (by kernel_rfl) (by kernel_rfl) (fun _ _ _ h => h) (Or.inl ⟨by rfl, by intro w hSw; clear hSw; go_simp⟩) hS0 ?_
        try simp only [Act.put, List.setIfInBounds_toArray, List.set_cons_zero, List.set_cons_succ]
        refine wpAnyH_take (i := 8) (oi := { dst := some 107, op := .binOp .add 3 (.tmp 106) (.const (Value.int IntKind.i64 1)) 3, type := 3, pos := "outright.go:66", after := #[{ on := 7, ground := .data }], guard := none }) (v := .int .i64 (h + 1)) rfl (by kernel_rfl) (by kernel_rfl) (by kernel_rfl) (fun _ _ _ h => h) (Or.inl ⟨by rfl, by intro w hSw; clear hSw; go_simp⟩) hS0 ?_
        try simp only [Act.put, List.setIfInBounds_toArray, List.set_cons_zero, List.set_cons_succ]
        refine wpAnyH_ready (rs := [2]) (by kernel_rfl) (by simp) ?_
        refine AllReadyH.cons (o := { dst := some 101, op := .call { callee := .value (.func 10), args := #[.tmp 99, .tmp 100], argTypes := #[24, 3] }, type := 26, pos := "outright.go:66", after := #[{ on := 0, ground := .data }, { on := 1, ground := .data }], guard := none }) rfl (fun K hK => ?_) AllReadyH.nil
        go_simp
        refine (C5.out _).mono ?_
        rintro e v1 ⟨rfl, k1⟩
        go_wp2_with fail
        refine hK.out _ _ (KEEP.out _ _ hS0 k1) (fun hS1 => ?_)
        clear hK K
        try simp only [Act.put, List.setIfInBounds_toArray, List.set_cons_zero, List.set_cons_succ]
        refine wpAnyH_take (i := 3) (oi := { dst := some 102, op := .extract (.tmp 101) 0, type := 3, pos := "outright.go:66", after := #[{ on := 2, ground := .data }], guard := none }) (v := .int .i64 l0) rfl (by kernel_rfl) (by kernel_rfl) (by kernel_rfl) (fun _ _ _ h => h) (Or.inl ⟨by rfl, by intro w hSw; clear hSw; go_simp⟩) hS1 ?_
        try simp only [Act.put, List.setIfInBounds_toArray, List.set_cons_zero, List.set_cons_succ]
        refine wpAnyH_take (i := 4) (oi := { dst := some 103, op := .extract (.tmp 101) 1, type := 25, pos := "outright.go:66", after := #[{ on := 2, ground := .data }], guard := none }) (v := .int .i64 0) rfl (by kernel_rfl) (by kernel_rfl) (by kernel_rfl) (fun _ _ _ h => h) (Or.inl ⟨by rfl, by intro w hSw; clear hSw; go_simp⟩) hS1 ?_
        try simp only [Act.put, List.setIfInBounds_toArray, List.set_cons_zero, List.set_cons_succ]
        refine wpAnyH_ready (rs := [5]) (by kernel_rfl) (by simp) ?_
        refine AllReadyH.cons (o := { dst := some 104, op := .call { callee := .value (.func 30), args := #[.tmp 102, .tmp 103], argTypes := #[3, 25] }, type := 3, pos := "outright.go:66", after := #[{ on := 3, ground := .data }, { on := 4, ground := .data }, { on := 2, ground := .chain }], guard := none }) rfl (fun K hK => ?_) AllReadyH.nil
        go_simp
        refine (N0.out _).mono ?_
        rintro e v2 ⟨rfl, rfl⟩
        go_wp2_with fail
        refine hK.out _ _ (hS1) (fun hS2 => ?_)
        clear hK K
        try simp only [Act.put, List.setIfInBounds_toArray, List.set_cons_zero, List.set_cons_succ]
        refine wpAnyH_ready (rs := [9]) (by kernel_rfl) (by simp) ?_
        refine AllReadyH.cons (o := { dst := some 108, op := .call { callee := .value (.func 10), args := #[.tmp 105, .tmp 107], argTypes := #[24, 3] }, type := 26, pos := "outright.go:66", after := #[{ on := 6, ground := .data }, { on := 8, ground := .data }, { on := 5, ground := .chain }], guard := none }) rfl (fun K hK => ?_) AllReadyH.nil
        go_simp
        refine (C6.out _).mono ?_
        rintro e v3 ⟨rfl, k3⟩
        go_wp2_with fail
        refine hK.out _ _ (KEEP.out _ _ hS2 k3) (fun hS3 => ?_)
        clear hK K
        try simp only [Act.put, List.setIfInBounds_toArray, List.set_cons_zero, List.set_cons_succ]
        refine wpAnyH_take (i := 10) (oi := { dst := some 109, op := .extract (.tmp 108) 0, type := 3, pos := "outright.go:66", after := #[{ on := 9, ground := .data }], guard := none }) (v := .int .i64 l1) rfl (by kernel_rfl) (by kernel_rfl) (by kernel_rfl) (fun _ _ _ h => h) (Or.inl ⟨by rfl, by intro w hSw; clear hSw; go_simp⟩) hS3 ?_
        try simp only [Act.put, List.setIfInBounds_toArray, List.set_cons_zero, List.set_cons_succ]
        refine wpAnyH_take (i := 11) (oi := { dst := some 110, op := .extract (.tmp 108) 1, type := 25, pos := "outright.go:66", after := #[{ on := 9, ground := .data }], guard := none }) (v := .int .i64 0) rfl (by kernel_rfl) (by kernel_rfl) (by kernel_rfl) (fun _ _ _ h => h) (Or.inl ⟨by rfl, by intro w hSw; clear hSw; go_simp⟩) hS3 ?_
        try simp only [Act.put, List.setIfInBounds_toArray, List.set_cons_zero, List.set_cons_succ]
        refine wpAnyH_ready (rs := [12]) (by kernel_rfl) (by simp) ?_
        refine AllReadyH.cons (o := { dst := some 111, op := .call { callee := .value (.func 30), args := #[.tmp 109, .tmp 110], argTypes := #[3, 25] }, type := 3, pos := "outright.go:66", after := #[{ on := 10, ground := .data }, { on := 11, ground := .data }, { on := 9, ground := .chain }], guard := none }) rfl (fun K hK => ?_) AllReadyH.nil
        go_simp
        refine (N1.out _).mono ?_
        rintro e v4 ⟨rfl, rfl⟩
        go_wp2_with fail
        refine hK.out _ _ (hS3) (fun hS4 => ?_)
        clear hK K
        try simp only [Act.put, List.setIfInBounds_toArray, List.set_cons_zero, List.set_cons_succ]
        refine wpAnyH_take (i := 13) (oi := { dst := some 18, op := .assign (.tmp 104), type := 3, pos := "outright.go:66", after := #[{ on := 5, ground := .data }, { on := 12, ground := .chain }, { on := 0, ground := .phase }, { on := 1, ground := .phase }, { on := 2, ground := .phase }, { on := 3, ground := .phase }, { on := 4, ground := .phase }, { on := 5, ground := .phase }, { on := 6, ground := .textOnly .lateStores }, { on := 7, ground := .textOnly .lateStores }, { on := 8, ground := .textOnly .lateStores }, { on := 9, ground := .textOnly .lateStoresUnsure }, { on := 10, ground := .textOnly .lateStores }, { on := 11, ground := .textOnly .lateStores }, { on := 12, ground := .textOnly .lateStoresUnsure }], guard := none }) (v := .int .i64 l0) rfl (by kernel_rfl) (by kernel_rfl) (by kernel_rfl) (fun _ _ _ h => h) (Or.inl ⟨by rfl, by intro w hSw; clear hSw; go_simp⟩) hS4 ?_
        try simp only [Act.put, List.setIfInBounds_toArray, List.set_cons_zero, List.set_cons_succ]
        refine wpAnyH_take (i := 14) (oi := { dst := some 19, op := .assign (.tmp 111), type := 3, pos := "outright.go:66", after := #[{ on := 12, ground := .data }, { on := 13, ground := .chain }, { on := 0, ground := .phase }, { on := 1, ground := .phase }, { on := 2, ground := .phase }, { on := 3, ground := .phase }, { on := 4, ground := .phase }, { on := 5, ground := .phase }, { on := 6, ground := .phase }, { on := 7, ground := .phase }, { on := 8, ground := .phase }, { on := 9, ground := .phase }, { on := 10, ground := .phase }, { on := 11, ground := .phase }, { on := 12, ground := .phase }, { on := 13, ground := .phase }], guard := none }) (v := .int .i64 l1) rfl (by kernel_rfl) (by kernel_rfl) (by kernel_rfl) (fun _ _ _ h => h) (Or.inl ⟨by rfl, by intro w hSw; clear hSw; go_simp⟩) hS4 ?_
        try simp only [Act.put, List.setIfInBounds_toArray, List.set_cons_zero, List.set_cons_succ]
        refine wpAnyH_done (by kernel_rfl) ?_ _
        have RR := Lib.hid hS4.1
        have BB := Lib.hid hS4.2
        clear hS0 hS1 hS2 hS3 hS4 KEEP uD C5 C6 N0 N1
        go_upto_region 17 with fail
        have uD := Try.underlying24
        have KEEP := Lib.hid (show ∀ V V' : World, (V.rangeAt p 0 D ∧ Bel w V) → Bel V V' → (V'.rangeAt p 0 D ∧ Bel w V') from fun V V' h hb => ⟨rng_bel h.1 hb, h.2.trans hb⟩)
        refine wp_region_held_drew (S := fun V => V.rangeAt p 0 D ∧ Bel w V) (by kernel_rfl) ⟨rng_bel RR.out (Bel.refl _).drew, BB.out.drew⟩ (fun hS0 => ?_)
        refine wpAnyH_take (i := 0) (oi := { dst := some 112, op := .load 24 (.tmp 3), type := 24, pos := "outright.go:67", after := #[], guard := none }) (v := .agg D.toArray) rfl (by kernel_rfl) (by kernel_rfl) (by kernel_rfl) (fun _ _ _ h => h) (yieldsIf_load_mid (by rfl) _ _ rfl _ _ rfl _ _ (fun w h => h.1) uD rfl iD) hS0 ?_
        try simp only [Act.put, List.setIfInBounds_toArray, List.set_cons_zero, List.set_cons_succ]
        refine wpAnyH_take (i := 1) (oi := { dst := some 113, op := .move (.tmp 1), type := 3, pos := "outright.go:67", after := #[], guard := none }) (v := .int .i64 h) rfl (by kernel_rfl) (by kernel_rfl) (by kernel_rfl) (fun _ _ _ h => h) (Or.inl ⟨by rfl, by intro w hSw; clear hSw; go_simp⟩) hS0 ?_
        try simp only [Act.put, List.setIfInBounds_toArray, List.set_cons_zero, List.set_cons_succ]
        refine wpAnyH_take (i := 6) (oi := { dst := some 118, op := .load 24 (.tmp 3), type := 24, pos := "outright.go:67", after := #[], guard := none }) (v := .agg D.toArray) rfl (by kernel_rfl) (by kernel_rfl) (by kernel_rfl) (fun _ _ _ h => h) (yieldsIf_load_mid (by rfl) _ _ rfl _ _ rfl _ _ (fun w h => h.1) uD rfl iD) hS0 ?_
        try simp only [Act.put, List.setIfInBounds_toArray, List.set_cons_zero, List.set_cons_succ]
        refine wpAnyH_take (i := 7) (oi := { dst := some 119, op := .move (.tmp 1), type := 3, pos := "outright.go:67", after := #[], guard := none }) (v := .int .i64 h) rfl (by kernel_rfl) (by kernel_rfl) (by kernel_rfl) (fun _ _ _ h => h) (Or.inl ⟨by rfl, by intro w hSw; clear hSw; go_simp⟩) hS0 ?_
        try simp only [Act.put, List.setIfInBounds_toArray, List.set_cons_zero, List.set_cons_succ]
        refine wpAnyH_take (i := 8) (oi := { dst := some 120, op := .binOp .add 3 (.tmp 119) (.const (Value.int IntKind.i64 1)) 3, type := 3, pos := "outright.go:67", after := #[{ on := 7, ground := .data }], guard := none }) (v := .int .i64 (h + 1)) rfl (by kernel_rfl) (by kernel_rfl) (by kernel_rfl) (fun _ _ _ h => h) (Or.inl ⟨by rfl, by intro w hSw; clear hSw; go_simp⟩) hS0 ?_
        try simp only [Act.put, List.setIfInBounds_toArray, List.set_cons_zero, List.set_cons_succ]
        refine wpAnyH_ready (rs := [2]) (by kernel_rfl) (by simp) ?_
        refine AllReadyH.cons (o := { dst := some 114, op := .call { callee := .value (.func 12), args := #[.tmp 112, .tmp 113], argTypes := #[24, 3] }, type := 26, pos := "outright.go:67", after := #[{ on := 0, ground := .data }, { on := 1, ground := .data }], guard := none }) rfl (fun K hK => ?_) AllReadyH.nil
        go_simp
        refine (C7.out _).mono ?_
        rintro e v1 ⟨rfl, k1⟩
        go_wp2_with fail
        refine hK.out _ _ (KEEP.out _ _ hS0 k1) (fun hS1 => ?_)
        clear hK K
        try simp only [Act.put, List.setIfInBounds_toArray, List.set_cons_zero, List.set_cons_succ]
        refine wpAnyH_take (i := 3) (oi := { dst := some 115, op := .extract (.tmp 114) 0, type := 3, pos := "outright.go:67", after := #[{ on := 2, ground := .data }], guard := none }) (v := .int .i64 f0) rfl (by kernel_rfl) (by kernel_rfl) (by kernel_rfl) (fun _ _ _ h => h) (Or.inl ⟨by rfl, by intro w hSw; clear hSw; go_simp⟩) hS1 ?_
        try simp only [Act.put, List.setIfInBounds_toArray, List.set_cons_zero, List.set_cons_succ]
        refine wpAnyH_take (i := 4) (oi := { dst := some 116, op := .extract (.tmp 114) 1, type := 25, pos := "outright.go:67", after := #[{ on := 2, ground := .data }], guard := none }) (v := .int .i64 0) rfl (by kernel_rfl) (by kernel_rfl) (by kernel_rfl) (fun _ _ _ h => h) (Or.inl ⟨by rfl, by intro w hSw; clear hSw; go_simp⟩) hS1 ?_
        try simp only [Act.put, List.setIfInBounds_toArray, List.set_cons_zero, List.set_cons_succ]
        refine wpAnyH_ready (rs := [5]) (by kernel_rfl) (by simp) ?_
        refine AllReadyH.cons (o := { dst := some 117, op := .call { callee := .value (.func 30), args := #[.tmp 115, .tmp 116], argTypes := #[3, 25] }, type := 3, pos := "outright.go:67", after := #[{ on := 3, ground := .data }, { on := 4, ground := .data }, { on := 2, ground := .chain }], guard := none }) rfl (fun K hK => ?_) AllReadyH.nil
        go_simp
        refine (N2.out _).mono ?_
        rintro e v2 ⟨rfl, rfl⟩
        go_wp2_with fail
        refine hK.out _ _ (hS1) (fun hS2 => ?_)
        clear hK K
        try simp only [Act.put, List.setIfInBounds_toArray, List.set_cons_zero, List.set_cons_succ]
        refine wpAnyH_ready (rs := [9]) (by kernel_rfl) (by simp) ?_
        refine AllReadyH.cons (o := { dst := some 121, op := .call { callee := .value (.func 12), args := #[.tmp 118, .tmp 120], argTypes := #[24, 3] }, type := 26, pos := "outright.go:67", after := #[{ on := 6, ground := .data }, { on := 8, ground := .data }, { on := 5, ground := .chain }], guard := none }) rfl (fun K hK => ?_) AllReadyH.nil
        go_simp
        refine (C8.out _).mono ?_
        rintro e v3 ⟨rfl, k3⟩
        go_wp2_with fail
        refine hK.out _ _ (KEEP.out _ _ hS2 k3) (fun hS3 => ?_)
        clear hK K
        try simp only [Act.put, List.setIfInBounds_toArray, List.set_cons_zero, List.set_cons_succ]
        refine wpAnyH_take (i := 10) (oi := { dst := some 122, op := .extract (.tmp 121) 0, type := 3, pos := "outright.go:67", after := #[{ on := 9, ground := .data }], guard := none }) (v := .int .i64 f1) rfl (by kernel_rfl) (by kernel_rfl) (by kernel_rfl) (fun _ _ _ h => h) (Or.inl ⟨by rfl, by intro w hSw; clear hSw; go_simp⟩) hS3 ?_
        try simp only [Act.put, List.setIfInBounds_toArray, List.set_cons_zero, List.set_cons_succ]
        refine wpAnyH_take (i := 11) (oi := { dst := some 123, op := .extract (.tmp 121) 1, type := 25, pos := "outright.go:67", after := #[{ on := 9, ground := .data }], guard := none }) (v := .int .i64 0) rfl (by kernel_rfl) (by kernel_rfl) (by kernel_rfl) (fun _ _ _ h => h) (Or.inl ⟨by rfl, by intro w hSw; clear hSw; go_simp⟩) hS3 ?_
        try simp only [Act.put, List.setIfInBounds_toArray, List.set_cons_zero, List.set_cons_succ]
        refine wpAnyH_ready (rs := [12]) (by kernel_rfl) (by simp) ?_
        refine AllReadyH.cons (o := { dst := some 124, op := .call { callee := .value (.func 30), args := #[.tmp 122, .tmp 123], argTypes := #[3, 25] }, type := 3, pos := "outright.go:67", after := #[{ on := 10, ground := .data }, { on := 11, ground := .data }, { on := 9, ground := .chain }], guard := none }) rfl (fun K hK => ?_) AllReadyH.nil
        go_simp
        refine (N3.out _).mono ?_
        rintro e v4 ⟨rfl, rfl⟩
        go_wp2_with fail
        refine hK.out _ _ (hS3) (fun hS4 => ?_)
        clear hK K
        try simp only [Act.put, List.setIfInBounds_toArray, List.set_cons_zero, List.set_cons_succ]
        refine wpAnyH_take (i := 13) (oi := { dst := some 20, op := .assign (.tmp 117), type := 3, pos := "outright.go:67", after := #[{ on := 5, ground := .data }, { on := 12, ground := .chain }, { on := 0, ground := .phase }, { on := 1, ground := .phase }, { on := 2, ground := .phase }, { on := 3, ground := .phase }, { on := 4, ground := .phase }, { on := 5, ground := .phase }, { on := 6, ground := .textOnly .lateStores }, { on := 7, ground := .textOnly .lateStores }, { on := 8, ground := .textOnly .lateStores }, { on := 9, ground := .textOnly .lateStoresUnsure }, { on := 10, ground := .textOnly .lateStores }, { on := 11, ground := .textOnly .lateStores }, { on := 12, ground := .textOnly .lateStoresUnsure }], guard := none }) (v := .int .i64 f0) rfl (by kernel_rfl) (by kernel_rfl) (by kernel_rfl) (fun _ _ _ h => h) (Or.inl ⟨by rfl, by intro w hSw; clear hSw; go_simp⟩) hS4 ?_
        try simp only [Act.put, List.setIfInBounds_toArray, List.set_cons_zero, List.set_cons_succ]
        refine wpAnyH_take (i := 14) (oi := { dst := some 21, op := .assign (.tmp 124), type := 3, pos := "outright.go:67", after := #[{ on := 12, ground := .data }, { on := 13, ground := .chain }, { on := 0, ground := .phase }, { on := 1, ground := .phase }, { on := 2, ground := .phase }, { on := 3, ground := .phase }, { on := 4, ground := .phase }, { on := 5, ground := .phase }, { on := 6, ground := .phase }, { on := 7, ground := .phase }, { on := 8, ground := .phase }, { on := 9, ground := .phase }, { on := 10, ground := .phase }, { on := 11, ground := .phase }, { on := 12, ground := .phase }, { on := 13, ground := .phase }], guard := none }) (v := .int .i64 f1) rfl (by kernel_rfl) (by kernel_rfl) (by kernel_rfl) (fun _ _ _ h => h) (Or.inl ⟨by rfl, by intro w hSw; clear hSw; go_simp⟩) hS4 ?_
        try simp only [Act.put, List.setIfInBounds_toArray, List.set_cons_zero, List.set_cons_succ]
        refine wpAnyH_done (by kernel_rfl) ?_ _
        have BB := Lib.hid hS4.2
        clear hS0 hS1 hS2 hS3 hS4 KEEP uD
        go_wp2_with fail
        go_ret
        exact ⟨rfl, BB.out⟩
  · have kb : (q != 0) = true := by simpa using h0
    go_wp2_with fail
    go_ret
    exact ⟨rfl, B2.out⟩

theorem epochsLaw (x : Nat → Int) (h e : Int) (w : World) (hx : Kinds x) (i0 : -9223372036854775808 ≤ h) (j0 : h ≤ 9223372036854775807) (i1 : -9223372036854775808 ≤ e) (j1 : e ≤ 9223372036854775807) :
    Calls Try.prog 6 #[.agg (recC x).toArray, .int .i64 h, .int .i64 e] w fun r w' => r = .returned (.bool true) ∧ Bel w w' := epochs x hx h e w
end Pd
end Go.Proofs.Ytlhahjpjlahdiaa
