/-
  The law ParamsSet: what is set is got, no other field is another one, and what was is set back. Conditions: ints; a word; the library's table of powers of ten is as the program's text lays it.
-/
import Derived.Test.YtkblbcdinibncaaDoorPS
import Derived.Test.YtkblbcdinibncaaDoorGPKn
import Derived.Test.YtkblbcdinibncaaDoorPB
import Derived.Test.YtkblbcdinibncaaDoorPD
namespace Go.Proofs.YtkblbcdinibncaaDoor
open Go.RowKit Go.Shelf Go.Sort
set_option linter.unusedVariables false
namespace Pm
open Kk

set_option maxRecDepth 100000 in
set_option maxHeartbeats 8000000 in
theorem set_ (A : Option Addr) (ln cp : Nat) (zs : List Int) (wh n : Int) (w : World) (hi : Ints .i64 w A ln zs) (hl : ln ≤ maxLen) (hz : ∀ z ∈ zs, -9223372036854775808 ≤ z ∧ z ≤ 9223372036854775807)
    (hw0 : -9223372036854775808 ≤ wh) (hw1 : wh ≤ 9223372036854775807) (n0 : 0 ≤ n) (n1 : n ≤ 18446744073709551615) (htab : Tab w) :
    Calls Tryd.prog 3 #[.slice A ln cp, .int .i64 wh, .int .u64 n] w fun e w' => e = .returned (.bool true) ∧ Bel w w' := by
  have HI := Lib.hid hi
  have HL := Lib.hid hl
  have HZ := Lib.hid hz
  have HT := Lib.hid htab
  clear hi hl hz htab
  go_enter Tryd.func3, Tryd.ntmps3
  go_wp2_with fail
  refine (known w HT.out).mono ?_
  rintro e w1 ⟨rfl, k1⟩
  have B1 := Lib.hid k1
  clear k1
  go_wp2_with fail
  refine (near A ln cp zs w1 (HI.out.bel B1.out) HL.out HZ.out).mono ?_
  rintro e w2 ⟨x, rfl, hx, hc, k2⟩
  have HX := Lib.hid hx
  have HC := Lib.hid hc
  obtain ⟨D, hD⟩ : ∃ D, D = recC x := ⟨_, rfl⟩
  have DS := Lib.hid (show D.toArray.size = 11 by rw [hD]; rfl)
  have DL := Lib.hid (show D.length = 11 by rw [hD]; rfl)
  have DO := Lib.hid (all_oneCell_toArray (cs := D) (by rw [hD]; exact recC_cells _))
  have iP := Lib.hid (show (Tryd.prog.info? 26).map (·.size) = some D.length by rw [DL.out]; exact info_rec)
  have uP := Tryd.underlying26
  obtain ⟨t1, t2⟩ := store_rec (z := x) (y := fun _ => 0) (Blk.new w2 _ _)
  rw [← hD] at t1 t2
  rw [← hD]
  have HDD := Lib.hid hD
  have T1 := Lib.hid t1
  obtain ⟨d, hd⟩ : ∃ d, w2.heap.size = d := ⟨_, rfl⟩
  obtain ⟨V, hV⟩ : ∃ V, (w2.alloc (.cells #[.int .i64 0, .int .i64 0, .int .i64 0, .int .i64 0, .int .i64 0, .int .i64 0, .int .i64 0, .int .u64 0, .int .u64 0, .int .i64 0, .int .u64 0] 26)).setCells d 0 D = V := ⟨_, rfl⟩
  have t2' : Blk ((w2.alloc (.cells #[.int .i64 0, .int .i64 0, .int .i64 0, .int .i64 0, .int .i64 0, .int .i64 0, .int .i64 0, .int .u64 0, .int .u64 0, .int .i64 0, .int .u64 0] 26)).setCells w2.heap.size 0 D) w2.heap.size D.toArray 26 := t2
  rw [hd, hV] at t2'
  have BV := Lib.hid (show Bel w V from (B1.out.trans k2).trans (by rw [← hV]; exact bel_setCells ((Bel.refl w2).alloc _) (by rw [hd]; exact Nat.le_refl _) 0 D))
  have RV := Lib.hid (rngB t2')
  have HV := Lib.hid hV
  have Hd := Lib.hid hd
  clear t1 t2 t2' hV hd hx hc hD k2 B1
  go_upto_region 3 with (refine wpList_store_mid rfl 26 (.tmp 8) (.tmp 24) rfl w2.heap.size 0 D.toArray rfl rfl T1.out (by rw [DS.out]; exact info_rec) DO.out ?_)
  rw [Hd.out, HV.out]
  clear T1 HV Hd
  go_wp2_with fail
  refine (names V).mono ?_
  rintro e v2 ⟨v, rfl, ho, k2⟩
  obtain ⟨l, cl, rfl, _, hn⟩ := nms_own ho
  have B2 := Lib.hid (BV.out.trans k2)
  have R2 := Lib.hid (rng_bel RV.out k2)
  have N2 := Lib.hid hn
  clear ho hn k2 BV RV
  have CK := Lib.hid (fun V => check x HX.out V)
  have FX := Lib.hid (fun V => fieldsK x HX.out V)
  rw [← HDD.out] at CK FX
  go_wp2_with ((with_reducible refine wpList_load_mid ?_ 26 (.tmp 8) ?_ d 0 ?_ D _ R2.out uP ?_ iP.out ?_); rfl; rfl; rfl; rfl)
  refine (CK.out v2).mono ?_
  rintro e v3 ⟨ca, cb, rfl, hC, k3⟩
  obtain ⟨rfl, rfl⟩ := hC.uniq HC.out
  have B3 := Lib.hid (B2.out.trans k3)
  have R3 := Lib.hid (rng_bel R2.out k3)
  have N3 := Lib.hid (N2.out.bel k3)
  clear hC k3 B2 R2 N2 CK
  go_wp2_with fail
  refine (pickT wh 11 v3 hw0 hw1 (by omega) (by omega)).mono ?_
  rintro e v4 ⟨rfl, rfl⟩
  obtain ⟨kk, hkk⟩ : ∃ kk : Nat, wh % 11 = (kk : Int) := ⟨(wh % 11).toNat, (Int.toNat_of_nonneg (Int.emod_nonneg _ (by omega))).symm⟩
  have hk : kk < 11 := by
    have := Int.emod_lt_of_pos wh (show (0 : Int) < 11 by omega)
    omega
  have hk1 : (kk : Int) < 11 := by omega
  rw [hkk]
  clear hkk
  go_wp2_with ((with_reducible refine wpList_load_mid ?_ 26 (.tmp 8) ?_ d 0 ?_ D _ R3.out uP ?_ iP.out ?_); rfl; rfl; rfl; rfl)
  refine (FX.out v3).mono ?_
  rintro e v4 ⟨b1, rfl, hb1, _, k4⟩
  rw [show (fvs x).length = 11 from rfl]
  have B4 := Lib.hid (B3.out.trans k4)
  have R4 := Lib.hid (rng_bel R3.out k4)
  have N4 := Lib.hid (N3.out.bel k4)
  have F4 := Lib.hid hb1
  clear hb1 k4 B3 R3 N3 FX
  have SC := Lib.hid (fun V => set x HX.out (nm kk) n n0 n1 V)
  rw [← HDD.out] at SC
  go_upto_region 9 with fail
  go_cut [14, 15] (fun s14 s15 wx => ∃ (y : Nat → Int) (a : Int) (e : Nat), s14 = .pointer (some ⟨e, 0, none⟩) ∧ s15 = .int .i64 a ∧ Hid (St x (nm kk) n y a) ∧ Hid (Bel v4 wx ∧ wx.rangeAt e 0 (recC y)))
  case first =>
    refine wp_region_held_drew (S := fun V => Bel v4 V) (by kernel_rfl) (Bel.refl _).drew (fun hS0 => ?_)
    obtain ⟨w6, hw6⟩ : ∃ w6, World.drew v4 = w6 := ⟨_, rfl⟩
    rw [hw6] at hS0 ⊢
    clear hw6
    refine wpAnyH_take (i := 0) (oi := { dst := some 43, op := .load 26 (.tmp 8), type := 26, pos := "outright.go:68", after := #[], guard := none }) (v := .agg D.toArray) rfl (by kernel_rfl) (by kernel_rfl) (by kernel_rfl) (fun _ _ _ h => h) (yieldsIf_load_mid (by rfl) _ _ rfl _ _ rfl _ _ (fun w h => rng_bel R4.out h) uP rfl iP.out) hS0 ?_
    try simp only [Act.put, List.setIfInBounds_toArray, List.set_cons_zero, List.set_cons_succ]
    refine wpAnyH_take (i := 1) (oi := { dst := some 44, op := .move (.tmp 9), type := 28, pos := "outright.go:68", after := #[], guard := none }) (v := .slice (some ⟨l, 0, none⟩) 11 cl) rfl (by kernel_rfl) (by kernel_rfl) (by kernel_rfl) (fun _ _ _ h => h) (Or.inl ⟨by rfl, by intro w hSw; clear hSw; go_simp⟩) hS0 ?_
    try simp only [Act.put, List.setIfInBounds_toArray, List.set_cons_zero, List.set_cons_succ]
    refine wpAnyH_take (i := 2) (oi := { dst := some 45, op := .move (.tmp 12), type := 3, pos := "outright.go:68", after := #[], guard := none }) (v := .int .i64 kk) rfl (by kernel_rfl) (by kernel_rfl) (by kernel_rfl) (fun _ _ _ h => h) (Or.inl ⟨by rfl, by intro w hSw; clear hSw; go_simp⟩) hS0 ?_
    try simp only [Act.put, List.setIfInBounds_toArray, List.set_cons_zero, List.set_cons_succ]
    refine wpAnyH_take (i := 3) (oi := { dst := some 46, op := .indexAddr 28 (.tmp 44) (.tmp 45), type := 0, pos := "outright.go:68", after := #[{ on := 1, ground := .data }, { on := 2, ground := .data }], guard := none }) (v := .pointer (some ⟨l, kk, none⟩)) rfl (by kernel_rfl) (by kernel_rfl) (by kernel_rfl) (fun _ _ _ h => h) (Or.inl ⟨by rfl, by intro w hSw; clear hSw; go_simp⟩) hS0 ?_
    try simp only [Act.put, List.setIfInBounds_toArray, List.set_cons_zero, List.set_cons_succ]
    refine wpAnyH_take (i := 4) (oi := { dst := some 47, op := .load 9 (.tmp 46), type := 9, pos := "outright.go:68", after := #[{ on := 3, ground := .data }], guard := none }) (v := .string (nm kk)) rfl (by kernel_rfl) (by kernel_rfl) (by kernel_rfl) (fun _ _ _ h => h) (Or.inl ⟨by rfl, by intro w h; have hcell := ((N4.out.bel h) kk hk); clear h; go_simp⟩) hS0 ?_
    try simp only [Act.put, List.setIfInBounds_toArray, List.set_cons_zero, List.set_cons_succ]
    refine wpAnyH_take (i := 5) (oi := { dst := some 48, op := .move (.tmp 2), type := 23, pos := "outright.go:68", after := #[], guard := none }) (v := .int .u64 n) rfl (by kernel_rfl) (by kernel_rfl) (by kernel_rfl) (fun _ _ _ h => h) (Or.inl ⟨by rfl, by intro w hSw; clear hSw; go_simp⟩) hS0 ?_
    try simp only [Act.put, List.setIfInBounds_toArray, List.set_cons_zero, List.set_cons_succ]
    refine wpAnyH_ready (rs := [6, 10]) (by kernel_rfl) (by simp) ?_
    refine AllReadyH.cons (o := { dst := some 49, op := .call { callee := .value (.func 11), args := #[.tmp 43, .tmp 47, .tmp 48], argTypes := #[26, 9, 23] }, type := 35, pos := "outright.go:68", after := #[{ on := 0, ground := .data }, { on := 4, ground := .data }, { on := 5, ground := .data }], guard := none }) rfl (fun K hK => ?_) (AllReadyH.cons (o := { dst := some 14, op := .alloc 26, type := 0, pos := "outright.go:68", after := #[], guard := none }) rfl (fun K hK => ?_) AllReadyH.nil)
    · skip
      go_simp
      refine (SC.out w6).mono ?_
      rintro e v1 ⟨y, a, rfl, hst, k1⟩
      obtain ⟨Y, hY⟩ : ∃ Y, Y = recC y := ⟨_, rfl⟩
      rw [← hY]
      have HYY := Lib.hid hY
      have YL := Lib.hid (show Y.length = 11 by rw [hY]; rfl)
      have YO := Lib.hid (all_oneCell_toArray (cs := Y) (by rw [hY]; exact recC_cells _))
      have HST := Lib.hid hst
      clear hY hst
      go_wp2_with fail
      have hS1 := hS0.trans k1
      refine hK.out _ _ hS1 (fun _ => ?_)
      clear hK K
      try simp only [Act.put, List.setIfInBounds_toArray, List.set_cons_zero, List.set_cons_succ]
      refine wpAnyH_take (i := 7) (oi := { dst := some 42, op := .move (.tmp 49), type := 35, pos := "outright.go:68", after := #[{ on := 6, ground := .data }], guard := none }) (v := .tuple #[.agg Y.toArray, .int .i64 a]) rfl (by kernel_rfl) (by kernel_rfl) (by kernel_rfl) (fun _ _ _ h => h) (Or.inl ⟨by rfl, by intro w hSw; clear hSw; go_simp⟩) hS1 ?_
      try simp only [Act.put, List.setIfInBounds_toArray, List.set_cons_zero, List.set_cons_succ]
      refine wpAnyH_take (i := 8) (oi := { dst := some 50, op := .extract (.tmp 42) 0, type := 26, pos := "outright.go:68", after := #[{ on := 7, ground := .data }], guard := none }) (v := .agg Y.toArray) rfl (by kernel_rfl) (by kernel_rfl) (by kernel_rfl) (fun _ _ _ h => h) (Or.inl ⟨by rfl, by intro w hSw; clear hSw; go_simp⟩) hS1 ?_
      try simp only [Act.put, List.setIfInBounds_toArray, List.set_cons_zero, List.set_cons_succ]
      refine wpAnyH_take (i := 9) (oi := { dst := some 51, op := .extract (.tmp 42) 1, type := 30, pos := "outright.go:68", after := #[{ on := 7, ground := .data }, { on := 11, ground := .gcOnly .lateStores }], guard := none }) (v := .int .i64 a) rfl (by kernel_rfl) (by kernel_rfl) (by kernel_rfl) (fun _ _ _ h => h) (Or.inl ⟨by rfl, by intro w hSw; clear hSw; go_simp⟩) hS1 ?_
      try simp only [Act.put, List.setIfInBounds_toArray, List.set_cons_zero, List.set_cons_succ]
      refine wpAnyH_ready (rs := [10]) (by kernel_rfl) (by simp) ?_
      refine AllReadyH.cons (o := { dst := some 14, op := .alloc 26, type := 0, pos := "outright.go:68", after := #[], guard := none }) rfl (fun K hK => ?_) AllReadyH.nil
      go_simp
      have hS2 := hS1.trans ((Bel.refl v1).alloc (.cells #[.int .i64 0, .int .i64 0, .int .i64 0, .int .i64 0, .int .i64 0, .int .i64 0, .int .i64 0, .int .u64 0, .int .u64 0, .int .i64 0, .int .u64 0] 26))
      refine hK.out _ _ hS2 (fun _ => ?_)
      clear hK K
      try simp only [Act.put, List.setIfInBounds_toArray, List.set_cons_zero, List.set_cons_succ]
      have G2 : Blk (World.alloc v1 (.cells #[.int .i64 0, .int .i64 0, .int .i64 0, .int .i64 0, .int .i64 0, .int .i64 0, .int .i64 0, .int .u64 0, .int .u64 0, .int .i64 0, .int .u64 0] 26)) (World.heap v1).size (recC fun _ => 0).toArray 26 := Blk.new v1 _ _
      have hg0 := Below.size hS1
      obtain ⟨g, hg⟩ : ∃ g, (World.heap v1).size = g := ⟨_, rfl⟩
      obtain ⟨v2, hv⟩ : ∃ v, World.alloc v1 (.cells #[.int .i64 0, .int .i64 0, .int .i64 0, .int .i64 0, .int .i64 0, .int .i64 0, .int .i64 0, .int .u64 0, .int .u64 0, .int .i64 0, .int .u64 0] 26) = v := ⟨_, rfl⟩
      rw [hv] at hS2 G2 ⊢
      rw [hg] at G2 hg0 ⊢
      clear hg hv
      refine wpAnyH_ready (rs := [11]) (by kernel_rfl) (by simp) ?_
      refine AllReadyH.cons (o := { dst := none, op := .store 26 (.tmp 14) (.tmp 50), type := 0, pos := "outright.go:68", after := #[{ on := 10, ground := .data }, { on := 8, ground := .data }, { on := 6, ground := .chain }, { on := 0, ground := .phase }, { on := 1, ground := .phase }, { on := 2, ground := .phase }, { on := 3, ground := .phase }, { on := 4, ground := .phase }, { on := 5, ground := .phase }, { on := 6, ground := .phase }, { on := 7, ground := .phase }, { on := 8, ground := .phase }, { on := 9, ground := .textOnly .lateStores }, { on := 10, ground := .phase }], guard := none }) rfl (fun K hK => ?_) AllReadyH.nil
      rw [if_pos (by rfl)]
      refine wp_store_mid 26 (.tmp 14) (.tmp 50) rfl g 0 Y.toArray rfl rfl (bthere G2 0 _ (by rw [List.size_toArray, YL.out]; exact Nat.le_refl 11)) (by rw [List.size_toArray, YL.out]; exact info_rec) YO.out ?_
      have hSE : Bel v4 (World.setCells v2 g 0 Y.toArray.toList) := bel_setCells hS2 hg0 0 _
      have rSE : (World.setCells v2 g 0 Y.toArray.toList).rangeAt g 0 Y := rngB (bwhole G2 (by rw [List.toList_toArray, YL.out]; rfl))
      have E9 := Lib.hid (And.intro hSE rSE)
      refine hK.out _ _ hSE (fun _ => ?_)
      clear hK K rSE
      try simp only [Act.put]
      refine wpAnyH_take (i := 12) (oi := { dst := some 15, op := .assign (.tmp 51), type := 30, pos := "outright.go:68", after := #[{ on := 9, ground := .data }, { on := 11, ground := .chain }, { on := 0, ground := .phase }, { on := 1, ground := .phase }, { on := 2, ground := .phase }, { on := 3, ground := .phase }, { on := 4, ground := .phase }, { on := 5, ground := .phase }, { on := 6, ground := .phase }, { on := 7, ground := .phase }, { on := 8, ground := .phase }, { on := 9, ground := .phase }, { on := 10, ground := .phase }, { on := 11, ground := .phase }], guard := none }) (v := .int .i64 a) rfl (by kernel_rfl) (by kernel_rfl) (by kernel_rfl) (fun _ _ _ h => h) (Or.inl ⟨by rfl, by intro w hSw; clear hSw; go_simp⟩) hSE ?_
      try simp only [Act.put, List.setIfInBounds_toArray, List.set_cons_zero, List.set_cons_succ]
      refine wpAnyH_done (by kernel_rfl) ?_ _
      go_wp2_with fail
      go_meet
      exact ⟨y, a, g, rfl, rfl, HST, by rw [← HYY.out]; exact E9⟩
    · skip
      go_simp
      have hS1 := hS0.trans ((Bel.refl w6).alloc (.cells #[.int .i64 0, .int .i64 0, .int .i64 0, .int .i64 0, .int .i64 0, .int .i64 0, .int .i64 0, .int .u64 0, .int .u64 0, .int .i64 0, .int .u64 0] 26))
      refine hK.out _ _ hS1 (fun _ => ?_)
      clear hK K
      try simp only [Act.put, List.setIfInBounds_toArray, List.set_cons_zero, List.set_cons_succ]
      have G1 : Blk (World.alloc w6 (.cells #[.int .i64 0, .int .i64 0, .int .i64 0, .int .i64 0, .int .i64 0, .int .i64 0, .int .i64 0, .int .u64 0, .int .u64 0, .int .i64 0, .int .u64 0] 26)) (World.heap w6).size (recC fun _ => 0).toArray 26 := Blk.new w6 _ _
      have hg0 := Below.size hS0
      obtain ⟨g, hg⟩ : ∃ g, (World.heap w6).size = g := ⟨_, rfl⟩
      obtain ⟨v1, hv⟩ : ∃ v, World.alloc w6 (.cells #[.int .i64 0, .int .i64 0, .int .i64 0, .int .i64 0, .int .i64 0, .int .i64 0, .int .i64 0, .int .u64 0, .int .u64 0, .int .i64 0, .int .u64 0] 26) = v := ⟨_, rfl⟩
      rw [hv] at hS1 G1 ⊢
      rw [hg] at G1 hg0 ⊢
      clear hg hv
      refine wpAnyH_ready (rs := [6]) (by kernel_rfl) (by simp) ?_
      refine AllReadyH.cons (o := { dst := some 49, op := .call { callee := .value (.func 11), args := #[.tmp 43, .tmp 47, .tmp 48], argTypes := #[26, 9, 23] }, type := 35, pos := "outright.go:68", after := #[{ on := 0, ground := .data }, { on := 4, ground := .data }, { on := 5, ground := .data }], guard := none }) rfl (fun K hK => ?_) AllReadyH.nil
      go_simp
      refine (SC.out v1).mono ?_
      rintro e v2 ⟨y, a, rfl, hst, k2⟩
      obtain ⟨Y, hY⟩ : ∃ Y, Y = recC y := ⟨_, rfl⟩
      rw [← hY]
      have HYY := Lib.hid hY
      have YL := Lib.hid (show Y.length = 11 by rw [hY]; rfl)
      have YO := Lib.hid (all_oneCell_toArray (cs := Y) (by rw [hY]; exact recC_cells _))
      have HST := Lib.hid hst
      clear hY hst
      go_wp2_with fail
      have hS2 := hS1.trans k2
      refine hK.out _ _ hS2 (fun _ => ?_)
      clear hK K
      try simp only [Act.put, List.setIfInBounds_toArray, List.set_cons_zero, List.set_cons_succ]
      refine wpAnyH_take (i := 7) (oi := { dst := some 42, op := .move (.tmp 49), type := 35, pos := "outright.go:68", after := #[{ on := 6, ground := .data }], guard := none }) (v := .tuple #[.agg Y.toArray, .int .i64 a]) rfl (by kernel_rfl) (by kernel_rfl) (by kernel_rfl) (fun _ _ _ h => h) (Or.inl ⟨by rfl, by intro w hSw; clear hSw; go_simp⟩) hS2 ?_
      try simp only [Act.put, List.setIfInBounds_toArray, List.set_cons_zero, List.set_cons_succ]
      refine wpAnyH_take (i := 8) (oi := { dst := some 50, op := .extract (.tmp 42) 0, type := 26, pos := "outright.go:68", after := #[{ on := 7, ground := .data }], guard := none }) (v := .agg Y.toArray) rfl (by kernel_rfl) (by kernel_rfl) (by kernel_rfl) (fun _ _ _ h => h) (Or.inl ⟨by rfl, by intro w hSw; clear hSw; go_simp⟩) hS2 ?_
      try simp only [Act.put, List.setIfInBounds_toArray, List.set_cons_zero, List.set_cons_succ]
      refine wpAnyH_take (i := 9) (oi := { dst := some 51, op := .extract (.tmp 42) 1, type := 30, pos := "outright.go:68", after := #[{ on := 7, ground := .data }, { on := 11, ground := .gcOnly .lateStores }], guard := none }) (v := .int .i64 a) rfl (by kernel_rfl) (by kernel_rfl) (by kernel_rfl) (fun _ _ _ h => h) (Or.inl ⟨by rfl, by intro w hSw; clear hSw; go_simp⟩) hS2 ?_
      try simp only [Act.put, List.setIfInBounds_toArray, List.set_cons_zero, List.set_cons_succ]
      have G2 := G1.bel k2
      refine wpAnyH_ready (rs := [11]) (by kernel_rfl) (by simp) ?_
      refine AllReadyH.cons (o := { dst := none, op := .store 26 (.tmp 14) (.tmp 50), type := 0, pos := "outright.go:68", after := #[{ on := 10, ground := .data }, { on := 8, ground := .data }, { on := 6, ground := .chain }, { on := 0, ground := .phase }, { on := 1, ground := .phase }, { on := 2, ground := .phase }, { on := 3, ground := .phase }, { on := 4, ground := .phase }, { on := 5, ground := .phase }, { on := 6, ground := .phase }, { on := 7, ground := .phase }, { on := 8, ground := .phase }, { on := 9, ground := .textOnly .lateStores }, { on := 10, ground := .phase }], guard := none }) rfl (fun K hK => ?_) AllReadyH.nil
      rw [if_pos (by rfl)]
      refine wp_store_mid 26 (.tmp 14) (.tmp 50) rfl g 0 Y.toArray rfl rfl (bthere G2 0 _ (by rw [List.size_toArray, YL.out]; exact Nat.le_refl 11)) (by rw [List.size_toArray, YL.out]; exact info_rec) YO.out ?_
      have hSE : Bel v4 (World.setCells v2 g 0 Y.toArray.toList) := bel_setCells hS2 hg0 0 _
      have rSE : (World.setCells v2 g 0 Y.toArray.toList).rangeAt g 0 Y := rngB (bwhole G2 (by rw [List.toList_toArray, YL.out]; rfl))
      have E9 := Lib.hid (And.intro hSE rSE)
      refine hK.out _ _ hSE (fun _ => ?_)
      clear hK K rSE
      try simp only [Act.put]
      refine wpAnyH_take (i := 12) (oi := { dst := some 15, op := .assign (.tmp 51), type := 30, pos := "outright.go:68", after := #[{ on := 9, ground := .data }, { on := 11, ground := .chain }, { on := 0, ground := .phase }, { on := 1, ground := .phase }, { on := 2, ground := .phase }, { on := 3, ground := .phase }, { on := 4, ground := .phase }, { on := 5, ground := .phase }, { on := 6, ground := .phase }, { on := 7, ground := .phase }, { on := 8, ground := .phase }, { on := 9, ground := .phase }, { on := 10, ground := .phase }, { on := 11, ground := .phase }], guard := none }) (v := .int .i64 a) rfl (by kernel_rfl) (by kernel_rfl) (by kernel_rfl) (fun _ _ _ h => h) (Or.inl ⟨by rfl, by intro w hSw; clear hSw; go_simp⟩) hSE ?_
      try simp only [Act.put, List.setIfInBounds_toArray, List.set_cons_zero, List.set_cons_succ]
      refine wpAnyH_done (by kernel_rfl) ?_ _
      go_wp2_with fail
      go_meet
      exact ⟨y, a, g, rfl, rfl, HST, by rw [← HYY.out]; exact E9⟩
  case rest =>
    obtain ⟨y, a, ee, rfl, rfl, hst, h9⟩ := hcut
    obtain ⟨k5, r5⟩ := h9.out
    have B5 := Lib.hid (B4.out.trans k5)
    have R5 := Lib.hid (rng_bel R4.out k5)
    have N5 := Lib.hid (N4.out.bel k5)
    have F5 := Lib.hid (F4.out.bel k5)
    obtain ⟨E, hE⟩ : ∃ E, E = recC y := ⟨_, rfl⟩
    rw [← hE] at r5
    have Q5 := Lib.hid r5
    have HST := Lib.hid (st_nm HC.out hk hst.out)
    have EE := Lib.hid (eql_rec y)
    rw [← hE] at EE
    have iE := Lib.hid (show (Tryd.prog.info? 26).map (·.size) = some E.length by rw [hE]; exact info_rec)
    have HE := Lib.hid hE
    clear k5 r5 h9 hst hE SC B4 R4 N4 F4
    by_cases h0 : a = 0
    · subst h0
      have hy : y = upd x kk (sv kk n) ∧ Chk y 0 0 := by
        rcases HST.out with h | h
        · exact h.2
        · exact absurd rfl h.2.1
      have HY := Lib.hid hy
      have KY := Lib.hid (show Kinds y by rw [hy.1]; exact kinds_upd HX.out kk n n0 n1)
      clear hy HST
      have FY := Lib.hid (fun V => fieldsK y KY.out V)
      rw [← HE.out] at FY
      go_wp2_with ((with_reducible refine wpList_load_mid ?_ 26 (.tmp 14) ?_ ee 0 ?_ E _ Q5.out uP ?_ iE.out ?_); rfl; rfl; rfl; rfl)
      refine (FY.out wc).mono ?_
      rintro e v6 ⟨b2, rfl, hb2, _, k6⟩
      rw [show (fvs y).length = 11 from rfl]
      have B6 := Lib.hid (B5.out.trans k6)
      have R6 := Lib.hid (rng_bel R5.out k6)
      have N6 := Lib.hid (N5.out.bel k6)
      have F6 := Lib.hid (F5.out.bel k6)
      have Q6 := Lib.hid (rng_bel Q5.out k6)
      have G6 := Lib.hid hb2
      clear hb2 k6 B5 R5 N5 F5 Q5 FY
      have GC := Lib.hid (fun (i : Nat) (V : World) => get y KY.out (nm i) V)
      rw [← HE.out] at GC
      have U0 := Lib.hid (show ∀ i, i < 11 → i ≠ kk → y i = x i from fun i hi hne => by rw [HY.out.1]; exact updk_no x _ hne)
      have U1 := Lib.hid (show wv y kk = n by rw [HY.out.1]; exact wv_set x kk n0 n1)
      go_wp2_with fail
      go_loopw [17] (fun u17 wr => ∃ i : Nat, u17 = .int .i64 i ∧ i ≤ 11 ∧ Bel v6 wr) (fun u17 _ => 11 - (intOf u17).toNat)
      case atStart => exact ⟨0, rfl, by omega, Bel.refl _⟩
      case round =>
        obtain ⟨i, rfl, hi, hb⟩ := hrel
        have KB := Lib.hid hb
        clear hb
        by_cases hlt : i < 11
        · have hi1 : (i : Int) < 11 := by omega
          go_upto_region 16 with fail
          refine wp_region_held_drew (S := fun V => Bel wr V) (by kernel_rfl) (Bel.refl _).drew (fun hS0 => ?_)
          obtain ⟨w6, hw6⟩ : ∃ w6, World.drew wr = w6 := ⟨_, rfl⟩
          rw [hw6] at hS0 ⊢
          clear hw6
          refine wpAnyH_take (i := 0) (oi := { dst := some 79, op := .load 26 (.tmp 14), type := 26, pos := "outright.go:74", after := #[], guard := none }) (v := .agg E.toArray) rfl (by kernel_rfl) (by kernel_rfl) (by kernel_rfl) (fun _ _ _ h => h) (yieldsIf_load_mid (by rfl) _ _ rfl _ _ rfl _ _ (fun w h => rng_bel Q6.out (KB.out.trans h)) uP rfl iE.out) hS0 ?_
          try simp only [Act.put, List.setIfInBounds_toArray, List.set_cons_zero, List.set_cons_succ]
          refine wpAnyH_take (i := 1) (oi := { dst := some 80, op := .move (.tmp 9), type := 28, pos := "outright.go:74", after := #[], guard := none }) (v := .slice (some ⟨l, 0, none⟩) 11 cl) rfl (by kernel_rfl) (by kernel_rfl) (by kernel_rfl) (fun _ _ _ h => h) (Or.inl ⟨by rfl, by intro w hSw; clear hSw; go_simp⟩) hS0 ?_
          try simp only [Act.put, List.setIfInBounds_toArray, List.set_cons_zero, List.set_cons_succ]
          refine wpAnyH_take (i := 2) (oi := { dst := some 81, op := .move (.tmp 17), type := 3, pos := "outright.go:74", after := #[], guard := none }) (v := .int .i64 i) rfl (by kernel_rfl) (by kernel_rfl) (by kernel_rfl) (fun _ _ _ h => h) (Or.inl ⟨by rfl, by intro w hSw; clear hSw; go_simp⟩) hS0 ?_
          try simp only [Act.put, List.setIfInBounds_toArray, List.set_cons_zero, List.set_cons_succ]
          refine wpAnyH_take (i := 3) (oi := { dst := some 82, op := .indexAddr 28 (.tmp 80) (.tmp 81), type := 0, pos := "outright.go:74", after := #[{ on := 1, ground := .data }, { on := 2, ground := .data }], guard := none }) (v := .pointer (some ⟨l, i, none⟩)) rfl (by kernel_rfl) (by kernel_rfl) (by kernel_rfl) (fun _ _ _ h => h) (Or.inl ⟨by rfl, by intro w hSw; clear hSw; go_simp⟩) hS0 ?_
          try simp only [Act.put, List.setIfInBounds_toArray, List.set_cons_zero, List.set_cons_succ]
          refine wpAnyH_take (i := 4) (oi := { dst := some 83, op := .load 9 (.tmp 82), type := 9, pos := "outright.go:74", after := #[{ on := 3, ground := .data }], guard := none }) (v := .string (nm i)) rfl (by kernel_rfl) (by kernel_rfl) (by kernel_rfl) (fun _ _ _ h => h) (Or.inl ⟨by rfl, by intro w h; have hcell := (((N6.out.bel KB.out).bel h) i hlt); clear h; go_simp⟩) hS0 ?_
          try simp only [Act.put, List.setIfInBounds_toArray, List.set_cons_zero, List.set_cons_succ]
          refine wpAnyH_ready (rs := [5]) (by kernel_rfl) (by simp) ?_
          refine AllReadyH.cons (o := { dst := some 84, op := .call { callee := .value (.func 12), args := #[.tmp 79, .tmp 83], argTypes := #[26, 9] }, type := 37, pos := "outright.go:74", after := #[{ on := 0, ground := .data }, { on := 4, ground := .data }], guard := none }) rfl (fun K hK => ?_) AllReadyH.nil
          go_simp
          refine (GC.out i _).mono ?_
          rintro e v1 ⟨m, b, rfl, hg, k1⟩
          go_wp2_with fail
          refine hK.out _ _ (hS0.trans k1) (fun hS1 => ?_)
          clear hK K
          try simp only [Act.put, List.setIfInBounds_toArray, List.set_cons_zero, List.set_cons_succ]
          refine wpAnyH_take (i := 6) (oi := { dst := some 78, op := .move (.tmp 84), type := 37, pos := "outright.go:74", after := #[{ on := 5, ground := .data }], guard := none }) (v := .tuple #[.int .u64 m, .int .i64 b]) rfl (by kernel_rfl) (by kernel_rfl) (by kernel_rfl) (fun _ _ _ h => h) (Or.inl ⟨by rfl, by intro w hSw; clear hSw; go_simp⟩) hS1 ?_
          try simp only [Act.put, List.setIfInBounds_toArray, List.set_cons_zero, List.set_cons_succ]
          refine wpAnyH_take (i := 7) (oi := { dst := some 85, op := .extract (.tmp 78) 0, type := 23, pos := "outright.go:74", after := #[{ on := 6, ground := .data }], guard := none }) (v := .int .u64 m) rfl (by kernel_rfl) (by kernel_rfl) (by kernel_rfl) (fun _ _ _ h => h) (Or.inl ⟨by rfl, by intro w hSw; clear hSw; go_simp⟩) hS1 ?_
          try simp only [Act.put, List.setIfInBounds_toArray, List.set_cons_zero, List.set_cons_succ]
          refine wpAnyH_take (i := 8) (oi := { dst := some 86, op := .extract (.tmp 78) 1, type := 30, pos := "outright.go:74", after := #[{ on := 6, ground := .data }, { on := 9, ground := .gcOnly .lateStores }], guard := none }) (v := .int .i64 b) rfl (by kernel_rfl) (by kernel_rfl) (by kernel_rfl) (fun _ _ _ h => h) (Or.inl ⟨by rfl, by intro w hSw; clear hSw; go_simp⟩) hS1 ?_
          try simp only [Act.put, List.setIfInBounds_toArray, List.set_cons_zero, List.set_cons_succ]
          refine wpAnyH_take (i := 9) (oi := { dst := some 18, op := .assign (.tmp 85), type := 23, pos := "outright.go:74", after := #[{ on := 7, ground := .data }, { on := 5, ground := .chain }, { on := 0, ground := .phase }, { on := 1, ground := .phase }, { on := 2, ground := .phase }, { on := 3, ground := .phase }, { on := 4, ground := .phase }, { on := 5, ground := .phase }, { on := 6, ground := .phase }, { on := 7, ground := .phase }, { on := 8, ground := .textOnly .lateStores }], guard := none }) (v := .int .u64 m) rfl (by kernel_rfl) (by kernel_rfl) (by kernel_rfl) (fun _ _ _ h => h) (Or.inl ⟨by rfl, by intro w hSw; clear hSw; go_simp⟩) hS1 ?_
          try simp only [Act.put, List.setIfInBounds_toArray, List.set_cons_zero, List.set_cons_succ]
          refine wpAnyH_take (i := 10) (oi := { dst := some 19, op := .assign (.tmp 86), type := 30, pos := "outright.go:74", after := #[{ on := 8, ground := .data }, { on := 9, ground := .chain }, { on := 0, ground := .phase }, { on := 1, ground := .phase }, { on := 2, ground := .phase }, { on := 3, ground := .phase }, { on := 4, ground := .phase }, { on := 5, ground := .phase }, { on := 6, ground := .phase }, { on := 7, ground := .phase }, { on := 8, ground := .phase }, { on := 9, ground := .phase }], guard := none }) (v := .int .i64 b) rfl (by kernel_rfl) (by kernel_rfl) (by kernel_rfl) (fun _ _ _ h => h) (Or.inl ⟨by rfl, by intro w hSw; clear hSw; go_simp⟩) hS1 ?_
          try simp only [Act.put, List.setIfInBounds_toArray, List.set_cons_zero, List.set_cons_succ]
          refine wpAnyH_done (by kernel_rfl) ?_ _
          obtain ⟨hb0, hm⟩ := gt_nm HY.out.2 hlt hg
          subst hb0
          obtain ⟨z0, z1, z2, z3⟩ := ok_b KY.out HY.out.2 i hlt
          have zx := ok_b HX.out HC.out i hlt
          have c2 := ints_cell (G6.out.bel (KB.out.trans hS1)) i hlt
          rw [fvs_at y i hlt, z3] at c2
          have c1 := ints_cell (F6.out.bel (KB.out.trans hS1)) i hlt
          rw [fvs_at x i hlt, zx.2.2.2] at c1
          rw [z2] at hm
          have HU := Lib.hid (U0.out i hlt)
          have HU1 := Lib.hid (show i = kk → y i = n from fun e => by rw [← z2, e]; exact U1.out)
          obtain ⟨z, hzz⟩ : ∃ z, y i = z := ⟨_, rfl⟩
          rw [hzz] at z0 z1 c2 hm HU HU1
          subst hm
          clear zx z2 z3 hzz hg
          by_cases hik : i = kk
          · subst hik
            obtain rfl := HU1.out rfl
            clear HU HU1 c1
            go_upto_region 17 with fail
            go_quiet (fail)
            go_wp2_with fail
            refine ⟨⟨i + 1, by go_num, by omega, (KB.out.trans hS1).drewN _⟩, ?_⟩
            simp [intOf]; omega
          · rw [← HU.out hik] at c1
            have e1 : ((i : Int) != (kk : Int)) = true := by simpa using (show ¬ ((i : Int) = kk) by omega)
            have e2 : ((i : Int) == (kk : Int)) = false := by simpa using (show ¬ ((i : Int) = kk) by omega)
            clear HU HU1
            go_upto_region 17 with fail
            go_quiet (fail)
            go_wp2_with fail
            refine ⟨⟨i + 1, by go_num, by omega, (KB.out.trans hS1).drewN _⟩, ?_⟩
            simp [intOf]; omega
        · obtain rfl : i = 11 := by omega
          obtain ⟨y0, y1, y2, y3⟩ := ok_b HX.out HC.out kk hk
          have c1 := ints_cell (F6.out.bel KB.out) kk hk
          rw [fvs_at x kk hk, y3] at c1
          have SBK := Lib.hid (show ∀ (r : Nat → Int) (a : Int), St y (nm kk) (x kk) r a → a = 0 ∧ recC r = recC x from fun r a h => by
            rw [HY.out.1] at h
            exact st_back HX.out HC.out hk (by rw [← HY.out.1]; exact HY.out.2) h)
          have SB := Lib.hid (fun V => set y KY.out (nm kk) (x kk) y0 (by omega) V)
          rw [← HE.out] at SB
          obtain ⟨z, hz⟩ : ∃ z, x kk = z := ⟨_, rfl⟩
          rw [hz] at c1 SBK SB y0 y1
          have xz : IntKind.u64.wrap z = z := wrap_in _ (by omega) (by omega)
          have CT := Lib.hid (fun V => checksT y KY.out 0 0 HY.out.2 V)
          rw [← HE.out] at CT
          have ED := Lib.hid (eql_rec x)
          rw [← HDD.out] at ED
          have c1 := Lib.hid (fun (V : World) (h : Bel wr V) => cell_bel c1 h)
          clear hz y2 y3 U0 U1 GC
          go_upto_region 19 with fail
          go_cut [20, 21] (fun s20 s21 wx => ∃ f : Nat, s20 = .pointer (some ⟨f, 0, none⟩) ∧ s21 = .int .i64 0 ∧ Hid (Bel wr wx ∧ wx.rangeAt f 0 D))
          case first =>
            refine wp_region_held_drew (S := fun V => Bel wr V) (by kernel_rfl) (Bel.refl _).drew (fun hS0 => ?_)
            obtain ⟨w6, hw6⟩ : ∃ w6, World.drew wr = w6 := ⟨_, rfl⟩
            rw [hw6] at hS0 ⊢
            clear hw6
            refine wpAnyH_take (i := 0) (oi := { dst := some 125, op := .load 26 (.tmp 14), type := 26, pos := "outright.go:79", after := #[], guard := none }) (v := .agg E.toArray) rfl (by kernel_rfl) (by kernel_rfl) (by kernel_rfl) (fun _ _ _ h => h) (yieldsIf_load_mid (by rfl) _ _ rfl _ _ rfl _ _ (fun w h => rng_bel Q6.out (KB.out.trans h)) uP rfl iE.out) hS0 ?_
            try simp only [Act.put, List.setIfInBounds_toArray, List.set_cons_zero, List.set_cons_succ]
            refine wpAnyH_take (i := 1) (oi := { dst := some 126, op := .move (.tmp 9), type := 28, pos := "outright.go:79", after := #[], guard := none }) (v := .slice (some ⟨l, 0, none⟩) 11 cl) rfl (by kernel_rfl) (by kernel_rfl) (by kernel_rfl) (fun _ _ _ h => h) (Or.inl ⟨by rfl, by intro w hSw; clear hSw; go_simp⟩) hS0 ?_
            try simp only [Act.put, List.setIfInBounds_toArray, List.set_cons_zero, List.set_cons_succ]
            refine wpAnyH_take (i := 2) (oi := { dst := some 127, op := .move (.tmp 12), type := 3, pos := "outright.go:79", after := #[], guard := none }) (v := .int .i64 kk) rfl (by kernel_rfl) (by kernel_rfl) (by kernel_rfl) (fun _ _ _ h => h) (Or.inl ⟨by rfl, by intro w hSw; clear hSw; go_simp⟩) hS0 ?_
            try simp only [Act.put, List.setIfInBounds_toArray, List.set_cons_zero, List.set_cons_succ]
            refine wpAnyH_take (i := 3) (oi := { dst := some 128, op := .indexAddr 28 (.tmp 126) (.tmp 127), type := 0, pos := "outright.go:79", after := #[{ on := 1, ground := .data }, { on := 2, ground := .data }], guard := none }) (v := .pointer (some ⟨l, kk, none⟩)) rfl (by kernel_rfl) (by kernel_rfl) (by kernel_rfl) (fun _ _ _ h => h) (Or.inl ⟨by rfl, by intro w hSw; clear hSw; go_simp⟩) hS0 ?_
            try simp only [Act.put, List.setIfInBounds_toArray, List.set_cons_zero, List.set_cons_succ]
            refine wpAnyH_take (i := 4) (oi := { dst := some 129, op := .load 9 (.tmp 128), type := 9, pos := "outright.go:79", after := #[{ on := 3, ground := .data }], guard := none }) (v := .string (nm kk)) rfl (by kernel_rfl) (by kernel_rfl) (by kernel_rfl) (fun _ _ _ h => h) (Or.inl ⟨by rfl, by intro w h; have hcell := (((N6.out.bel KB.out).bel h) kk hk); clear h; go_simp⟩) hS0 ?_
            try simp only [Act.put, List.setIfInBounds_toArray, List.set_cons_zero, List.set_cons_succ]
            refine wpAnyH_take (i := 5) (oi := { dst := some 130, op := .move (.tmp 13), type := 22, pos := "outright.go:79", after := #[], guard := none }) (v := .slice (some ⟨b1, 0, none⟩) 11 11) rfl (by kernel_rfl) (by kernel_rfl) (by kernel_rfl) (fun _ _ _ h => h) (Or.inl ⟨by rfl, by intro w hSw; clear hSw; go_simp⟩) hS0 ?_
            try simp only [Act.put, List.setIfInBounds_toArray, List.set_cons_zero, List.set_cons_succ]
            refine wpAnyH_take (i := 6) (oi := { dst := some 131, op := .move (.tmp 12), type := 3, pos := "outright.go:79", after := #[], guard := none }) (v := .int .i64 kk) rfl (by kernel_rfl) (by kernel_rfl) (by kernel_rfl) (fun _ _ _ h => h) (Or.inl ⟨by rfl, by intro w hSw; clear hSw; go_simp⟩) hS0 ?_
            try simp only [Act.put, List.setIfInBounds_toArray, List.set_cons_zero, List.set_cons_succ]
            refine wpAnyH_take (i := 7) (oi := { dst := some 132, op := .indexAddr 22 (.tmp 130) (.tmp 131), type := 0, pos := "outright.go:79", after := #[{ on := 5, ground := .data }, { on := 6, ground := .data }], guard := none }) (v := .pointer (some ⟨b1, kk, none⟩)) rfl (by kernel_rfl) (by kernel_rfl) (by kernel_rfl) (fun _ _ _ h => h) (Or.inl ⟨by rfl, by intro w hSw; clear hSw; go_simp⟩) hS0 ?_
            try simp only [Act.put, List.setIfInBounds_toArray, List.set_cons_zero, List.set_cons_succ]
            refine wpAnyH_take (i := 8) (oi := { dst := some 133, op := .load 3 (.tmp 132), type := 3, pos := "outright.go:79", after := #[{ on := 7, ground := .data }], guard := none }) (v := .int .i64 z) rfl (by kernel_rfl) (by kernel_rfl) (by kernel_rfl) (fun _ _ _ h => h) (Or.inl ⟨by rfl, by intro w h; have hcell := (c1.out _ h); clear h; go_simp⟩) hS0 ?_
            try simp only [Act.put, List.setIfInBounds_toArray, List.set_cons_zero, List.set_cons_succ]
            refine wpAnyH_take (i := 9) (oi := { dst := some 134, op := .convert 3 23 (.tmp 133), type := 23, pos := "outright.go:79", after := #[{ on := 8, ground := .data }], guard := none }) (v := .int .u64 z) rfl (by kernel_rfl) (by kernel_rfl) (by kernel_rfl) (fun _ _ _ h => h) (Or.inl ⟨by rfl, by intro w hSw; clear hSw; go_simp⟩) hS0 ?_
            try simp only [Act.put, List.setIfInBounds_toArray, List.set_cons_zero, List.set_cons_succ]
            refine wpAnyH_ready (rs := [10, 14]) (by kernel_rfl) (by simp) ?_
            refine AllReadyH.cons (o := { dst := some 135, op := .call { callee := .value (.func 11), args := #[.tmp 125, .tmp 129, .tmp 134], argTypes := #[26, 9, 23] }, type := 35, pos := "outright.go:79", after := #[{ on := 0, ground := .data }, { on := 4, ground := .data }, { on := 9, ground := .data }], guard := none }) rfl (fun K hK => ?_) (AllReadyH.cons (o := { dst := some 20, op := .alloc 26, type := 0, pos := "outright.go:79", after := #[], guard := none }) rfl (fun K hK => ?_) AllReadyH.nil)
            · skip
              go_simp
              refine (SB.out w6).mono ?_
              rintro e v1 ⟨y, a, rfl, hst, k1⟩
              obtain ⟨Y, hY⟩ : ∃ Y, Y = recC y := ⟨_, rfl⟩
              rw [← hY]
              have HYY := Lib.hid hY
              have YL := Lib.hid (show Y.length = 11 by rw [hY]; rfl)
              have YO := Lib.hid (all_oneCell_toArray (cs := Y) (by rw [hY]; exact recC_cells _))
              have HST := Lib.hid hst
              clear hY hst
              go_wp2_with fail
              have hS1 := hS0.trans k1
              refine hK.out _ _ hS1 (fun _ => ?_)
              clear hK K
              try simp only [Act.put, List.setIfInBounds_toArray, List.set_cons_zero, List.set_cons_succ]
              refine wpAnyH_take (i := 11) (oi := { dst := some 124, op := .move (.tmp 135), type := 35, pos := "outright.go:79", after := #[{ on := 10, ground := .data }], guard := none }) (v := .tuple #[.agg Y.toArray, .int .i64 a]) rfl (by kernel_rfl) (by kernel_rfl) (by kernel_rfl) (fun _ _ _ h => h) (Or.inl ⟨by rfl, by intro w hSw; clear hSw; go_simp⟩) hS1 ?_
              try simp only [Act.put, List.setIfInBounds_toArray, List.set_cons_zero, List.set_cons_succ]
              refine wpAnyH_take (i := 12) (oi := { dst := some 136, op := .extract (.tmp 124) 0, type := 26, pos := "outright.go:79", after := #[{ on := 11, ground := .data }], guard := none }) (v := .agg Y.toArray) rfl (by kernel_rfl) (by kernel_rfl) (by kernel_rfl) (fun _ _ _ h => h) (Or.inl ⟨by rfl, by intro w hSw; clear hSw; go_simp⟩) hS1 ?_
              try simp only [Act.put, List.setIfInBounds_toArray, List.set_cons_zero, List.set_cons_succ]
              refine wpAnyH_take (i := 13) (oi := { dst := some 137, op := .extract (.tmp 124) 1, type := 30, pos := "outright.go:79", after := #[{ on := 11, ground := .data }, { on := 15, ground := .gcOnly .lateStores }], guard := none }) (v := .int .i64 a) rfl (by kernel_rfl) (by kernel_rfl) (by kernel_rfl) (fun _ _ _ h => h) (Or.inl ⟨by rfl, by intro w hSw; clear hSw; go_simp⟩) hS1 ?_
              try simp only [Act.put, List.setIfInBounds_toArray, List.set_cons_zero, List.set_cons_succ]
              refine wpAnyH_ready (rs := [14]) (by kernel_rfl) (by simp) ?_
              refine AllReadyH.cons (o := { dst := some 20, op := .alloc 26, type := 0, pos := "outright.go:79", after := #[], guard := none }) rfl (fun K hK => ?_) AllReadyH.nil
              go_simp
              have hS2 := hS1.trans ((Bel.refl v1).alloc (.cells #[.int .i64 0, .int .i64 0, .int .i64 0, .int .i64 0, .int .i64 0, .int .i64 0, .int .i64 0, .int .u64 0, .int .u64 0, .int .i64 0, .int .u64 0] 26))
              refine hK.out _ _ hS2 (fun _ => ?_)
              clear hK K
              try simp only [Act.put, List.setIfInBounds_toArray, List.set_cons_zero, List.set_cons_succ]
              have G2 : Blk (World.alloc v1 (.cells #[.int .i64 0, .int .i64 0, .int .i64 0, .int .i64 0, .int .i64 0, .int .i64 0, .int .i64 0, .int .u64 0, .int .u64 0, .int .i64 0, .int .u64 0] 26)) (World.heap v1).size (recC fun _ => 0).toArray 26 := Blk.new v1 _ _
              have hg0 := Below.size hS1
              obtain ⟨g, hg⟩ : ∃ g, (World.heap v1).size = g := ⟨_, rfl⟩
              obtain ⟨v2, hv⟩ : ∃ v, World.alloc v1 (.cells #[.int .i64 0, .int .i64 0, .int .i64 0, .int .i64 0, .int .i64 0, .int .i64 0, .int .i64 0, .int .u64 0, .int .u64 0, .int .i64 0, .int .u64 0] 26) = v := ⟨_, rfl⟩
              rw [hv] at hS2 G2 ⊢
              rw [hg] at G2 hg0 ⊢
              clear hg hv
              refine wpAnyH_ready (rs := [15]) (by kernel_rfl) (by simp) ?_
              refine AllReadyH.cons (o := { dst := none, op := .store 26 (.tmp 20) (.tmp 136), type := 0, pos := "outright.go:79", after := #[{ on := 14, ground := .data }, { on := 12, ground := .data }, { on := 10, ground := .chain }, { on := 0, ground := .phase }, { on := 1, ground := .phase }, { on := 2, ground := .phase }, { on := 3, ground := .phase }, { on := 4, ground := .phase }, { on := 5, ground := .phase }, { on := 6, ground := .phase }, { on := 7, ground := .phase }, { on := 8, ground := .phase }, { on := 9, ground := .phase }, { on := 10, ground := .phase }, { on := 11, ground := .phase }, { on := 12, ground := .phase }, { on := 13, ground := .textOnly .lateStores }, { on := 14, ground := .phase }], guard := none }) rfl (fun K hK => ?_) AllReadyH.nil
              rw [if_pos (by rfl)]
              refine wp_store_mid 26 (.tmp 20) (.tmp 136) rfl g 0 Y.toArray rfl rfl (bthere G2 0 _ (by rw [List.size_toArray, YL.out]; exact Nat.le_refl 11)) (by rw [List.size_toArray, YL.out]; exact info_rec) YO.out ?_
              have hSE : Bel wr (World.setCells v2 g 0 Y.toArray.toList) := bel_setCells hS2 hg0 0 _
              have rSE : (World.setCells v2 g 0 Y.toArray.toList).rangeAt g 0 Y := rngB (bwhole G2 (by rw [List.toList_toArray, YL.out]; rfl))
              have E9 := Lib.hid (And.intro hSE rSE)
              refine hK.out _ _ hSE (fun _ => ?_)
              clear hK K rSE
              try simp only [Act.put]
              refine wpAnyH_take (i := 16) (oi := { dst := some 21, op := .assign (.tmp 137), type := 30, pos := "outright.go:79", after := #[{ on := 13, ground := .data }, { on := 15, ground := .chain }, { on := 0, ground := .phase }, { on := 1, ground := .phase }, { on := 2, ground := .phase }, { on := 3, ground := .phase }, { on := 4, ground := .phase }, { on := 5, ground := .phase }, { on := 6, ground := .phase }, { on := 7, ground := .phase }, { on := 8, ground := .phase }, { on := 9, ground := .phase }, { on := 10, ground := .phase }, { on := 11, ground := .phase }, { on := 12, ground := .phase }, { on := 13, ground := .phase }, { on := 14, ground := .phase }, { on := 15, ground := .phase }], guard := none }) (v := .int .i64 a) rfl (by kernel_rfl) (by kernel_rfl) (by kernel_rfl) (fun _ _ _ h => h) (Or.inl ⟨by rfl, by intro w hSw; clear hSw; go_simp⟩) hSE ?_
              try simp only [Act.put, List.setIfInBounds_toArray, List.set_cons_zero, List.set_cons_succ]
              refine wpAnyH_done (by kernel_rfl) ?_ _
              go_wp2_with fail
              go_meet
              obtain ⟨ha, hr⟩ := SBK.out _ _ HST.out
              subst ha
              exact ⟨g, rfl, rfl, by rw [HDD.out, ← hr, ← HYY.out]; exact E9⟩
            · skip
              go_simp
              have hS1 := hS0.trans ((Bel.refl w6).alloc (.cells #[.int .i64 0, .int .i64 0, .int .i64 0, .int .i64 0, .int .i64 0, .int .i64 0, .int .i64 0, .int .u64 0, .int .u64 0, .int .i64 0, .int .u64 0] 26))
              refine hK.out _ _ hS1 (fun _ => ?_)
              clear hK K
              try simp only [Act.put, List.setIfInBounds_toArray, List.set_cons_zero, List.set_cons_succ]
              have G1 : Blk (World.alloc w6 (.cells #[.int .i64 0, .int .i64 0, .int .i64 0, .int .i64 0, .int .i64 0, .int .i64 0, .int .i64 0, .int .u64 0, .int .u64 0, .int .i64 0, .int .u64 0] 26)) (World.heap w6).size (recC fun _ => 0).toArray 26 := Blk.new w6 _ _
              have hg0 := Below.size hS0
              obtain ⟨g, hg⟩ : ∃ g, (World.heap w6).size = g := ⟨_, rfl⟩
              obtain ⟨v1, hv⟩ : ∃ v, World.alloc w6 (.cells #[.int .i64 0, .int .i64 0, .int .i64 0, .int .i64 0, .int .i64 0, .int .i64 0, .int .i64 0, .int .u64 0, .int .u64 0, .int .i64 0, .int .u64 0] 26) = v := ⟨_, rfl⟩
              rw [hv] at hS1 G1 ⊢
              rw [hg] at G1 hg0 ⊢
              clear hg hv
              refine wpAnyH_ready (rs := [10]) (by kernel_rfl) (by simp) ?_
              refine AllReadyH.cons (o := { dst := some 135, op := .call { callee := .value (.func 11), args := #[.tmp 125, .tmp 129, .tmp 134], argTypes := #[26, 9, 23] }, type := 35, pos := "outright.go:79", after := #[{ on := 0, ground := .data }, { on := 4, ground := .data }, { on := 9, ground := .data }], guard := none }) rfl (fun K hK => ?_) AllReadyH.nil
              go_simp
              refine (SB.out v1).mono ?_
              rintro e v2 ⟨y, a, rfl, hst, k2⟩
              obtain ⟨Y, hY⟩ : ∃ Y, Y = recC y := ⟨_, rfl⟩
              rw [← hY]
              have HYY := Lib.hid hY
              have YL := Lib.hid (show Y.length = 11 by rw [hY]; rfl)
              have YO := Lib.hid (all_oneCell_toArray (cs := Y) (by rw [hY]; exact recC_cells _))
              have HST := Lib.hid hst
              clear hY hst
              go_wp2_with fail
              have hS2 := hS1.trans k2
              refine hK.out _ _ hS2 (fun _ => ?_)
              clear hK K
              try simp only [Act.put, List.setIfInBounds_toArray, List.set_cons_zero, List.set_cons_succ]
              refine wpAnyH_take (i := 11) (oi := { dst := some 124, op := .move (.tmp 135), type := 35, pos := "outright.go:79", after := #[{ on := 10, ground := .data }], guard := none }) (v := .tuple #[.agg Y.toArray, .int .i64 a]) rfl (by kernel_rfl) (by kernel_rfl) (by kernel_rfl) (fun _ _ _ h => h) (Or.inl ⟨by rfl, by intro w hSw; clear hSw; go_simp⟩) hS2 ?_
              try simp only [Act.put, List.setIfInBounds_toArray, List.set_cons_zero, List.set_cons_succ]
              refine wpAnyH_take (i := 12) (oi := { dst := some 136, op := .extract (.tmp 124) 0, type := 26, pos := "outright.go:79", after := #[{ on := 11, ground := .data }], guard := none }) (v := .agg Y.toArray) rfl (by kernel_rfl) (by kernel_rfl) (by kernel_rfl) (fun _ _ _ h => h) (Or.inl ⟨by rfl, by intro w hSw; clear hSw; go_simp⟩) hS2 ?_
              try simp only [Act.put, List.setIfInBounds_toArray, List.set_cons_zero, List.set_cons_succ]
              refine wpAnyH_take (i := 13) (oi := { dst := some 137, op := .extract (.tmp 124) 1, type := 30, pos := "outright.go:79", after := #[{ on := 11, ground := .data }, { on := 15, ground := .gcOnly .lateStores }], guard := none }) (v := .int .i64 a) rfl (by kernel_rfl) (by kernel_rfl) (by kernel_rfl) (fun _ _ _ h => h) (Or.inl ⟨by rfl, by intro w hSw; clear hSw; go_simp⟩) hS2 ?_
              try simp only [Act.put, List.setIfInBounds_toArray, List.set_cons_zero, List.set_cons_succ]
              have G2 := G1.bel k2
              refine wpAnyH_ready (rs := [15]) (by kernel_rfl) (by simp) ?_
              refine AllReadyH.cons (o := { dst := none, op := .store 26 (.tmp 20) (.tmp 136), type := 0, pos := "outright.go:79", after := #[{ on := 14, ground := .data }, { on := 12, ground := .data }, { on := 10, ground := .chain }, { on := 0, ground := .phase }, { on := 1, ground := .phase }, { on := 2, ground := .phase }, { on := 3, ground := .phase }, { on := 4, ground := .phase }, { on := 5, ground := .phase }, { on := 6, ground := .phase }, { on := 7, ground := .phase }, { on := 8, ground := .phase }, { on := 9, ground := .phase }, { on := 10, ground := .phase }, { on := 11, ground := .phase }, { on := 12, ground := .phase }, { on := 13, ground := .textOnly .lateStores }, { on := 14, ground := .phase }], guard := none }) rfl (fun K hK => ?_) AllReadyH.nil
              rw [if_pos (by rfl)]
              refine wp_store_mid 26 (.tmp 20) (.tmp 136) rfl g 0 Y.toArray rfl rfl (bthere G2 0 _ (by rw [List.size_toArray, YL.out]; exact Nat.le_refl 11)) (by rw [List.size_toArray, YL.out]; exact info_rec) YO.out ?_
              have hSE : Bel wr (World.setCells v2 g 0 Y.toArray.toList) := bel_setCells hS2 hg0 0 _
              have rSE : (World.setCells v2 g 0 Y.toArray.toList).rangeAt g 0 Y := rngB (bwhole G2 (by rw [List.toList_toArray, YL.out]; rfl))
              have E9 := Lib.hid (And.intro hSE rSE)
              refine hK.out _ _ hSE (fun _ => ?_)
              clear hK K rSE
              try simp only [Act.put]
              refine wpAnyH_take (i := 16) (oi := { dst := some 21, op := .assign (.tmp 137), type := 30, pos := "outright.go:79", after := #[{ on := 13, ground := .data }, { on := 15, ground := .chain }, { on := 0, ground := .phase }, { on := 1, ground := .phase }, { on := 2, ground := .phase }, { on := 3, ground := .phase }, { on := 4, ground := .phase }, { on := 5, ground := .phase }, { on := 6, ground := .phase }, { on := 7, ground := .phase }, { on := 8, ground := .phase }, { on := 9, ground := .phase }, { on := 10, ground := .phase }, { on := 11, ground := .phase }, { on := 12, ground := .phase }, { on := 13, ground := .phase }, { on := 14, ground := .phase }, { on := 15, ground := .phase }], guard := none }) (v := .int .i64 a) rfl (by kernel_rfl) (by kernel_rfl) (by kernel_rfl) (fun _ _ _ h => h) (Or.inl ⟨by rfl, by intro w hSw; clear hSw; go_simp⟩) hSE ?_
              try simp only [Act.put, List.setIfInBounds_toArray, List.set_cons_zero, List.set_cons_succ]
              refine wpAnyH_done (by kernel_rfl) ?_ _
              go_wp2_with fail
              go_meet
              obtain ⟨ha, hr⟩ := SBK.out _ _ HST.out
              subst ha
              exact ⟨g, rfl, rfl, by rw [HDD.out, ← hr, ← HYY.out]; exact E9⟩
          case rest =>
            obtain ⟨f, rfl, rfl, h9⟩ := hcut
            have B9 := Lib.hid ((B6.out.trans KB.out).trans h9.out.1)
            have R9 := Lib.hid (rng_bel (rng_bel R6.out KB.out) h9.out.1)
            have Q9 := Lib.hid (rng_bel (rng_bel Q6.out KB.out) h9.out.1)
            have S9 := Lib.hid h9.out.2
            clear h9 c1 SB SBK
            go_wp2_with (first | ((with_reducible refine wpList_load_g ?_ 26 (.tmp 20) ?_ f 0 ?_ D _ S9.out uP ?_ iP.out ?_); rfl; rfl; rfl; rfl) | ((with_reducible refine wpList_load_g ?_ 26 (.tmp 8) ?_ d 0 ?_ D _ R9.out uP ?_ iP.out ?_); rfl; rfl; rfl; rfl) | ((with_reducible refine wpList_load_g ?_ 26 (.tmp 14) ?_ ee 0 ?_ E _ Q9.out uP ?_ iE.out ?_); rfl; rfl; rfl; rfl) | (refine wpList_val (by rfl) (.bool true) (fun w => exec_eql rfl D.toArray D.toArray rfl rfl (by kernel_rfl) (fun w => ED.out w) w) ?_))
            refine (CT.out wc).mono ?_
            rintro e v9 ⟨rfl, k9⟩
            go_wp2_with fail
            go_ret
            exact ⟨rfl, B9.out.trans k9⟩
    · have hy : y = zr ∧ (a = 3 ∨ (a = 9 ∧ kk < 2)) := by
        rcases HST.out with h | h
        · exact absurd h.1 h0
        · exact ⟨h.1, h.2.2.2⟩
      have HZR := Lib.hid (show E.toArray = #[.int .i64 0, .int .i64 0, .int .i64 0, .int .i64 0, .int .i64 0, .int .i64 0, .int .i64 0, .int .u64 0, .int .u64 0, .int .i64 0, .int .u64 0] by rw [HE.out, hy.1]; rfl)
      have ha := hy.2
      clear hy HST
      rw [HZR.out] at EE
      rcases ha with rfl | ⟨rfl, hk2⟩
      · go_wp2_with (first | ((with_reducible refine wpList_load_g ?_ 26 (.tmp 14) ?_ ee 0 ?_ E _ Q5.out uP ?_ iE.out ?_); rfl; rfl; rfl; rfl; rw [HZR.out]) | (refine wpList_val (by rfl) (.bool true) (fun w => exec_eql rfl #[.int .i64 0, .int .i64 0, .int .i64 0, .int .i64 0, .int .i64 0, .int .i64 0, .int .i64 0, .int .u64 0, .int .u64 0, .int .i64 0, .int .u64 0] #[.int .i64 0, .int .i64 0, .int .i64 0, .int .i64 0, .int .i64 0, .int .i64 0, .int .i64 0, .int .u64 0, .int .u64 0, .int .i64 0, .int .u64 0] rfl rfl (by kernel_rfl) (fun w => EE.out w) w) ?_))
        go_ret
        exact ⟨rfl, B5.out⟩
      · have hk3 : (kk : Int) < 2 := by omega
        go_wp2_with (first | ((with_reducible refine wpList_load_g ?_ 26 (.tmp 14) ?_ ee 0 ?_ E _ Q5.out uP ?_ iE.out ?_); rfl; rfl; rfl; rfl; rw [HZR.out]) | (refine wpList_val (by rfl) (.bool true) (fun w => exec_eql rfl #[.int .i64 0, .int .i64 0, .int .i64 0, .int .i64 0, .int .i64 0, .int .i64 0, .int .i64 0, .int .u64 0, .int .u64 0, .int .i64 0, .int .u64 0] #[.int .i64 0, .int .i64 0, .int .i64 0, .int .i64 0, .int .i64 0, .int .i64 0, .int .i64 0, .int .u64 0, .int .u64 0, .int .i64 0, .int .u64 0] rfl rfl (by kernel_rfl) (fun w => EE.out w) w) ?_))
        go_ret
        exact ⟨rfl, B5.out⟩
theorem setLaw (A : Option Addr) (ln cp : Nat) (zs : List Int) (wh n : Int) (w : World) (hi : Ints .i64 w A ln zs) (hz : ∀ z ∈ zs, -9223372036854775808 ≤ z ∧ z ≤ 9223372036854775807) (hl : ln ≤ maxLen)
    (hw : (Lit.int .i64 wh).wf = true) (hn : 0 ≤ n ∧ n ≤ 18446744073709551615) (htab : Tab w) :
    Calls Tryd.prog 3 #[.slice A ln cp, .int .i64 wh, .int .u64 n] w fun e w' => e = .returned (.bool true) ∧ Bel w w' := by
  have h : -9223372036854775808 ≤ wh ∧ wh ≤ 9223372036854775807 := by
    simp [Lit.wf, IntKind.min, IntKind.max, IntKind.signed, IntKind.bits] at hw
    exact ⟨by omega, by omega⟩
  exact set_ A ln cp zs wh n w hi hl hz h.1 h.2 hn.1 hn.2 htab
end Pm
end Go.Proofs.YtkblbcdinibncaaDoor
