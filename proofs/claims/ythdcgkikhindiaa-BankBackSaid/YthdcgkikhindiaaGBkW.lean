/-
  The law BankBack returns true. Conditions: what comes in is of its kinds.
-/
import Derived.Test.YthdcgkikhindiaaGBkQ
import Derived.Test.YthdcgkikhindiaaGBkO
namespace Go.Proofs.Ythdcgkikhindiaa
open Go.RowKit Go.Shelf
set_option linter.unusedVariables false
namespace Bk
open Pm

set_option maxRecDepth 20000 in
set_option maxHeartbeats 16000000 in
theorem backLaw (A : Option Addr) (n c : Nat) (zs0 : List Int) (ax fx tx mx ay fy ty my : Int) (w : World) (hi : SU w A n c zs0) (hn : n ≤ 9223372036854775807) (hz : Words zs0) (hbx : ActB ax fx tx mx) (hby : ActB ay fy ty my) :
    Calls Try.prog 7 #[.slice A n c, actV ax fx tx mx, actV ay fy ty my] w fun e w' => e = .returned (.bool true) ∧ Kk.Bel w w' := by
  have uB := Try.underlying26
  have uA := Try.underlying41
  have HI := Lib.hid hi
  have HZ0 := Lib.hid hz
  have HBX := Lib.hid hbx
  have HBY := Lib.hid hby
  obtain ⟨W0, hW0⟩ : ∃ W0, w.alloc (.cells #[.int .i64 ax, .int .i64 fx, .int .i64 tx, .int .u64 mx] 41) = W0 := ⟨_, rfl⟩
  obtain ⟨W1, hW1⟩ : ∃ W1, W0.alloc (.cells #[.int .i64 ay, .int .i64 fy, .int .i64 ty, .int .u64 my] 41) = W1 := ⟨_, rfl⟩
  obtain ⟨p, hp⟩ : ∃ p, w.heap.size = p := ⟨_, rfl⟩
  have hs0 : W0.heap.size = p + 1 := by rw [← hW0, ← hp, World.size_alloc]
  have KB := Lib.hid (show Kk.Bel w W1 by rw [← hW1, ← hW0]; exact ((Kk.Bel.refl w).alloc _).alloc _)
  have AX := Lib.hid (show Kk.Blk W1 p ([.int .i64 ax, .int .i64 fx, .int .i64 tx, .int .u64 mx] : List Value).toArray 41 by rw [← hW1, ← hp, ← hW0]; exact (Kk.Blk.new w _ _).alloc _)
  have AY := Lib.hid (show Kk.Blk W1 (p + 1) ([.int .i64 ay, .int .i64 fy, .int .i64 ty, .int .u64 my] : List Value).toArray 41 by rw [← hW1, ← hs0]; exact Kk.Blk.new W0 _ _)
  have HP0 := Lib.hid (show w.heap.size ≤ p by omega)
  have HP := Lib.hid hp
  have HW0 := Lib.hid hW0
  have HW1 := Lib.hid hW1
  clear hi hz hbx hby hp hW0 hW1 hs0
  go_enter Try.func7, Try.ntmps7
  go_upto_region 1 with fail
  rw [HW0.out, HP.out, HW1.out]
  go_wp2_with fail
  refine (known W1).mono ?_
  rintro e w1 ⟨rfl, k1⟩
  have KB := Lib.hid (KB.out.trans k1)
  have AX := Lib.hid (AX.out.bel k1)
  have AY := Lib.hid (AY.out.bel k1)
  clear k1
  go_wp2_with fail
  refine (some_ A n c zs0 w1 (HI.out.bel KB.out) hn HZ0.out).mono ?_
  rintro e w2 ⟨Y, zs, rfl, hnb, hck⟩
  have NN := Lib.hid (NB.after KB.out hnb)
  have HCK := Lib.hid hck
  have PT := Lib.hid (put_there w2 Y hnb.2.len)
  have PI := Lib.hid hnb.infoA
  have PO := Lib.hid hnb.one
  have hpb := put_bel w2 Y
  have AY0 := Lib.hid AY.out
  have AX := Lib.hid ((AX.out.bel hnb.bel).bel hpb)
  have AY := Lib.hid ((AY.out.bel hnb.bel).bel hpb)
  have hlt2 : p + 1 < w2.heap.size := Nat.lt_of_lt_of_le AY0.out.lt (Below.size hnb.bel)
  clear hnb hck hpb AY0
  go_upto_region 3 with ((with_reducible refine wpList_store_mid ?_ 26 (.tmp 8) (.tmp 23) ?_ (World.heap w2).size 0 Y.toArray ?_ ?_ PT.out PI.out PO.out ?_); rfl; rfl; rfl; rfl)
  have VB := Lib.hid (put_var NN.out (Kk.Bel.refl _))
  obtain ⟨b, hb⟩ : ∃ q, (World.heap w2).size = q := ⟨_, rfl⟩
  obtain ⟨w3, hw⟩ : ∃ v, (World.alloc w2 (.cells ZB 26)).setCells (World.heap w2).size 0 Y = v := ⟨_, rfl⟩
  rw [hw]
  rw [hw] at VB AX AY
  rw [hb] at VB ⊢
  rw [hb] at hlt2
  have NBP := Lib.hid (show b ≠ p ∧ b ≠ p + 1 by omega)
  clear hw hb PT PI PO NN hlt2 KB
  simp only [Act.put]
  go_cut [4, 5] (fun s4 s5 wx => ∃ (a1 f1 t1 m1 a2 f2 t2 m2 : Int), s4 = .pointer (some ⟨p, 0, none⟩) ∧ s5 = .pointer (some ⟨p + 1, 0, none⟩) ∧ Hid (Near a1 m1 ∧ Near a2 m2 ∧ Var w wx b Y zs [0, 0, 0, 0] ∧ Kk.Blk wx p ([.int .i64 a1, .int .i64 f1, .int .i64 t1, .int .u64 m1] : List Value).toArray 41 ∧ Kk.Blk wx (p + 1) ([.int .i64 a2, .int .i64 f2, .int .i64 t2, .int .u64 m2] : List Value).toArray 41))
  case first =>
    refine wp_region_held_drew (S := fun V => V.rangeAt b 0 Y) (by kernel_rfl) (rng_bel (Var.rng VB.out) (Kk.Bel.refl _).drew) (fun hS0 => ?_)
    have k0 := (Kk.Bel.refl w3).drew
    obtain ⟨v0, hv0⟩ : ∃ v0, World.drew w3 = v0 := ⟨_, rfl⟩
    rw [hv0] at hS0 k0 ⊢
    clear hv0
    refine wpAnyH_take (i := 0) (oi := { dst := some 24, op := .load 26 (.tmp 8), type := 26, pos := "outright.go:130", after := #[], guard := none }) (v := .agg Y.toArray) rfl (by kernel_rfl) (by kernel_rfl) (by kernel_rfl) (fun _ _ _ h => h) (yieldsIf_load_mid (by rfl) _ _ rfl _ _ rfl _ _ (fun w h => h) uB rfl (NB.info VB.out.nb)) hS0 ?_
    try simp only [Act.put, List.setIfInBounds_toArray, List.set_cons_zero, List.set_cons_succ]
    refine wpAnyH_take (i := 3) (oi := { dst := some 27, op := .load 26 (.tmp 8), type := 26, pos := "outright.go:130", after := #[], guard := none }) (v := .agg Y.toArray) rfl (by kernel_rfl) (by kernel_rfl) (by kernel_rfl) (fun _ _ _ h => h) (yieldsIf_load_mid (by rfl) _ _ rfl _ _ rfl _ _ (fun w h => h) uB rfl (NB.info VB.out.nb)) hS0 ?_
    try simp only [Act.put, List.setIfInBounds_toArray, List.set_cons_zero, List.set_cons_succ]
    refine wpAnyH_ready (rs := [1, 4]) (by kernel_rfl) (by simp) ?_
    refine AllReadyH.cons (o := { dst := some 25, op := .load 41 (.tmp 4), type := 41, pos := "outright.go:130", after := #[], guard := none }) rfl (fun K hK => ?_) (AllReadyH.cons (o := { dst := some 28, op := .load 41 (.tmp 5), type := 41, pos := "outright.go:130", after := #[], guard := none }) rfl (fun K hK => ?_) AllReadyH.nil)
    · skip
      rw [if_pos (by rfl)]
      refine wp_load_mid 41 (.tmp 4) rfl p 0 rfl [.int .i64 ax, .int .i64 fx, .int .i64 tx, .int .u64 mx] _ (rngB (AX.out.bel k0)) uA rfl info_act ?_
      refine hK.out _ _ hS0 (fun _ => ?_)
      clear hK K
      try simp only [Act.put, List.setIfInBounds_toArray, List.set_cons_zero, List.set_cons_succ]
      refine wpAnyH_ready (rs := [2, 4]) (by kernel_rfl) (by simp) ?_
      refine AllReadyH.cons (o := { dst := some 26, op := .call { callee := .value (.func 39), args := #[.tmp 24, .tmp 25], argTypes := #[26, 41] }, type := 41, pos := "outright.go:130", after := #[{ on := 0, ground := .data }, { on := 1, ground := .data }], guard := none }) rfl (fun K hK => ?_) (AllReadyH.cons (o := { dst := some 28, op := .load 41 (.tmp 5), type := 41, pos := "outright.go:130", after := #[], guard := none }) rfl (fun K hK => ?_) AllReadyH.nil)
      · skip
        go_simp
        refine (near ax fx tx mx Y zs [0, 0, 0, 0] v0 (VB.out.bv.bel k0) HBX.out).mono ?_
        rintro e v2 ⟨a1, f1, t1, m1, rfl, n1, j2⟩
        go_wp2_with fail
        have k2 := k0.trans j2
        have hS2 := rng_bel hS0 j2
        refine hK.out _ _ hS2 (fun _ => ?_)
        clear hK K j2
        try simp only [Act.put, List.setIfInBounds_toArray, List.set_cons_zero, List.set_cons_succ]
        refine wpAnyH_ready (rs := [4]) (by kernel_rfl) (by simp) ?_
        refine AllReadyH.cons (o := { dst := some 28, op := .load 41 (.tmp 5), type := 41, pos := "outright.go:130", after := #[], guard := none }) rfl (fun K hK => ?_) AllReadyH.nil
        rw [if_pos (by rfl)]
        refine wp_load_mid 41 (.tmp 5) rfl (p + 1) 0 rfl [.int .i64 ay, .int .i64 fy, .int .i64 ty, .int .u64 my] _ (rngB (AY.out.bel k2)) uA rfl info_act ?_
        refine hK.out _ _ hS2 (fun _ => ?_)
        clear hK K
        try simp only [Act.put, List.setIfInBounds_toArray, List.set_cons_zero, List.set_cons_succ]
        refine wpAnyH_ready (rs := [5]) (by kernel_rfl) (by simp) ?_
        refine AllReadyH.cons (o := { dst := some 29, op := .call { callee := .value (.func 39), args := #[.tmp 27, .tmp 28], argTypes := #[26, 41] }, type := 41, pos := "outright.go:130", after := #[{ on := 3, ground := .data }, { on := 4, ground := .data }, { on := 2, ground := .chain }], guard := none }) rfl (fun K hK => ?_) AllReadyH.nil
        go_simp
        refine (near ay fy ty my Y zs [0, 0, 0, 0] v2 (VB.out.bv.bel k2) HBY.out).mono ?_
        rintro e v4 ⟨a2, f2, t2, m2, rfl, n2, j4⟩
        go_wp2_with fail
        have k4 := k2.trans j4
        have hS4 := rng_bel hS2 j4
        refine hK.out _ _ hS4 (fun _ => ?_)
        clear hK K j4
        try simp only [Act.put, List.setIfInBounds_toArray, List.set_cons_zero, List.set_cons_succ]
        refine wpAnyH_ready (rs := [6]) (by kernel_rfl) (by simp) ?_
        refine AllReadyH.cons (o := { dst := none, op := .store 41 (.tmp 4) (.tmp 26), type := 0, pos := "outright.go:130", after := #[{ on := 2, ground := .data }, { on := 5, ground := .chain }, { on := 0, ground := .phase }, { on := 1, ground := .phase }, { on := 2, ground := .phase }, { on := 3, ground := .textOnly .lateStores }, { on := 4, ground := .textOnly .lateStores }, { on := 5, ground := .textOnly .lateStoresUnsure }], guard := none }) rfl (fun K hK => ?_) AllReadyH.nil
        rw [if_pos (by rfl)]
        have q1 := AX.out.bel k4
        refine wp_store_mid 41 (.tmp 4) (.tmp 26) rfl p 0 #[.int .i64 a1, .int .i64 f1, .int .i64 t1, .int .u64 m1] rfl rfl (bthere q1 0 _ (Nat.le_refl 4)) info_act (act_one _ _ _ _) ?_
        have hS6 := rng_kep hS4 (kep_setCells p [.int .i64 a1, .int .i64 f1, .int .i64 t1, .int .u64 m1] 0 v4) NBP.out.1
        have V6 := NB.var (FB.same ((VB.out.bel k4).nb.1.set (g := p) (Y := [.int .i64 a1, .int .i64 f1, .int .i64 t1, .int .u64 m1]) (o := 0) q1 (by decide) HP0.out) VB.out.good) ((VB.out.bel k4).blk.kep (kep_setCells p [.int .i64 a1, .int .i64 f1, .int .i64 t1, .int .u64 m1] 0 v4) NBP.out.1) VB.out.le
        have X6 : Kk.Blk (World.setCells v4 p 0 [.int .i64 a1, .int .i64 f1, .int .i64 t1, .int .u64 m1]) p [.int .i64 a1, .int .i64 f1, .int .i64 t1, .int .u64 m1].toArray 41 := bwhole q1 rfl
        have Y6 := (AY.out.bel k4).kep (kep_setCells p [.int .i64 a1, .int .i64 f1, .int .i64 t1, .int .u64 m1] 0 v4) (by omega)
        refine hK.out _ _ hS6 (fun _ => ?_)
        clear hK K
        try simp only [Act.put]
        obtain ⟨v6, hv6⟩ : ∃ v, World.setCells v4 p 0 [.int .i64 a1, .int .i64 f1, .int .i64 t1, .int .u64 m1] = v := ⟨_, rfl⟩
        rw [hv6] at hS6 V6 X6 Y6 ⊢
        clear hv6
        refine wpAnyH_ready (rs := [7]) (by kernel_rfl) (by simp) ?_
        refine AllReadyH.cons (o := { dst := none, op := .store 41 (.tmp 5) (.tmp 29), type := 0, pos := "outright.go:130", after := #[{ on := 5, ground := .data }, { on := 6, ground := .chain }, { on := 0, ground := .phase }, { on := 1, ground := .phase }, { on := 2, ground := .phase }, { on := 3, ground := .phase }, { on := 4, ground := .phase }, { on := 5, ground := .phase }, { on := 6, ground := .phase }], guard := none }) rfl (fun K hK => ?_) AllReadyH.nil
        rw [if_pos (by rfl)]
        refine wp_store_mid 41 (.tmp 5) (.tmp 29) rfl (p + 1) 0 #[.int .i64 a2, .int .i64 f2, .int .i64 t2, .int .u64 m2] rfl rfl (bthere Y6 0 _ (Nat.le_refl 4)) info_act (act_one _ _ _ _) ?_
        have hS7 := rng_kep hS6 (kep_setCells (p + 1) [.int .i64 a2, .int .i64 f2, .int .i64 t2, .int .u64 m2] 0 v6) NBP.out.2
        have V7 := NB.var (FB.same (V6.nb.1.set (g := p + 1) (Y := [.int .i64 a2, .int .i64 f2, .int .i64 t2, .int .u64 m2]) (o := 0) Y6 (by decide) (Nat.le_trans HP0.out (Nat.le_succ p))) VB.out.good) (V6.blk.kep (kep_setCells (p + 1) [.int .i64 a2, .int .i64 f2, .int .i64 t2, .int .u64 m2] 0 v6) NBP.out.2) VB.out.le
        have X7 := X6.kep (kep_setCells (p + 1) [.int .i64 a2, .int .i64 f2, .int .i64 t2, .int .u64 m2] 0 v6) (by omega)
        have Y7 : Kk.Blk (World.setCells v6 (p + 1) 0 [.int .i64 a2, .int .i64 f2, .int .i64 t2, .int .u64 m2]) (p + 1) [.int .i64 a2, .int .i64 f2, .int .i64 t2, .int .u64 m2].toArray 41 := bwhole Y6 rfl
        have HH := Lib.hid (And.intro V7 (And.intro X7 Y7))
        clear V7 X7 Y7
        refine hK.out _ _ hS7 (fun _ => ?_)
        clear hK K
        try simp only [Act.put]
        refine wpAnyH_done (by kernel_rfl) ?_ _
        go_wp2_with fail
        go_meet
        exact ⟨a1, f1, t1, m1, a2, f2, t2, m2, rfl, rfl, Lib.hid ⟨n1, n2, HH.out.1, HH.out.2.1, HH.out.2.2⟩⟩
      · skip
        rw [if_pos (by rfl)]
        refine wp_load_mid 41 (.tmp 5) rfl (p + 1) 0 rfl [.int .i64 ay, .int .i64 fy, .int .i64 ty, .int .u64 my] _ (rngB (AY.out.bel k0)) uA rfl info_act ?_
        refine hK.out _ _ hS0 (fun _ => ?_)
        clear hK K
        try simp only [Act.put, List.setIfInBounds_toArray, List.set_cons_zero, List.set_cons_succ]
        refine wpAnyH_ready (rs := [2]) (by kernel_rfl) (by simp) ?_
        refine AllReadyH.cons (o := { dst := some 26, op := .call { callee := .value (.func 39), args := #[.tmp 24, .tmp 25], argTypes := #[26, 41] }, type := 41, pos := "outright.go:130", after := #[{ on := 0, ground := .data }, { on := 1, ground := .data }], guard := none }) rfl (fun K hK => ?_) AllReadyH.nil
        go_simp
        refine (near ax fx tx mx Y zs [0, 0, 0, 0] v0 (VB.out.bv.bel k0) HBX.out).mono ?_
        rintro e v6 ⟨a1, f1, t1, m1, rfl, n1, j6⟩
        go_wp2_with fail
        have k6 := k0.trans j6
        have hS6 := rng_bel hS0 j6
        refine hK.out _ _ hS6 (fun _ => ?_)
        clear hK K j6
        try simp only [Act.put, List.setIfInBounds_toArray, List.set_cons_zero, List.set_cons_succ]
        refine wpAnyH_ready (rs := [5]) (by kernel_rfl) (by simp) ?_
        refine AllReadyH.cons (o := { dst := some 29, op := .call { callee := .value (.func 39), args := #[.tmp 27, .tmp 28], argTypes := #[26, 41] }, type := 41, pos := "outright.go:130", after := #[{ on := 3, ground := .data }, { on := 4, ground := .data }, { on := 2, ground := .chain }], guard := none }) rfl (fun K hK => ?_) AllReadyH.nil
        go_simp
        refine (near ay fy ty my Y zs [0, 0, 0, 0] v6 (VB.out.bv.bel k6) HBY.out).mono ?_
        rintro e v7 ⟨a2, f2, t2, m2, rfl, n2, j7⟩
        go_wp2_with fail
        have k7 := k6.trans j7
        have hS7 := rng_bel hS6 j7
        refine hK.out _ _ hS7 (fun _ => ?_)
        clear hK K j7
        try simp only [Act.put, List.setIfInBounds_toArray, List.set_cons_zero, List.set_cons_succ]
        refine wpAnyH_ready (rs := [6]) (by kernel_rfl) (by simp) ?_
        refine AllReadyH.cons (o := { dst := none, op := .store 41 (.tmp 4) (.tmp 26), type := 0, pos := "outright.go:130", after := #[{ on := 2, ground := .data }, { on := 5, ground := .chain }, { on := 0, ground := .phase }, { on := 1, ground := .phase }, { on := 2, ground := .phase }, { on := 3, ground := .textOnly .lateStores }, { on := 4, ground := .textOnly .lateStores }, { on := 5, ground := .textOnly .lateStoresUnsure }], guard := none }) rfl (fun K hK => ?_) AllReadyH.nil
        rw [if_pos (by rfl)]
        have q1 := AX.out.bel k7
        refine wp_store_mid 41 (.tmp 4) (.tmp 26) rfl p 0 #[.int .i64 a1, .int .i64 f1, .int .i64 t1, .int .u64 m1] rfl rfl (bthere q1 0 _ (Nat.le_refl 4)) info_act (act_one _ _ _ _) ?_
        have hS6 := rng_kep hS7 (kep_setCells p [.int .i64 a1, .int .i64 f1, .int .i64 t1, .int .u64 m1] 0 v7) NBP.out.1
        have V6 := NB.var (FB.same ((VB.out.bel k7).nb.1.set (g := p) (Y := [.int .i64 a1, .int .i64 f1, .int .i64 t1, .int .u64 m1]) (o := 0) q1 (by decide) HP0.out) VB.out.good) ((VB.out.bel k7).blk.kep (kep_setCells p [.int .i64 a1, .int .i64 f1, .int .i64 t1, .int .u64 m1] 0 v7) NBP.out.1) VB.out.le
        have X6 : Kk.Blk (World.setCells v7 p 0 [.int .i64 a1, .int .i64 f1, .int .i64 t1, .int .u64 m1]) p [.int .i64 a1, .int .i64 f1, .int .i64 t1, .int .u64 m1].toArray 41 := bwhole q1 rfl
        have Y6 := (AY.out.bel k7).kep (kep_setCells p [.int .i64 a1, .int .i64 f1, .int .i64 t1, .int .u64 m1] 0 v7) (by omega)
        refine hK.out _ _ hS6 (fun _ => ?_)
        clear hK K
        try simp only [Act.put]
        obtain ⟨v6, hv6⟩ : ∃ v, World.setCells v7 p 0 [.int .i64 a1, .int .i64 f1, .int .i64 t1, .int .u64 m1] = v := ⟨_, rfl⟩
        rw [hv6] at hS6 V6 X6 Y6 ⊢
        clear hv6
        refine wpAnyH_ready (rs := [7]) (by kernel_rfl) (by simp) ?_
        refine AllReadyH.cons (o := { dst := none, op := .store 41 (.tmp 5) (.tmp 29), type := 0, pos := "outright.go:130", after := #[{ on := 5, ground := .data }, { on := 6, ground := .chain }, { on := 0, ground := .phase }, { on := 1, ground := .phase }, { on := 2, ground := .phase }, { on := 3, ground := .phase }, { on := 4, ground := .phase }, { on := 5, ground := .phase }, { on := 6, ground := .phase }], guard := none }) rfl (fun K hK => ?_) AllReadyH.nil
        rw [if_pos (by rfl)]
        refine wp_store_mid 41 (.tmp 5) (.tmp 29) rfl (p + 1) 0 #[.int .i64 a2, .int .i64 f2, .int .i64 t2, .int .u64 m2] rfl rfl (bthere Y6 0 _ (Nat.le_refl 4)) info_act (act_one _ _ _ _) ?_
        have hS7 := rng_kep hS6 (kep_setCells (p + 1) [.int .i64 a2, .int .i64 f2, .int .i64 t2, .int .u64 m2] 0 v6) NBP.out.2
        have V7 := NB.var (FB.same (V6.nb.1.set (g := p + 1) (Y := [.int .i64 a2, .int .i64 f2, .int .i64 t2, .int .u64 m2]) (o := 0) Y6 (by decide) (Nat.le_trans HP0.out (Nat.le_succ p))) VB.out.good) (V6.blk.kep (kep_setCells (p + 1) [.int .i64 a2, .int .i64 f2, .int .i64 t2, .int .u64 m2] 0 v6) NBP.out.2) VB.out.le
        have X7 := X6.kep (kep_setCells (p + 1) [.int .i64 a2, .int .i64 f2, .int .i64 t2, .int .u64 m2] 0 v6) (by omega)
        have Y7 : Kk.Blk (World.setCells v6 (p + 1) 0 [.int .i64 a2, .int .i64 f2, .int .i64 t2, .int .u64 m2]) (p + 1) [.int .i64 a2, .int .i64 f2, .int .i64 t2, .int .u64 m2].toArray 41 := bwhole Y6 rfl
        have HH := Lib.hid (And.intro V7 (And.intro X7 Y7))
        clear V7 X7 Y7
        refine hK.out _ _ hS7 (fun _ => ?_)
        clear hK K
        try simp only [Act.put]
        refine wpAnyH_done (by kernel_rfl) ?_ _
        go_wp2_with fail
        go_meet
        exact ⟨a1, f1, t1, m1, a2, f2, t2, m2, rfl, rfl, Lib.hid ⟨n1, n2, HH.out.1, HH.out.2.1, HH.out.2.2⟩⟩
    · skip
      rw [if_pos (by rfl)]
      refine wp_load_mid 41 (.tmp 5) rfl (p + 1) 0 rfl [.int .i64 ay, .int .i64 fy, .int .i64 ty, .int .u64 my] _ (rngB (AY.out.bel k0)) uA rfl info_act ?_
      refine hK.out _ _ hS0 (fun _ => ?_)
      clear hK K
      try simp only [Act.put, List.setIfInBounds_toArray, List.set_cons_zero, List.set_cons_succ]
      refine wpAnyH_ready (rs := [1]) (by kernel_rfl) (by simp) ?_
      refine AllReadyH.cons (o := { dst := some 25, op := .load 41 (.tmp 4), type := 41, pos := "outright.go:130", after := #[], guard := none }) rfl (fun K hK => ?_) AllReadyH.nil
      rw [if_pos (by rfl)]
      refine wp_load_mid 41 (.tmp 4) rfl p 0 rfl [.int .i64 ax, .int .i64 fx, .int .i64 tx, .int .u64 mx] _ (rngB (AX.out.bel k0)) uA rfl info_act ?_
      refine hK.out _ _ hS0 (fun _ => ?_)
      clear hK K
      try simp only [Act.put, List.setIfInBounds_toArray, List.set_cons_zero, List.set_cons_succ]
      refine wpAnyH_ready (rs := [2]) (by kernel_rfl) (by simp) ?_
      refine AllReadyH.cons (o := { dst := some 26, op := .call { callee := .value (.func 39), args := #[.tmp 24, .tmp 25], argTypes := #[26, 41] }, type := 41, pos := "outright.go:130", after := #[{ on := 0, ground := .data }, { on := 1, ground := .data }], guard := none }) rfl (fun K hK => ?_) AllReadyH.nil
      go_simp
      refine (near ax fx tx mx Y zs [0, 0, 0, 0] v0 (VB.out.bv.bel k0) HBX.out).mono ?_
      rintro e v10 ⟨a1, f1, t1, m1, rfl, n1, j10⟩
      go_wp2_with fail
      have k10 := k0.trans j10
      have hS10 := rng_bel hS0 j10
      refine hK.out _ _ hS10 (fun _ => ?_)
      clear hK K j10
      try simp only [Act.put, List.setIfInBounds_toArray, List.set_cons_zero, List.set_cons_succ]
      refine wpAnyH_ready (rs := [5]) (by kernel_rfl) (by simp) ?_
      refine AllReadyH.cons (o := { dst := some 29, op := .call { callee := .value (.func 39), args := #[.tmp 27, .tmp 28], argTypes := #[26, 41] }, type := 41, pos := "outright.go:130", after := #[{ on := 3, ground := .data }, { on := 4, ground := .data }, { on := 2, ground := .chain }], guard := none }) rfl (fun K hK => ?_) AllReadyH.nil
      go_simp
      refine (near ay fy ty my Y zs [0, 0, 0, 0] v10 (VB.out.bv.bel k10) HBY.out).mono ?_
      rintro e v11 ⟨a2, f2, t2, m2, rfl, n2, j11⟩
      go_wp2_with fail
      have k11 := k10.trans j11
      have hS11 := rng_bel hS10 j11
      refine hK.out _ _ hS11 (fun _ => ?_)
      clear hK K j11
      try simp only [Act.put, List.setIfInBounds_toArray, List.set_cons_zero, List.set_cons_succ]
      refine wpAnyH_ready (rs := [6]) (by kernel_rfl) (by simp) ?_
      refine AllReadyH.cons (o := { dst := none, op := .store 41 (.tmp 4) (.tmp 26), type := 0, pos := "outright.go:130", after := #[{ on := 2, ground := .data }, { on := 5, ground := .chain }, { on := 0, ground := .phase }, { on := 1, ground := .phase }, { on := 2, ground := .phase }, { on := 3, ground := .textOnly .lateStores }, { on := 4, ground := .textOnly .lateStores }, { on := 5, ground := .textOnly .lateStoresUnsure }], guard := none }) rfl (fun K hK => ?_) AllReadyH.nil
      rw [if_pos (by rfl)]
      have q1 := AX.out.bel k11
      refine wp_store_mid 41 (.tmp 4) (.tmp 26) rfl p 0 #[.int .i64 a1, .int .i64 f1, .int .i64 t1, .int .u64 m1] rfl rfl (bthere q1 0 _ (Nat.le_refl 4)) info_act (act_one _ _ _ _) ?_
      have hS6 := rng_kep hS11 (kep_setCells p [.int .i64 a1, .int .i64 f1, .int .i64 t1, .int .u64 m1] 0 v11) NBP.out.1
      have V6 := NB.var (FB.same ((VB.out.bel k11).nb.1.set (g := p) (Y := [.int .i64 a1, .int .i64 f1, .int .i64 t1, .int .u64 m1]) (o := 0) q1 (by decide) HP0.out) VB.out.good) ((VB.out.bel k11).blk.kep (kep_setCells p [.int .i64 a1, .int .i64 f1, .int .i64 t1, .int .u64 m1] 0 v11) NBP.out.1) VB.out.le
      have X6 : Kk.Blk (World.setCells v11 p 0 [.int .i64 a1, .int .i64 f1, .int .i64 t1, .int .u64 m1]) p [.int .i64 a1, .int .i64 f1, .int .i64 t1, .int .u64 m1].toArray 41 := bwhole q1 rfl
      have Y6 := (AY.out.bel k11).kep (kep_setCells p [.int .i64 a1, .int .i64 f1, .int .i64 t1, .int .u64 m1] 0 v11) (by omega)
      refine hK.out _ _ hS6 (fun _ => ?_)
      clear hK K
      try simp only [Act.put]
      obtain ⟨v6, hv6⟩ : ∃ v, World.setCells v11 p 0 [.int .i64 a1, .int .i64 f1, .int .i64 t1, .int .u64 m1] = v := ⟨_, rfl⟩
      rw [hv6] at hS6 V6 X6 Y6 ⊢
      clear hv6
      refine wpAnyH_ready (rs := [7]) (by kernel_rfl) (by simp) ?_
      refine AllReadyH.cons (o := { dst := none, op := .store 41 (.tmp 5) (.tmp 29), type := 0, pos := "outright.go:130", after := #[{ on := 5, ground := .data }, { on := 6, ground := .chain }, { on := 0, ground := .phase }, { on := 1, ground := .phase }, { on := 2, ground := .phase }, { on := 3, ground := .phase }, { on := 4, ground := .phase }, { on := 5, ground := .phase }, { on := 6, ground := .phase }], guard := none }) rfl (fun K hK => ?_) AllReadyH.nil
      rw [if_pos (by rfl)]
      refine wp_store_mid 41 (.tmp 5) (.tmp 29) rfl (p + 1) 0 #[.int .i64 a2, .int .i64 f2, .int .i64 t2, .int .u64 m2] rfl rfl (bthere Y6 0 _ (Nat.le_refl 4)) info_act (act_one _ _ _ _) ?_
      have hS7 := rng_kep hS6 (kep_setCells (p + 1) [.int .i64 a2, .int .i64 f2, .int .i64 t2, .int .u64 m2] 0 v6) NBP.out.2
      have V7 := NB.var (FB.same (V6.nb.1.set (g := p + 1) (Y := [.int .i64 a2, .int .i64 f2, .int .i64 t2, .int .u64 m2]) (o := 0) Y6 (by decide) (Nat.le_trans HP0.out (Nat.le_succ p))) VB.out.good) (V6.blk.kep (kep_setCells (p + 1) [.int .i64 a2, .int .i64 f2, .int .i64 t2, .int .u64 m2] 0 v6) NBP.out.2) VB.out.le
      have X7 := X6.kep (kep_setCells (p + 1) [.int .i64 a2, .int .i64 f2, .int .i64 t2, .int .u64 m2] 0 v6) (by omega)
      have Y7 : Kk.Blk (World.setCells v6 (p + 1) 0 [.int .i64 a2, .int .i64 f2, .int .i64 t2, .int .u64 m2]) (p + 1) [.int .i64 a2, .int .i64 f2, .int .i64 t2, .int .u64 m2].toArray 41 := bwhole Y6 rfl
      have HH := Lib.hid (And.intro V7 (And.intro X7 Y7))
      clear V7 X7 Y7
      refine hK.out _ _ hS7 (fun _ => ?_)
      clear hK K
      try simp only [Act.put]
      refine wpAnyH_done (by kernel_rfl) ?_ _
      go_wp2_with fail
      go_meet
      exact ⟨a1, f1, t1, m1, a2, f2, t2, m2, rfl, rfl, Lib.hid ⟨n1, n2, HH.out.1, HH.out.2.1, HH.out.2.2⟩⟩
  case rest =>
    obtain ⟨a1, f1, t1, m1, a2, f2, t2, m2, rfl, rfl, hh⟩ := hcut
    have N1 := Lib.hid hh.out.1
    have N2 := Lib.hid hh.out.2.1
    have V_b := Lib.hid hh.out.2.2.1
    have AX := Lib.hid hh.out.2.2.2.1
    have AY := Lib.hid hh.out.2.2.2.2
    have KB := Lib.hid V_b.out.nb.bel
    have GB := Lib.hid V_b.out.good
    have I1 := Lib.hid (show (Try.prog.info? 41).map (·.size) = some ([.int .i64 a1, .int .i64 f1, .int .i64 t1, .int .u64 m1] : List Value).length from info_act)
    have I2 := Lib.hid (show (Try.prog.info? 41).map (·.size) = some ([.int .i64 a2, .int .i64 f2, .int .i64 t2, .int .u64 m2] : List Value).length from info_act)
    clear hh HBX HBY HI HZ0 VB
    obtain ⟨E1, hE1⟩ : ∃ x, dE zs [0, 0, 0, 0] a1 f1 t1 m1 = x := ⟨_, rfl⟩
    obtain ⟨Z1, hZ1⟩ : ∃ x, dZ zs [0, 0, 0, 0] a1 f1 t1 m1 = x := ⟨_, rfl⟩
    obtain ⟨P1, hP1⟩ : ∃ x, dP zs [0, 0, 0, 0] a1 f1 t1 m1 = x := ⟨_, rfl⟩
    have CB := Lib.hid (does a1 f1 t1 m1 _ _ _ _ V_b.out.bv N1.out.2.2.1 N1.out.2.2.2)
    rw [hE1, hZ1, hP1] at CB
    go_wp2_with (first | ((with_reducible refine wpList_load_g ?_ 26 (.tmp 8) ?_ b 0 ?_ Y _ (Var.rng V_b.out) uB ?_ (NB.info V_b.out.nb) ?_); rfl; rfl; rfl; rfl) | ((with_reducible refine wpList_load_g ?_ 41 (.tmp 4) ?_ p 0 ?_ _ _ (rngB AX.out) uA ?_ I1.out ?_); rfl; rfl; rfl; rfl) | ((with_reducible refine wpList_load_g ?_ 41 (.tmp 5) ?_ (p + 1) 0 ?_ _ _ (rngB AY.out) uA ?_ I2.out ?_); rfl; rfl; rfl; rfl))
    refine CB.out.mono ?_
    rintro e wr1 ⟨Yr1, rfl, hnb⟩
    clear CB
    have KO := Lib.hid (show Kk.Bel w wc from KB.out)
    have NN := Lib.hid (NB.after KO.out hnb)
    have hk := Lib.hid hnb.bel
    clear hnb KO
    have V_b := Lib.hid (V_b.out.bel hk.out)
    have AX := Lib.hid (AX.out.bel hk.out)
    have AY := Lib.hid (AY.out.bel hk.out)
    have KB := Lib.hid (KB.out.trans hk.out)
    clear hk
    have HE1 := Lib.hid hE1
    have HZ1 := Lib.hid hZ1
    have HP1 := Lib.hid hP1
    clear hE1 hZ1 hP1
    have PT := Lib.hid (put_there wr1 Yr1 NN.out.2.len)
    have PI := Lib.hid NN.out.infoA
    have PO := Lib.hid NN.out.one
    go_upto_region 5 with (first | ((with_reducible refine wpList_store_mid ?_ 26 (.tmp 9) (.tmp 34) ?_ (World.heap wr1).size 0 Yr1.toArray ?_ ?_ PT.out PI.out PO.out ?_); rfl; rfl; rfl; rfl) | ((with_reducible refine wpList_load_g ?_ 26 (.tmp 8) ?_ b 0 ?_ Y _ (Var.rng V_b.out) uB ?_ (NB.info V_b.out.nb) ?_); rfl; rfl; rfl; rfl) | ((with_reducible refine wpList_load_g ?_ 41 (.tmp 4) ?_ p 0 ?_ _ _ (rngB AX.out) uA ?_ I1.out ?_); rfl; rfl; rfl; rfl) | ((with_reducible refine wpList_load_g ?_ 41 (.tmp 5) ?_ (p + 1) 0 ?_ _ _ (rngB AY.out) uA ?_ I2.out ?_); rfl; rfl; rfl; rfl))
    have V_c := Lib.hid (put_var NN.out (Kk.Bel.refl _))
    have hk := Lib.hid (put_bel wr1 Yr1)
    have V_b := Lib.hid (V_b.out.bel hk.out)
    have AX := Lib.hid (AX.out.bel hk.out)
    have AY := Lib.hid (AY.out.bel hk.out)
    have KB := Lib.hid (KB.out.trans hk.out)
    obtain ⟨q_c, hq⟩ : ∃ q, (World.heap wr1).size = q := ⟨_, rfl⟩
    obtain ⟨wr2, hw⟩ : ∃ v, (World.alloc wr1 (.cells ZB 26)).setCells (World.heap wr1).size 0 Yr1 = v := ⟨_, rfl⟩
    rw [hw]
    rw [hw] at V_b V_c AX AY KB
    rw [hq] at V_c ⊢
    clear hk hw hq PT PI PO NN
    by_cases hE1 : E1 = 0
    rotate_left
    · have hE1' : (E1 != 0) = true := by simpa using hE1
      go_wp2
      go_ret
      exact ⟨rfl, KB.out⟩
    subst hE1
    obtain ⟨az, haz⟩ : ∃ x, bkA a1 = x := ⟨_, rfl⟩
    obtain ⟨fz, hfz⟩ : ∃ x, bkF a1 f1 t1 = x := ⟨_, rfl⟩
    obtain ⟨tz, htz⟩ : ∃ x, bkT a1 f1 t1 = x := ⟨_, rfl⟩
    obtain ⟨bz, hbz⟩ : ∃ x, bkIs a1 t1 = x := ⟨_, rfl⟩
    have CK := Lib.hid (back a1 f1 t1 m1 wr2)
    rw [haz, hfz, htz, hbz] at CK
    have HAZ := Lib.hid haz
    have HFZ := Lib.hid hfz
    have HTZ := Lib.hid htz
    have HBZ := Lib.hid hbz
    clear haz hfz htz hbz
    go_wp2_with (first | ((with_reducible refine wpList_load_g ?_ 26 (.tmp 8) ?_ b 0 ?_ Y _ (Var.rng V_b.out) uB ?_ (NB.info V_b.out.nb) ?_); rfl; rfl; rfl; rfl) | ((with_reducible refine wpList_load_g ?_ 26 (.tmp 9) ?_ q_c 0 ?_ Yr1 _ (Var.rng V_c.out) uB ?_ (NB.info V_c.out.nb) ?_); rfl; rfl; rfl; rfl) | ((with_reducible refine wpList_load_g ?_ 41 (.tmp 4) ?_ p 0 ?_ _ _ (rngB AX.out) uA ?_ I1.out ?_); rfl; rfl; rfl; rfl) | ((with_reducible refine wpList_load_g ?_ 41 (.tmp 5) ?_ (p + 1) 0 ?_ _ _ (rngB AY.out) uA ?_ I2.out ?_); rfl; rfl; rfl; rfl))
    refine (CK.out).mono ?_
    rintro e wr3 ⟨rfl, k⟩
    have hk := Lib.hid k
    clear k
    have V_b := Lib.hid (V_b.out.bel hk.out)
    have V_c := Lib.hid (V_c.out.bel hk.out)
    have AX := Lib.hid (AX.out.bel hk.out)
    have AY := Lib.hid (AY.out.bel hk.out)
    have KB := Lib.hid (KB.out.trans hk.out)
    clear hk
    clear CK
    go_upto_region 8 with fail
    have AZ := Lib.hid (show Kk.Blk (wr3.alloc (.cells #[.int .i64 az, .int .i64 fz, .int .i64 tz, .int .u64 m1] 41)) wr3.heap.size [.int .i64 az, .int .i64 fz, .int .i64 tz, .int .u64 m1].toArray 41 from Kk.Blk.new _ _ _)
    have hk := Lib.hid ((Kk.Bel.refl wr3).alloc (.cells #[.int .i64 az, .int .i64 fz, .int .i64 tz, .int .u64 m1] 41))
    have V_b := Lib.hid (V_b.out.bel hk.out)
    have V_c := Lib.hid (V_c.out.bel hk.out)
    have AX := Lib.hid (AX.out.bel hk.out)
    have AY := Lib.hid (AY.out.bel hk.out)
    have KB := Lib.hid (KB.out.trans hk.out)
    obtain ⟨qz, hqz⟩ : ∃ q, wr3.heap.size = q := ⟨_, rfl⟩
    obtain ⟨wr4, hw⟩ : ∃ v, wr3.alloc (.cells #[.int .i64 az, .int .i64 fz, .int .i64 tz, .int .u64 m1] 41) = v := ⟨_, rfl⟩
    rw [hw] at AZ V_b V_c AX AY KB ⊢
    rw [hqz] at AZ ⊢
    have IZ := Lib.hid (show (Try.prog.info? 41).map (·.size) = some ([.int .i64 az, .int .i64 fz, .int .i64 tz, .int .u64 m1] : List Value).length from info_act)
    clear hk hw hqz
    cases bz
    · skip
      obtain ⟨E3, hE3⟩ : ∃ x, dE Z1 P1 a2 f2 t2 m2 = x := ⟨_, rfl⟩
      obtain ⟨Z3, hZ3⟩ : ∃ x, dZ Z1 P1 a2 f2 t2 m2 = x := ⟨_, rfl⟩
      obtain ⟨P3, hP3⟩ : ∃ x, dP Z1 P1 a2 f2 t2 m2 = x := ⟨_, rfl⟩
      have CB := Lib.hid (does a2 f2 t2 m2 _ _ _ _ V_c.out.bv N2.out.2.2.1 N2.out.2.2.2)
      rw [hE3, hZ3, hP3] at CB
      go_wp2_with (first | ((with_reducible refine wpList_load_g ?_ 26 (.tmp 8) ?_ b 0 ?_ Y _ (Var.rng V_b.out) uB ?_ (NB.info V_b.out.nb) ?_); rfl; rfl; rfl; rfl) | ((with_reducible refine wpList_load_g ?_ 26 (.tmp 9) ?_ q_c 0 ?_ Yr1 _ (Var.rng V_c.out) uB ?_ (NB.info V_c.out.nb) ?_); rfl; rfl; rfl; rfl) | ((with_reducible refine wpList_load_g ?_ 41 (.tmp 4) ?_ p 0 ?_ _ _ (rngB AX.out) uA ?_ I1.out ?_); rfl; rfl; rfl; rfl) | ((with_reducible refine wpList_load_g ?_ 41 (.tmp 5) ?_ (p + 1) 0 ?_ _ _ (rngB AY.out) uA ?_ I2.out ?_); rfl; rfl; rfl; rfl))
      refine CB.out.mono ?_
      rintro e wr5 ⟨Yr5, rfl, hnb⟩
      clear CB
      have KO := Lib.hid (show Kk.Bel w wr4 from KB.out)
      have NN := Lib.hid (NB.after KO.out hnb)
      have hk := Lib.hid hnb.bel
      clear hnb KO
      have V_b := Lib.hid (V_b.out.bel hk.out)
      have V_c := Lib.hid (V_c.out.bel hk.out)
      have AX := Lib.hid (AX.out.bel hk.out)
      have AY := Lib.hid (AY.out.bel hk.out)
      have KB := Lib.hid (KB.out.trans hk.out)
      clear hk
      have HE3 := Lib.hid hE3
      have HZ3 := Lib.hid hZ3
      have HP3 := Lib.hid hP3
      clear hE3 hZ3 hP3
      have PT := Lib.hid (put_there wr5 Yr5 NN.out.2.len)
      have PI := Lib.hid NN.out.infoA
      have PO := Lib.hid NN.out.one
      go_upto_region 13 with (first | ((with_reducible refine wpList_store_mid ?_ 26 (.tmp 15) (.tmp 63) ?_ (World.heap wr5).size 0 Yr5.toArray ?_ ?_ PT.out PI.out PO.out ?_); rfl; rfl; rfl; rfl) | ((with_reducible refine wpList_load_g ?_ 26 (.tmp 8) ?_ b 0 ?_ Y _ (Var.rng V_b.out) uB ?_ (NB.info V_b.out.nb) ?_); rfl; rfl; rfl; rfl) | ((with_reducible refine wpList_load_g ?_ 26 (.tmp 9) ?_ q_c 0 ?_ Yr1 _ (Var.rng V_c.out) uB ?_ (NB.info V_c.out.nb) ?_); rfl; rfl; rfl; rfl) | ((with_reducible refine wpList_load_g ?_ 41 (.tmp 4) ?_ p 0 ?_ _ _ (rngB AX.out) uA ?_ I1.out ?_); rfl; rfl; rfl; rfl) | ((with_reducible refine wpList_load_g ?_ 41 (.tmp 5) ?_ (p + 1) 0 ?_ _ _ (rngB AY.out) uA ?_ I2.out ?_); rfl; rfl; rfl; rfl))
      have V_f := Lib.hid (put_var NN.out (Kk.Bel.refl _))
      have hk := Lib.hid (put_bel wr5 Yr5)
      have V_b := Lib.hid (V_b.out.bel hk.out)
      have V_c := Lib.hid (V_c.out.bel hk.out)
      have AX := Lib.hid (AX.out.bel hk.out)
      have AY := Lib.hid (AY.out.bel hk.out)
      have KB := Lib.hid (KB.out.trans hk.out)
      obtain ⟨q_f, hq⟩ : ∃ q, (World.heap wr5).size = q := ⟨_, rfl⟩
      obtain ⟨wr6, hw⟩ : ∃ v, (World.alloc wr5 (.cells ZB 26)).setCells (World.heap wr5).size 0 Yr5 = v := ⟨_, rfl⟩
      rw [hw]
      rw [hw] at V_b V_c V_f AX AY KB
      rw [hq] at V_f ⊢
      clear hk hw hq PT PI PO NN
      obtain ⟨E4, hE4⟩ : ∃ x, dE zs [0, 0, 0, 0] a2 f2 t2 m2 = x := ⟨_, rfl⟩
      obtain ⟨Z4, hZ4⟩ : ∃ x, dZ zs [0, 0, 0, 0] a2 f2 t2 m2 = x := ⟨_, rfl⟩
      obtain ⟨P4, hP4⟩ : ∃ x, dP zs [0, 0, 0, 0] a2 f2 t2 m2 = x := ⟨_, rfl⟩
      have CB := Lib.hid (does a2 f2 t2 m2 _ _ _ _ V_b.out.bv N2.out.2.2.1 N2.out.2.2.2)
      rw [hE4, hZ4, hP4] at CB
      go_wp2_with (first | ((with_reducible refine wpList_load_g ?_ 26 (.tmp 8) ?_ b 0 ?_ Y _ (Var.rng V_b.out) uB ?_ (NB.info V_b.out.nb) ?_); rfl; rfl; rfl; rfl) | ((with_reducible refine wpList_load_g ?_ 26 (.tmp 9) ?_ q_c 0 ?_ Yr1 _ (Var.rng V_c.out) uB ?_ (NB.info V_c.out.nb) ?_); rfl; rfl; rfl; rfl) | ((with_reducible refine wpList_load_g ?_ 26 (.tmp 15) ?_ q_f 0 ?_ Yr5 _ (Var.rng V_f.out) uB ?_ (NB.info V_f.out.nb) ?_); rfl; rfl; rfl; rfl) | ((with_reducible refine wpList_load_g ?_ 41 (.tmp 4) ?_ p 0 ?_ _ _ (rngB AX.out) uA ?_ I1.out ?_); rfl; rfl; rfl; rfl) | ((with_reducible refine wpList_load_g ?_ 41 (.tmp 5) ?_ (p + 1) 0 ?_ _ _ (rngB AY.out) uA ?_ I2.out ?_); rfl; rfl; rfl; rfl))
      refine CB.out.mono ?_
      rintro e wr7 ⟨Yr7, rfl, hnb⟩
      clear CB
      have KO := Lib.hid (show Kk.Bel w wr6 from KB.out)
      have NN := Lib.hid (NB.after KO.out hnb)
      have hk := Lib.hid hnb.bel
      clear hnb KO
      have V_b := Lib.hid (V_b.out.bel hk.out)
      have V_c := Lib.hid (V_c.out.bel hk.out)
      have V_f := Lib.hid (V_f.out.bel hk.out)
      have AX := Lib.hid (AX.out.bel hk.out)
      have AY := Lib.hid (AY.out.bel hk.out)
      have KB := Lib.hid (KB.out.trans hk.out)
      clear hk
      have HE4 := Lib.hid hE4
      have HZ4 := Lib.hid hZ4
      have HP4 := Lib.hid hP4
      clear hE4 hZ4 hP4
      have PT := Lib.hid (put_there wr7 Yr7 NN.out.2.len)
      have PI := Lib.hid NN.out.infoA
      have PO := Lib.hid NN.out.one
      go_upto_region 14 with (first | ((with_reducible refine wpList_store_mid ?_ 26 (.tmp 17) (.tmp 69) ?_ (World.heap wr7).size 0 Yr7.toArray ?_ ?_ PT.out PI.out PO.out ?_); rfl; rfl; rfl; rfl) | ((with_reducible refine wpList_load_g ?_ 26 (.tmp 8) ?_ b 0 ?_ Y _ (Var.rng V_b.out) uB ?_ (NB.info V_b.out.nb) ?_); rfl; rfl; rfl; rfl) | ((with_reducible refine wpList_load_g ?_ 26 (.tmp 9) ?_ q_c 0 ?_ Yr1 _ (Var.rng V_c.out) uB ?_ (NB.info V_c.out.nb) ?_); rfl; rfl; rfl; rfl) | ((with_reducible refine wpList_load_g ?_ 26 (.tmp 15) ?_ q_f 0 ?_ Yr5 _ (Var.rng V_f.out) uB ?_ (NB.info V_f.out.nb) ?_); rfl; rfl; rfl; rfl) | ((with_reducible refine wpList_load_g ?_ 41 (.tmp 4) ?_ p 0 ?_ _ _ (rngB AX.out) uA ?_ I1.out ?_); rfl; rfl; rfl; rfl) | ((with_reducible refine wpList_load_g ?_ 41 (.tmp 5) ?_ (p + 1) 0 ?_ _ _ (rngB AY.out) uA ?_ I2.out ?_); rfl; rfl; rfl; rfl))
      have V_g := Lib.hid (put_var NN.out (Kk.Bel.refl _))
      have hk := Lib.hid (put_bel wr7 Yr7)
      have V_b := Lib.hid (V_b.out.bel hk.out)
      have V_c := Lib.hid (V_c.out.bel hk.out)
      have V_f := Lib.hid (V_f.out.bel hk.out)
      have AX := Lib.hid (AX.out.bel hk.out)
      have AY := Lib.hid (AY.out.bel hk.out)
      have KB := Lib.hid (KB.out.trans hk.out)
      obtain ⟨q_g, hq⟩ : ∃ q, (World.heap wr7).size = q := ⟨_, rfl⟩
      obtain ⟨wr8, hw⟩ : ∃ v, (World.alloc wr7 (.cells ZB 26)).setCells (World.heap wr7).size 0 Yr7 = v := ⟨_, rfl⟩
      rw [hw]
      rw [hw] at V_b V_c V_f V_g AX AY KB
      rw [hq] at V_g ⊢
      clear hk hw hq PT PI PO NN
      by_cases hE3 : E3 = 0
      rotate_left
      · have hE3' : (E3 != 0) = true := by simpa using hE3
        go_wp2
        go_ret
        exact ⟨rfl, KB.out⟩
      subst hE3
      by_cases hE4 : E4 = 0
      rotate_left
      · have hE4' : (E4 != 0) = true := by simpa using hE4
        go_wp2
        go_ret
        exact ⟨rfl, KB.out⟩
      subst hE4
      obtain ⟨E5, hE5⟩ : ∃ x, dE Z4 P4 a1 f1 t1 m1 = x := ⟨_, rfl⟩
      obtain ⟨Z5, hZ5⟩ : ∃ x, dZ Z4 P4 a1 f1 t1 m1 = x := ⟨_, rfl⟩
      obtain ⟨P5, hP5⟩ : ∃ x, dP Z4 P4 a1 f1 t1 m1 = x := ⟨_, rfl⟩
      have CB := Lib.hid (does a1 f1 t1 m1 _ _ _ _ V_g.out.bv N1.out.2.2.1 N1.out.2.2.2)
      rw [hE5, hZ5, hP5] at CB
      go_wp2_with (first | ((with_reducible refine wpList_load_g ?_ 26 (.tmp 8) ?_ b 0 ?_ Y _ (Var.rng V_b.out) uB ?_ (NB.info V_b.out.nb) ?_); rfl; rfl; rfl; rfl) | ((with_reducible refine wpList_load_g ?_ 26 (.tmp 9) ?_ q_c 0 ?_ Yr1 _ (Var.rng V_c.out) uB ?_ (NB.info V_c.out.nb) ?_); rfl; rfl; rfl; rfl) | ((with_reducible refine wpList_load_g ?_ 26 (.tmp 15) ?_ q_f 0 ?_ Yr5 _ (Var.rng V_f.out) uB ?_ (NB.info V_f.out.nb) ?_); rfl; rfl; rfl; rfl) | ((with_reducible refine wpList_load_g ?_ 26 (.tmp 17) ?_ q_g 0 ?_ Yr7 _ (Var.rng V_g.out) uB ?_ (NB.info V_g.out.nb) ?_); rfl; rfl; rfl; rfl) | ((with_reducible refine wpList_load_g ?_ 41 (.tmp 4) ?_ p 0 ?_ _ _ (rngB AX.out) uA ?_ I1.out ?_); rfl; rfl; rfl; rfl) | ((with_reducible refine wpList_load_g ?_ 41 (.tmp 5) ?_ (p + 1) 0 ?_ _ _ (rngB AY.out) uA ?_ I2.out ?_); rfl; rfl; rfl; rfl))
      refine CB.out.mono ?_
      rintro e wr9 ⟨Yr9, rfl, hnb⟩
      clear CB
      have KO := Lib.hid (show Kk.Bel w wr8 from KB.out)
      have NN := Lib.hid (NB.after KO.out hnb)
      have hk := Lib.hid hnb.bel
      clear hnb KO
      have V_b := Lib.hid (V_b.out.bel hk.out)
      have V_c := Lib.hid (V_c.out.bel hk.out)
      have V_f := Lib.hid (V_f.out.bel hk.out)
      have V_g := Lib.hid (V_g.out.bel hk.out)
      have AX := Lib.hid (AX.out.bel hk.out)
      have AY := Lib.hid (AY.out.bel hk.out)
      have KB := Lib.hid (KB.out.trans hk.out)
      clear hk
      have HE5 := Lib.hid hE5
      have HZ5 := Lib.hid hZ5
      have HP5 := Lib.hid hP5
      clear hE5 hZ5 hP5
      have PT := Lib.hid (put_there wr9 Yr9 NN.out.2.len)
      have PI := Lib.hid NN.out.infoA
      have PO := Lib.hid NN.out.one
      go_upto_region 17 with (first | ((with_reducible refine wpList_store_mid ?_ 26 (.tmp 19) (.tmp 82) ?_ (World.heap wr9).size 0 Yr9.toArray ?_ ?_ PT.out PI.out PO.out ?_); rfl; rfl; rfl; rfl) | ((with_reducible refine wpList_load_g ?_ 26 (.tmp 8) ?_ b 0 ?_ Y _ (Var.rng V_b.out) uB ?_ (NB.info V_b.out.nb) ?_); rfl; rfl; rfl; rfl) | ((with_reducible refine wpList_load_g ?_ 26 (.tmp 9) ?_ q_c 0 ?_ Yr1 _ (Var.rng V_c.out) uB ?_ (NB.info V_c.out.nb) ?_); rfl; rfl; rfl; rfl) | ((with_reducible refine wpList_load_g ?_ 26 (.tmp 15) ?_ q_f 0 ?_ Yr5 _ (Var.rng V_f.out) uB ?_ (NB.info V_f.out.nb) ?_); rfl; rfl; rfl; rfl) | ((with_reducible refine wpList_load_g ?_ 26 (.tmp 17) ?_ q_g 0 ?_ Yr7 _ (Var.rng V_g.out) uB ?_ (NB.info V_g.out.nb) ?_); rfl; rfl; rfl; rfl) | ((with_reducible refine wpList_load_g ?_ 41 (.tmp 4) ?_ p 0 ?_ _ _ (rngB AX.out) uA ?_ I1.out ?_); rfl; rfl; rfl; rfl) | ((with_reducible refine wpList_load_g ?_ 41 (.tmp 5) ?_ (p + 1) 0 ?_ _ _ (rngB AY.out) uA ?_ I2.out ?_); rfl; rfl; rfl; rfl))
      have V_i := Lib.hid (put_var NN.out (Kk.Bel.refl _))
      have hk := Lib.hid (put_bel wr9 Yr9)
      have V_b := Lib.hid (V_b.out.bel hk.out)
      have V_c := Lib.hid (V_c.out.bel hk.out)
      have V_f := Lib.hid (V_f.out.bel hk.out)
      have V_g := Lib.hid (V_g.out.bel hk.out)
      have AX := Lib.hid (AX.out.bel hk.out)
      have AY := Lib.hid (AY.out.bel hk.out)
      have KB := Lib.hid (KB.out.trans hk.out)
      obtain ⟨q_i, hq⟩ : ∃ q, (World.heap wr9).size = q := ⟨_, rfl⟩
      obtain ⟨wr10, hw⟩ : ∃ v, (World.alloc wr9 (.cells ZB 26)).setCells (World.heap wr9).size 0 Yr9 = v := ⟨_, rfl⟩
      rw [hw]
      rw [hw] at V_b V_c V_f V_g V_i AX AY KB
      rw [hq] at V_i ⊢
      clear hk hw hq PT PI PO NN
      by_cases hE5 : E5 = 0
      rotate_left
      · have hE5' : (E5 != 0) = true := by simpa using hE5
        go_wp2
        go_ret
        exact ⟨rfl, KB.out⟩
      subst hE5
      have hcm : Z5 = Z3 ∧ P5 = P3 := by
        have h := commute GB.out N1.out N2.out HE1.out (by rw [HZ1.out, HP1.out]; exact HE3.out) HE4.out (by rw [HZ4.out, HP4.out]; exact HE5.out)
        rw [HZ1.out, HP1.out, HZ4.out, HP4.out, HZ5.out, HP5.out, HZ3.out, HP3.out] at h
        exact h
      have CS := Lib.hid (sameBank _ _ _ _ _ _ _ V_i.out.bv V_f.out.bv)
      rw [show decide (Z5 = Z3 ∧ P5 = P3) = true from decide_eq_true hcm] at CS
      clear hcm
      go_wp2_with (first | ((with_reducible refine wpList_load_g ?_ 26 (.tmp 8) ?_ b 0 ?_ Y _ (Var.rng V_b.out) uB ?_ (NB.info V_b.out.nb) ?_); rfl; rfl; rfl; rfl) | ((with_reducible refine wpList_load_g ?_ 26 (.tmp 9) ?_ q_c 0 ?_ Yr1 _ (Var.rng V_c.out) uB ?_ (NB.info V_c.out.nb) ?_); rfl; rfl; rfl; rfl) | ((with_reducible refine wpList_load_g ?_ 26 (.tmp 15) ?_ q_f 0 ?_ Yr5 _ (Var.rng V_f.out) uB ?_ (NB.info V_f.out.nb) ?_); rfl; rfl; rfl; rfl) | ((with_reducible refine wpList_load_g ?_ 26 (.tmp 17) ?_ q_g 0 ?_ Yr7 _ (Var.rng V_g.out) uB ?_ (NB.info V_g.out.nb) ?_); rfl; rfl; rfl; rfl) | ((with_reducible refine wpList_load_g ?_ 26 (.tmp 19) ?_ q_i 0 ?_ Yr9 _ (Var.rng V_i.out) uB ?_ (NB.info V_i.out.nb) ?_); rfl; rfl; rfl; rfl) | ((with_reducible refine wpList_load_g ?_ 41 (.tmp 4) ?_ p 0 ?_ _ _ (rngB AX.out) uA ?_ I1.out ?_); rfl; rfl; rfl; rfl) | ((with_reducible refine wpList_load_g ?_ 41 (.tmp 5) ?_ (p + 1) 0 ?_ _ _ (rngB AY.out) uA ?_ I2.out ?_); rfl; rfl; rfl; rfl))
      refine CS.out.mono ?_
      rintro e w99 ⟨rfl, k99⟩
      go_wp2
      go_ret
      exact ⟨rfl, KB.out.trans k99⟩
    · skip
      have hbk := back_d GB.out N1.out HE1.out HBZ.out
      rw [HZ1.out, HP1.out, HAZ.out, HFZ.out, HTZ.out] at hbk
      have HBK := Lib.hid hbk
      clear hbk
      have CB := Lib.hid (does az fz tz m1 _ _ _ _ V_c.out.bv N1.out.2.2.1 N1.out.2.2.2)
      rw [HBK.out.1, HBK.out.2.1, HBK.out.2.2] at CB
      go_wp2_with (first | ((with_reducible refine wpList_load_g ?_ 26 (.tmp 8) ?_ b 0 ?_ Y _ (Var.rng V_b.out) uB ?_ (NB.info V_b.out.nb) ?_); rfl; rfl; rfl; rfl) | ((with_reducible refine wpList_load_g ?_ 26 (.tmp 9) ?_ q_c 0 ?_ Yr1 _ (Var.rng V_c.out) uB ?_ (NB.info V_c.out.nb) ?_); rfl; rfl; rfl; rfl) | ((with_reducible refine wpList_load_g ?_ 41 (.tmp 4) ?_ p 0 ?_ _ _ (rngB AX.out) uA ?_ I1.out ?_); rfl; rfl; rfl; rfl) | ((with_reducible refine wpList_load_g ?_ 41 (.tmp 5) ?_ (p + 1) 0 ?_ _ _ (rngB AY.out) uA ?_ I2.out ?_); rfl; rfl; rfl; rfl) | ((with_reducible refine wpList_load_g ?_ 41 (.tmp 11) ?_ qz 0 ?_ _ _ (rngB AZ.out) uA ?_ IZ.out ?_); rfl; rfl; rfl; rfl))
      refine CB.out.mono ?_
      rintro e wr11 ⟨Yr11, rfl, hnb⟩
      clear CB
      have KO := Lib.hid (show Kk.Bel w wr4 from KB.out)
      have NN := Lib.hid (NB.after KO.out hnb)
      have hk := Lib.hid hnb.bel
      clear hnb KO
      have V_b := Lib.hid (V_b.out.bel hk.out)
      have V_c := Lib.hid (V_c.out.bel hk.out)
      have AX := Lib.hid (AX.out.bel hk.out)
      have AY := Lib.hid (AY.out.bel hk.out)
      have AZ := Lib.hid (AZ.out.bel hk.out)
      have KB := Lib.hid (KB.out.trans hk.out)
      clear hk
      have PT := Lib.hid (put_there wr11 Yr11 NN.out.2.len)
      have PI := Lib.hid NN.out.infoA
      have PO := Lib.hid NN.out.one
      go_upto_region 10 with (first | ((with_reducible refine wpList_store_mid ?_ 26 (.tmp 13) (.tmp 49) ?_ (World.heap wr11).size 0 Yr11.toArray ?_ ?_ PT.out PI.out PO.out ?_); rfl; rfl; rfl; rfl) | ((with_reducible refine wpList_load_g ?_ 26 (.tmp 8) ?_ b 0 ?_ Y _ (Var.rng V_b.out) uB ?_ (NB.info V_b.out.nb) ?_); rfl; rfl; rfl; rfl) | ((with_reducible refine wpList_load_g ?_ 26 (.tmp 9) ?_ q_c 0 ?_ Yr1 _ (Var.rng V_c.out) uB ?_ (NB.info V_c.out.nb) ?_); rfl; rfl; rfl; rfl) | ((with_reducible refine wpList_load_g ?_ 41 (.tmp 4) ?_ p 0 ?_ _ _ (rngB AX.out) uA ?_ I1.out ?_); rfl; rfl; rfl; rfl) | ((with_reducible refine wpList_load_g ?_ 41 (.tmp 5) ?_ (p + 1) 0 ?_ _ _ (rngB AY.out) uA ?_ I2.out ?_); rfl; rfl; rfl; rfl) | ((with_reducible refine wpList_load_g ?_ 41 (.tmp 11) ?_ qz 0 ?_ _ _ (rngB AZ.out) uA ?_ IZ.out ?_); rfl; rfl; rfl; rfl))
      have V_d := Lib.hid (put_var NN.out (Kk.Bel.refl _))
      have hk := Lib.hid (put_bel wr11 Yr11)
      have V_b := Lib.hid (V_b.out.bel hk.out)
      have V_c := Lib.hid (V_c.out.bel hk.out)
      have AX := Lib.hid (AX.out.bel hk.out)
      have AY := Lib.hid (AY.out.bel hk.out)
      have AZ := Lib.hid (AZ.out.bel hk.out)
      have KB := Lib.hid (KB.out.trans hk.out)
      obtain ⟨q_d, hq⟩ : ∃ q, (World.heap wr11).size = q := ⟨_, rfl⟩
      obtain ⟨wr12, hw⟩ : ∃ v, (World.alloc wr11 (.cells ZB 26)).setCells (World.heap wr11).size 0 Yr11 = v := ⟨_, rfl⟩
      rw [hw]
      rw [hw] at V_b V_c V_d AX AY AZ KB
      rw [hq] at V_d ⊢
      clear hk hw hq PT PI PO NN
      have CS := Lib.hid (sameBank _ _ _ _ _ _ _ V_d.out.bv V_b.out.bv)
      rw [show decide (zs = zs ∧ ([0, 0, 0, 0] : List Int) = [0, 0, 0, 0]) = true by simp] at CS
      go_wp2_with (first | ((with_reducible refine wpList_load_g ?_ 26 (.tmp 8) ?_ b 0 ?_ Y _ (Var.rng V_b.out) uB ?_ (NB.info V_b.out.nb) ?_); rfl; rfl; rfl; rfl) | ((with_reducible refine wpList_load_g ?_ 26 (.tmp 9) ?_ q_c 0 ?_ Yr1 _ (Var.rng V_c.out) uB ?_ (NB.info V_c.out.nb) ?_); rfl; rfl; rfl; rfl) | ((with_reducible refine wpList_load_g ?_ 26 (.tmp 13) ?_ q_d 0 ?_ Yr11 _ (Var.rng V_d.out) uB ?_ (NB.info V_d.out.nb) ?_); rfl; rfl; rfl; rfl) | ((with_reducible refine wpList_load_g ?_ 41 (.tmp 4) ?_ p 0 ?_ _ _ (rngB AX.out) uA ?_ I1.out ?_); rfl; rfl; rfl; rfl) | ((with_reducible refine wpList_load_g ?_ 41 (.tmp 5) ?_ (p + 1) 0 ?_ _ _ (rngB AY.out) uA ?_ I2.out ?_); rfl; rfl; rfl; rfl) | ((with_reducible refine wpList_load_g ?_ 41 (.tmp 11) ?_ qz 0 ?_ _ _ (rngB AZ.out) uA ?_ IZ.out ?_); rfl; rfl; rfl; rfl))
      refine (CS.out).mono ?_
      rintro e wr13 ⟨rfl, k⟩
      have hk := Lib.hid k
      clear k
      have V_b := Lib.hid (V_b.out.bel hk.out)
      have V_c := Lib.hid (V_c.out.bel hk.out)
      have V_d := Lib.hid (V_d.out.bel hk.out)
      have AX := Lib.hid (AX.out.bel hk.out)
      have AY := Lib.hid (AY.out.bel hk.out)
      have AZ := Lib.hid (AZ.out.bel hk.out)
      have KB := Lib.hid (KB.out.trans hk.out)
      clear hk
      clear CS
      obtain ⟨E3, hE3⟩ : ∃ x, dE Z1 P1 a2 f2 t2 m2 = x := ⟨_, rfl⟩
      obtain ⟨Z3, hZ3⟩ : ∃ x, dZ Z1 P1 a2 f2 t2 m2 = x := ⟨_, rfl⟩
      obtain ⟨P3, hP3⟩ : ∃ x, dP Z1 P1 a2 f2 t2 m2 = x := ⟨_, rfl⟩
      have CB := Lib.hid (does a2 f2 t2 m2 _ _ _ _ V_c.out.bv N2.out.2.2.1 N2.out.2.2.2)
      rw [hE3, hZ3, hP3] at CB
      go_wp2_with (first | ((with_reducible refine wpList_load_g ?_ 26 (.tmp 8) ?_ b 0 ?_ Y _ (Var.rng V_b.out) uB ?_ (NB.info V_b.out.nb) ?_); rfl; rfl; rfl; rfl) | ((with_reducible refine wpList_load_g ?_ 26 (.tmp 9) ?_ q_c 0 ?_ Yr1 _ (Var.rng V_c.out) uB ?_ (NB.info V_c.out.nb) ?_); rfl; rfl; rfl; rfl) | ((with_reducible refine wpList_load_g ?_ 26 (.tmp 13) ?_ q_d 0 ?_ Yr11 _ (Var.rng V_d.out) uB ?_ (NB.info V_d.out.nb) ?_); rfl; rfl; rfl; rfl) | ((with_reducible refine wpList_load_g ?_ 41 (.tmp 4) ?_ p 0 ?_ _ _ (rngB AX.out) uA ?_ I1.out ?_); rfl; rfl; rfl; rfl) | ((with_reducible refine wpList_load_g ?_ 41 (.tmp 5) ?_ (p + 1) 0 ?_ _ _ (rngB AY.out) uA ?_ I2.out ?_); rfl; rfl; rfl; rfl) | ((with_reducible refine wpList_load_g ?_ 41 (.tmp 11) ?_ qz 0 ?_ _ _ (rngB AZ.out) uA ?_ IZ.out ?_); rfl; rfl; rfl; rfl))
      refine CB.out.mono ?_
      rintro e wr14 ⟨Yr14, rfl, hnb⟩
      clear CB
      have KO := Lib.hid (show Kk.Bel w wr13 from KB.out)
      have NN := Lib.hid (NB.after KO.out hnb)
      have hk := Lib.hid hnb.bel
      clear hnb KO
      have V_b := Lib.hid (V_b.out.bel hk.out)
      have V_c := Lib.hid (V_c.out.bel hk.out)
      have V_d := Lib.hid (V_d.out.bel hk.out)
      have AX := Lib.hid (AX.out.bel hk.out)
      have AY := Lib.hid (AY.out.bel hk.out)
      have AZ := Lib.hid (AZ.out.bel hk.out)
      have KB := Lib.hid (KB.out.trans hk.out)
      clear hk
      have HE3 := Lib.hid hE3
      have HZ3 := Lib.hid hZ3
      have HP3 := Lib.hid hP3
      clear hE3 hZ3 hP3
      have PT := Lib.hid (put_there wr14 Yr14 NN.out.2.len)
      have PI := Lib.hid NN.out.infoA
      have PO := Lib.hid NN.out.one
      go_upto_region 13 with (first | ((with_reducible refine wpList_store_mid ?_ 26 (.tmp 15) (.tmp 63) ?_ (World.heap wr14).size 0 Yr14.toArray ?_ ?_ PT.out PI.out PO.out ?_); rfl; rfl; rfl; rfl) | ((with_reducible refine wpList_load_g ?_ 26 (.tmp 8) ?_ b 0 ?_ Y _ (Var.rng V_b.out) uB ?_ (NB.info V_b.out.nb) ?_); rfl; rfl; rfl; rfl) | ((with_reducible refine wpList_load_g ?_ 26 (.tmp 9) ?_ q_c 0 ?_ Yr1 _ (Var.rng V_c.out) uB ?_ (NB.info V_c.out.nb) ?_); rfl; rfl; rfl; rfl) | ((with_reducible refine wpList_load_g ?_ 26 (.tmp 13) ?_ q_d 0 ?_ Yr11 _ (Var.rng V_d.out) uB ?_ (NB.info V_d.out.nb) ?_); rfl; rfl; rfl; rfl) | ((with_reducible refine wpList_load_g ?_ 41 (.tmp 4) ?_ p 0 ?_ _ _ (rngB AX.out) uA ?_ I1.out ?_); rfl; rfl; rfl; rfl) | ((with_reducible refine wpList_load_g ?_ 41 (.tmp 5) ?_ (p + 1) 0 ?_ _ _ (rngB AY.out) uA ?_ I2.out ?_); rfl; rfl; rfl; rfl) | ((with_reducible refine wpList_load_g ?_ 41 (.tmp 11) ?_ qz 0 ?_ _ _ (rngB AZ.out) uA ?_ IZ.out ?_); rfl; rfl; rfl; rfl))
      have V_f := Lib.hid (put_var NN.out (Kk.Bel.refl _))
      have hk := Lib.hid (put_bel wr14 Yr14)
      have V_b := Lib.hid (V_b.out.bel hk.out)
      have V_c := Lib.hid (V_c.out.bel hk.out)
      have V_d := Lib.hid (V_d.out.bel hk.out)
      have AX := Lib.hid (AX.out.bel hk.out)
      have AY := Lib.hid (AY.out.bel hk.out)
      have AZ := Lib.hid (AZ.out.bel hk.out)
      have KB := Lib.hid (KB.out.trans hk.out)
      obtain ⟨q_f, hq⟩ : ∃ q, (World.heap wr14).size = q := ⟨_, rfl⟩
      obtain ⟨wr15, hw⟩ : ∃ v, (World.alloc wr14 (.cells ZB 26)).setCells (World.heap wr14).size 0 Yr14 = v := ⟨_, rfl⟩
      rw [hw]
      rw [hw] at V_b V_c V_d V_f AX AY AZ KB
      rw [hq] at V_f ⊢
      clear hk hw hq PT PI PO NN
      obtain ⟨E4, hE4⟩ : ∃ x, dE zs [0, 0, 0, 0] a2 f2 t2 m2 = x := ⟨_, rfl⟩
      obtain ⟨Z4, hZ4⟩ : ∃ x, dZ zs [0, 0, 0, 0] a2 f2 t2 m2 = x := ⟨_, rfl⟩
      obtain ⟨P4, hP4⟩ : ∃ x, dP zs [0, 0, 0, 0] a2 f2 t2 m2 = x := ⟨_, rfl⟩
      have CB := Lib.hid (does a2 f2 t2 m2 _ _ _ _ V_b.out.bv N2.out.2.2.1 N2.out.2.2.2)
      rw [hE4, hZ4, hP4] at CB
      go_wp2_with (first | ((with_reducible refine wpList_load_g ?_ 26 (.tmp 8) ?_ b 0 ?_ Y _ (Var.rng V_b.out) uB ?_ (NB.info V_b.out.nb) ?_); rfl; rfl; rfl; rfl) | ((with_reducible refine wpList_load_g ?_ 26 (.tmp 9) ?_ q_c 0 ?_ Yr1 _ (Var.rng V_c.out) uB ?_ (NB.info V_c.out.nb) ?_); rfl; rfl; rfl; rfl) | ((with_reducible refine wpList_load_g ?_ 26 (.tmp 13) ?_ q_d 0 ?_ Yr11 _ (Var.rng V_d.out) uB ?_ (NB.info V_d.out.nb) ?_); rfl; rfl; rfl; rfl) | ((with_reducible refine wpList_load_g ?_ 26 (.tmp 15) ?_ q_f 0 ?_ Yr14 _ (Var.rng V_f.out) uB ?_ (NB.info V_f.out.nb) ?_); rfl; rfl; rfl; rfl) | ((with_reducible refine wpList_load_g ?_ 41 (.tmp 4) ?_ p 0 ?_ _ _ (rngB AX.out) uA ?_ I1.out ?_); rfl; rfl; rfl; rfl) | ((with_reducible refine wpList_load_g ?_ 41 (.tmp 5) ?_ (p + 1) 0 ?_ _ _ (rngB AY.out) uA ?_ I2.out ?_); rfl; rfl; rfl; rfl) | ((with_reducible refine wpList_load_g ?_ 41 (.tmp 11) ?_ qz 0 ?_ _ _ (rngB AZ.out) uA ?_ IZ.out ?_); rfl; rfl; rfl; rfl))
      refine CB.out.mono ?_
      rintro e wr16 ⟨Yr16, rfl, hnb⟩
      clear CB
      have KO := Lib.hid (show Kk.Bel w wr15 from KB.out)
      have NN := Lib.hid (NB.after KO.out hnb)
      have hk := Lib.hid hnb.bel
      clear hnb KO
      have V_b := Lib.hid (V_b.out.bel hk.out)
      have V_c := Lib.hid (V_c.out.bel hk.out)
      have V_d := Lib.hid (V_d.out.bel hk.out)
      have V_f := Lib.hid (V_f.out.bel hk.out)
      have AX := Lib.hid (AX.out.bel hk.out)
      have AY := Lib.hid (AY.out.bel hk.out)
      have AZ := Lib.hid (AZ.out.bel hk.out)
      have KB := Lib.hid (KB.out.trans hk.out)
      clear hk
      have HE4 := Lib.hid hE4
      have HZ4 := Lib.hid hZ4
      have HP4 := Lib.hid hP4
      clear hE4 hZ4 hP4
      have PT := Lib.hid (put_there wr16 Yr16 NN.out.2.len)
      have PI := Lib.hid NN.out.infoA
      have PO := Lib.hid NN.out.one
      go_upto_region 14 with (first | ((with_reducible refine wpList_store_mid ?_ 26 (.tmp 17) (.tmp 69) ?_ (World.heap wr16).size 0 Yr16.toArray ?_ ?_ PT.out PI.out PO.out ?_); rfl; rfl; rfl; rfl) | ((with_reducible refine wpList_load_g ?_ 26 (.tmp 8) ?_ b 0 ?_ Y _ (Var.rng V_b.out) uB ?_ (NB.info V_b.out.nb) ?_); rfl; rfl; rfl; rfl) | ((with_reducible refine wpList_load_g ?_ 26 (.tmp 9) ?_ q_c 0 ?_ Yr1 _ (Var.rng V_c.out) uB ?_ (NB.info V_c.out.nb) ?_); rfl; rfl; rfl; rfl) | ((with_reducible refine wpList_load_g ?_ 26 (.tmp 13) ?_ q_d 0 ?_ Yr11 _ (Var.rng V_d.out) uB ?_ (NB.info V_d.out.nb) ?_); rfl; rfl; rfl; rfl) | ((with_reducible refine wpList_load_g ?_ 26 (.tmp 15) ?_ q_f 0 ?_ Yr14 _ (Var.rng V_f.out) uB ?_ (NB.info V_f.out.nb) ?_); rfl; rfl; rfl; rfl) | ((with_reducible refine wpList_load_g ?_ 41 (.tmp 4) ?_ p 0 ?_ _ _ (rngB AX.out) uA ?_ I1.out ?_); rfl; rfl; rfl; rfl) | ((with_reducible refine wpList_load_g ?_ 41 (.tmp 5) ?_ (p + 1) 0 ?_ _ _ (rngB AY.out) uA ?_ I2.out ?_); rfl; rfl; rfl; rfl) | ((with_reducible refine wpList_load_g ?_ 41 (.tmp 11) ?_ qz 0 ?_ _ _ (rngB AZ.out) uA ?_ IZ.out ?_); rfl; rfl; rfl; rfl))
      have V_g := Lib.hid (put_var NN.out (Kk.Bel.refl _))
      have hk := Lib.hid (put_bel wr16 Yr16)
      have V_b := Lib.hid (V_b.out.bel hk.out)
      have V_c := Lib.hid (V_c.out.bel hk.out)
      have V_d := Lib.hid (V_d.out.bel hk.out)
      have V_f := Lib.hid (V_f.out.bel hk.out)
      have AX := Lib.hid (AX.out.bel hk.out)
      have AY := Lib.hid (AY.out.bel hk.out)
      have AZ := Lib.hid (AZ.out.bel hk.out)
      have KB := Lib.hid (KB.out.trans hk.out)
      obtain ⟨q_g, hq⟩ : ∃ q, (World.heap wr16).size = q := ⟨_, rfl⟩
      obtain ⟨wr17, hw⟩ : ∃ v, (World.alloc wr16 (.cells ZB 26)).setCells (World.heap wr16).size 0 Yr16 = v := ⟨_, rfl⟩
      rw [hw]
      rw [hw] at V_b V_c V_d V_f V_g AX AY AZ KB
      rw [hq] at V_g ⊢
      clear hk hw hq PT PI PO NN
      by_cases hE3 : E3 = 0
      rotate_left
      · have hE3' : (E3 != 0) = true := by simpa using hE3
        go_wp2
        go_ret
        exact ⟨rfl, KB.out⟩
      subst hE3
      by_cases hE4 : E4 = 0
      rotate_left
      · have hE4' : (E4 != 0) = true := by simpa using hE4
        go_wp2
        go_ret
        exact ⟨rfl, KB.out⟩
      subst hE4
      obtain ⟨E5, hE5⟩ : ∃ x, dE Z4 P4 a1 f1 t1 m1 = x := ⟨_, rfl⟩
      obtain ⟨Z5, hZ5⟩ : ∃ x, dZ Z4 P4 a1 f1 t1 m1 = x := ⟨_, rfl⟩
      obtain ⟨P5, hP5⟩ : ∃ x, dP Z4 P4 a1 f1 t1 m1 = x := ⟨_, rfl⟩
      have CB := Lib.hid (does a1 f1 t1 m1 _ _ _ _ V_g.out.bv N1.out.2.2.1 N1.out.2.2.2)
      rw [hE5, hZ5, hP5] at CB
      go_wp2_with (first | ((with_reducible refine wpList_load_g ?_ 26 (.tmp 8) ?_ b 0 ?_ Y _ (Var.rng V_b.out) uB ?_ (NB.info V_b.out.nb) ?_); rfl; rfl; rfl; rfl) | ((with_reducible refine wpList_load_g ?_ 26 (.tmp 9) ?_ q_c 0 ?_ Yr1 _ (Var.rng V_c.out) uB ?_ (NB.info V_c.out.nb) ?_); rfl; rfl; rfl; rfl) | ((with_reducible refine wpList_load_g ?_ 26 (.tmp 13) ?_ q_d 0 ?_ Yr11 _ (Var.rng V_d.out) uB ?_ (NB.info V_d.out.nb) ?_); rfl; rfl; rfl; rfl) | ((with_reducible refine wpList_load_g ?_ 26 (.tmp 15) ?_ q_f 0 ?_ Yr14 _ (Var.rng V_f.out) uB ?_ (NB.info V_f.out.nb) ?_); rfl; rfl; rfl; rfl) | ((with_reducible refine wpList_load_g ?_ 26 (.tmp 17) ?_ q_g 0 ?_ Yr16 _ (Var.rng V_g.out) uB ?_ (NB.info V_g.out.nb) ?_); rfl; rfl; rfl; rfl) | ((with_reducible refine wpList_load_g ?_ 41 (.tmp 4) ?_ p 0 ?_ _ _ (rngB AX.out) uA ?_ I1.out ?_); rfl; rfl; rfl; rfl) | ((with_reducible refine wpList_load_g ?_ 41 (.tmp 5) ?_ (p + 1) 0 ?_ _ _ (rngB AY.out) uA ?_ I2.out ?_); rfl; rfl; rfl; rfl) | ((with_reducible refine wpList_load_g ?_ 41 (.tmp 11) ?_ qz 0 ?_ _ _ (rngB AZ.out) uA ?_ IZ.out ?_); rfl; rfl; rfl; rfl))
      refine CB.out.mono ?_
      rintro e wr18 ⟨Yr18, rfl, hnb⟩
      clear CB
      have KO := Lib.hid (show Kk.Bel w wr17 from KB.out)
      have NN := Lib.hid (NB.after KO.out hnb)
      have hk := Lib.hid hnb.bel
      clear hnb KO
      have V_b := Lib.hid (V_b.out.bel hk.out)
      have V_c := Lib.hid (V_c.out.bel hk.out)
      have V_d := Lib.hid (V_d.out.bel hk.out)
      have V_f := Lib.hid (V_f.out.bel hk.out)
      have V_g := Lib.hid (V_g.out.bel hk.out)
      have AX := Lib.hid (AX.out.bel hk.out)
      have AY := Lib.hid (AY.out.bel hk.out)
      have AZ := Lib.hid (AZ.out.bel hk.out)
      have KB := Lib.hid (KB.out.trans hk.out)
      clear hk
      have HE5 := Lib.hid hE5
      have HZ5 := Lib.hid hZ5
      have HP5 := Lib.hid hP5
      clear hE5 hZ5 hP5
      have PT := Lib.hid (put_there wr18 Yr18 NN.out.2.len)
      have PI := Lib.hid NN.out.infoA
      have PO := Lib.hid NN.out.one
      go_upto_region 17 with (first | ((with_reducible refine wpList_store_mid ?_ 26 (.tmp 19) (.tmp 82) ?_ (World.heap wr18).size 0 Yr18.toArray ?_ ?_ PT.out PI.out PO.out ?_); rfl; rfl; rfl; rfl) | ((with_reducible refine wpList_load_g ?_ 26 (.tmp 8) ?_ b 0 ?_ Y _ (Var.rng V_b.out) uB ?_ (NB.info V_b.out.nb) ?_); rfl; rfl; rfl; rfl) | ((with_reducible refine wpList_load_g ?_ 26 (.tmp 9) ?_ q_c 0 ?_ Yr1 _ (Var.rng V_c.out) uB ?_ (NB.info V_c.out.nb) ?_); rfl; rfl; rfl; rfl) | ((with_reducible refine wpList_load_g ?_ 26 (.tmp 13) ?_ q_d 0 ?_ Yr11 _ (Var.rng V_d.out) uB ?_ (NB.info V_d.out.nb) ?_); rfl; rfl; rfl; rfl) | ((with_reducible refine wpList_load_g ?_ 26 (.tmp 15) ?_ q_f 0 ?_ Yr14 _ (Var.rng V_f.out) uB ?_ (NB.info V_f.out.nb) ?_); rfl; rfl; rfl; rfl) | ((with_reducible refine wpList_load_g ?_ 26 (.tmp 17) ?_ q_g 0 ?_ Yr16 _ (Var.rng V_g.out) uB ?_ (NB.info V_g.out.nb) ?_); rfl; rfl; rfl; rfl) | ((with_reducible refine wpList_load_g ?_ 41 (.tmp 4) ?_ p 0 ?_ _ _ (rngB AX.out) uA ?_ I1.out ?_); rfl; rfl; rfl; rfl) | ((with_reducible refine wpList_load_g ?_ 41 (.tmp 5) ?_ (p + 1) 0 ?_ _ _ (rngB AY.out) uA ?_ I2.out ?_); rfl; rfl; rfl; rfl) | ((with_reducible refine wpList_load_g ?_ 41 (.tmp 11) ?_ qz 0 ?_ _ _ (rngB AZ.out) uA ?_ IZ.out ?_); rfl; rfl; rfl; rfl))
      have V_i := Lib.hid (put_var NN.out (Kk.Bel.refl _))
      have hk := Lib.hid (put_bel wr18 Yr18)
      have V_b := Lib.hid (V_b.out.bel hk.out)
      have V_c := Lib.hid (V_c.out.bel hk.out)
      have V_d := Lib.hid (V_d.out.bel hk.out)
      have V_f := Lib.hid (V_f.out.bel hk.out)
      have V_g := Lib.hid (V_g.out.bel hk.out)
      have AX := Lib.hid (AX.out.bel hk.out)
      have AY := Lib.hid (AY.out.bel hk.out)
      have AZ := Lib.hid (AZ.out.bel hk.out)
      have KB := Lib.hid (KB.out.trans hk.out)
      obtain ⟨q_i, hq⟩ : ∃ q, (World.heap wr18).size = q := ⟨_, rfl⟩
      obtain ⟨wr19, hw⟩ : ∃ v, (World.alloc wr18 (.cells ZB 26)).setCells (World.heap wr18).size 0 Yr18 = v := ⟨_, rfl⟩
      rw [hw]
      rw [hw] at V_b V_c V_d V_f V_g V_i AX AY AZ KB
      rw [hq] at V_i ⊢
      clear hk hw hq PT PI PO NN
      by_cases hE5 : E5 = 0
      rotate_left
      · have hE5' : (E5 != 0) = true := by simpa using hE5
        go_wp2
        go_ret
        exact ⟨rfl, KB.out⟩
      subst hE5
      have hcm : Z5 = Z3 ∧ P5 = P3 := by
        have h := commute GB.out N1.out N2.out HE1.out (by rw [HZ1.out, HP1.out]; exact HE3.out) HE4.out (by rw [HZ4.out, HP4.out]; exact HE5.out)
        rw [HZ1.out, HP1.out, HZ4.out, HP4.out, HZ5.out, HP5.out, HZ3.out, HP3.out] at h
        exact h
      have CS := Lib.hid (sameBank _ _ _ _ _ _ _ V_i.out.bv V_f.out.bv)
      rw [show decide (Z5 = Z3 ∧ P5 = P3) = true from decide_eq_true hcm] at CS
      clear hcm
      go_wp2_with (first | ((with_reducible refine wpList_load_g ?_ 26 (.tmp 8) ?_ b 0 ?_ Y _ (Var.rng V_b.out) uB ?_ (NB.info V_b.out.nb) ?_); rfl; rfl; rfl; rfl) | ((with_reducible refine wpList_load_g ?_ 26 (.tmp 9) ?_ q_c 0 ?_ Yr1 _ (Var.rng V_c.out) uB ?_ (NB.info V_c.out.nb) ?_); rfl; rfl; rfl; rfl) | ((with_reducible refine wpList_load_g ?_ 26 (.tmp 13) ?_ q_d 0 ?_ Yr11 _ (Var.rng V_d.out) uB ?_ (NB.info V_d.out.nb) ?_); rfl; rfl; rfl; rfl) | ((with_reducible refine wpList_load_g ?_ 26 (.tmp 15) ?_ q_f 0 ?_ Yr14 _ (Var.rng V_f.out) uB ?_ (NB.info V_f.out.nb) ?_); rfl; rfl; rfl; rfl) | ((with_reducible refine wpList_load_g ?_ 26 (.tmp 17) ?_ q_g 0 ?_ Yr16 _ (Var.rng V_g.out) uB ?_ (NB.info V_g.out.nb) ?_); rfl; rfl; rfl; rfl) | ((with_reducible refine wpList_load_g ?_ 26 (.tmp 19) ?_ q_i 0 ?_ Yr18 _ (Var.rng V_i.out) uB ?_ (NB.info V_i.out.nb) ?_); rfl; rfl; rfl; rfl) | ((with_reducible refine wpList_load_g ?_ 41 (.tmp 4) ?_ p 0 ?_ _ _ (rngB AX.out) uA ?_ I1.out ?_); rfl; rfl; rfl; rfl) | ((with_reducible refine wpList_load_g ?_ 41 (.tmp 5) ?_ (p + 1) 0 ?_ _ _ (rngB AY.out) uA ?_ I2.out ?_); rfl; rfl; rfl; rfl) | ((with_reducible refine wpList_load_g ?_ 41 (.tmp 11) ?_ qz 0 ?_ _ _ (rngB AZ.out) uA ?_ IZ.out ?_); rfl; rfl; rfl; rfl))
      refine CS.out.mono ?_
      rintro e w99 ⟨rfl, k99⟩
      go_wp2
      go_ret
      exact ⟨rfl, KB.out.trans k99⟩
end Bk
end Go.Proofs.Ythdcgkikhindiaa
