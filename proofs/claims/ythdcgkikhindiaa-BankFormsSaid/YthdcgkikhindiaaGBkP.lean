/-
  The law BankForms returns true. Conditions: what the slices hold is of its kinds.
-/
import Derived.Test.YthdcgkikhindiaaGBkO
namespace Go.Proofs.Ythdcgkikhindiaa
open Go.RowKit Go.Shelf
set_option linter.unusedVariables false
namespace Bk
open Pm

set_option maxRecDepth 20000 in
set_option maxHeartbeats 16000000 in
theorem forms (A : Option Addr) (n c : Nat) (zs0 : List Int) (B : Option Addr) (nb cb : Nat) (D : Option Addr) (nd cd : Nat) (raw : List Int) (w : World) (hi : SU w A n c zs0) (hn : n ≤ 9223372036854775807) (hz : Words zs0) (hacts : Acts w B nb)
    (hr : Kk.Sl w D nd cd raw) (hrb : ∀ z ∈ raw, 0 ≤ z ∧ z ≤ 255) (hnd : nd ≤ 9223372036854775807) :
    Calls Try.prog 8 #[.slice A n c, .slice B nb cb, .slice D nd cd] w fun e w' => e = .returned (.bool true) ∧ Kk.Bel w w' := by
  have uB := Try.underlying26
  have uA := Try.underlying41
  have uF := Try.underlying49
  have HI := Lib.hid hi
  have HZ0 := Lib.hid hz
  have HAC := Lib.hid hacts
  have HR := Lib.hid hr
  have HRB := Lib.hid (Cd.bytes_of hrb)
  have EF := Lib.hid neq_fault
  clear hi hz hacts hr hrb
  go_enter Try.func8, Try.ntmps8
  go_wp2_with fail
  refine (known w).mono ?_
  rintro e w1 ⟨rfl, k1⟩
  have K1 := Lib.hid k1
  clear k1
  by_cases h40 : 20 < nb
  · have h40' : (20 : Int) < nb := by omega
    go_wp2
    go_ret
    exact ⟨rfl, K1.out⟩
  have h40' : ¬ (20 : Int) < nb := by omega
  by_cases h80 : 800 < nd
  · have h80' : (800 : Int) < nd := by omega
    go_wp2
    go_ret
    exact ⟨rfl, K1.out⟩
  have h80' : ¬ (800 : Int) < nd := by omega
  go_wp2_with fail
  refine (some_ A n c zs0 w1 (HI.out.bel K1.out) hn HZ0.out).mono ?_
  rintro e w2 ⟨Y, zs, rfl, hnb, hck⟩
  have NN := Lib.hid (NB.after K1.out hnb)
  have K2 := Lib.hid (K1.out.trans hnb.bel)
  have HCK := Lib.hid hck
  have PT := Lib.hid (put_there w2 Y hnb.2.len)
  have PI := Lib.hid hnb.infoA
  have PO := Lib.hid hnb.one
  clear hnb hck
  go_upto_region 5 with ((with_reducible refine wpList_store_mid ?_ 26 (.tmp 8) (.tmp 31) ?_ (World.heap w2).size 0 Y.toArray ?_ ?_ PT.out PI.out PO.out ?_); rfl; rfl; rfl; rfl)
  have VB := Lib.hid (put_var NN.out (Kk.Bel.refl _))
  obtain ⟨b, hb⟩ : ∃ q, (World.heap w2).size = q := ⟨_, rfl⟩
  obtain ⟨w3, hw⟩ : ∃ v, (World.alloc w2 (.cells ZB 26)).setCells (World.heap w2).size 0 Y = v := ⟨_, rfl⟩
  rw [hw]
  rw [hw] at VB
  rw [hb] at VB ⊢
  clear hw hb PT PI PO NN K2
  go_wp2_with fail
  go_loopw [9] (fun u wr => ∃ (i : Nat) (Y : List Value) (zs ps : List Int), u = .int .i64 i ∧ i ≤ nb ∧ Var w wr b Y zs ps ∧ chk zs ps = 0) (fun u _ => nb - (intOf u).toNat)
  case atStart => exact ⟨0, Y, zs, [0, 0, 0, 0], rfl, Nat.zero_le _, VB.out, HCK.out⟩
  case round =>
    clear VB HCK
    obtain ⟨i, Y, zs, ps, rfl, hin, hvb, hck⟩ := hrel
    have VB := Lib.hid hvb
    have HCK := Lib.hid hck
    clear hvb hck
    by_cases hlt : i < nb
    · have hlt2 : (i : Int) < nb := by omega
      have hrow : ∃ bb ob, B = some ⟨bb, ob, none⟩ ∧ ∃ a f t m, ActB a f t m ∧ wr.rangeAt bb (ob + i * 4) [.int .i64 a, .int .i64 f, .int .i64 t, .int .u64 m] := by
        obtain ⟨bb, ob, e, _, h⟩ := HAC.out (by omega)
        obtain ⟨a, f, t, m, h1, h2⟩ := h i hlt
        exact ⟨bb, ob, e, a, f, t, m, h1, rng_bel h2 VB.out.nb.bel⟩
      obtain ⟨bb, ob, rfl, a, f, t, m, hab, hra⟩ := hrow
      have HAB := Lib.hid hab
      have RA := Lib.hid hra
      have iA := Lib.hid (show (Try.prog.info? 41).map (·.size) = some ([.int .i64 a, .int .i64 f, .int .i64 t, .int .u64 m] : List Value).length from info_act)
      clear hab hra
      go_upto_region 8 with fail
      go_cut [10, 11] (fun s10 s11 wx => ∃ (g : Nat) (X : List Value) (E a1 f1 t1 m1 : Int), s10 = .pointer (some ⟨g, 0, none⟩) ∧ s11 = .int .i64 E ∧ Hid (dE zs ps a1 f1 t1 m1 = E ∧ Near a1 m1 ∧ Kk.Bel wr wx ∧ Var w wx g X (dZ zs ps a1 f1 t1 m1) (dP zs ps a1 f1 t1 m1)))
      case first =>
        refine wp_region_held_drew (S := fun V => Kk.Bel wr V) (by kernel_rfl) (Kk.Bel.refl _).drew (fun hS0 => ?_)
        obtain ⟨v0, hv0⟩ : ∃ v0, World.drew wr = v0 := ⟨_, rfl⟩
        rw [hv0] at hS0 ⊢
        clear hv0
        refine wpAnyH_take (i := 0) (oi := { dst := some 39, op := .load 26 (.tmp 8), type := 26, pos := "outright.go:158", after := #[], guard := none }) (v := .agg Y.toArray) rfl (by kernel_rfl) (by kernel_rfl) (by kernel_rfl) (fun _ _ _ h => h) (yieldsIf_load_mid (by rfl) _ _ rfl _ _ rfl _ _ (fun w h => rng_bel (Var.rng VB.out) h) uB rfl (NB.info VB.out.nb)) hS0 ?_
        try simp only [Act.put, List.setIfInBounds_toArray, List.set_cons_zero, List.set_cons_succ]
        refine wpAnyH_take (i := 1) (oi := { dst := some 40, op := .load 26 (.tmp 8), type := 26, pos := "outright.go:158", after := #[], guard := none }) (v := .agg Y.toArray) rfl (by kernel_rfl) (by kernel_rfl) (by kernel_rfl) (fun _ _ _ h => h) (yieldsIf_load_mid (by rfl) _ _ rfl _ _ rfl _ _ (fun w h => rng_bel (Var.rng VB.out) h) uB rfl (NB.info VB.out.nb)) hS0 ?_
        try simp only [Act.put, List.setIfInBounds_toArray, List.set_cons_zero, List.set_cons_succ]
        refine wpAnyH_take (i := 2) (oi := { dst := some 41, op := .move (.tmp 1), type := 27, pos := "outright.go:158", after := #[], guard := none }) (v := .slice (some ⟨bb, ob, none⟩) nb cb) rfl (by kernel_rfl) (by kernel_rfl) (by kernel_rfl) (fun _ _ _ h => h) (Or.inl ⟨by rfl, by intro w hSw; clear hSw; go_simp⟩) hS0 ?_
        try simp only [Act.put, List.setIfInBounds_toArray, List.set_cons_zero, List.set_cons_succ]
        refine wpAnyH_take (i := 3) (oi := { dst := some 42, op := .move (.tmp 9), type := 3, pos := "outright.go:158", after := #[], guard := none }) (v := .int .i64 i) rfl (by kernel_rfl) (by kernel_rfl) (by kernel_rfl) (fun _ _ _ h => h) (Or.inl ⟨by rfl, by intro w hSw; clear hSw; go_simp⟩) hS0 ?_
        try simp only [Act.put, List.setIfInBounds_toArray, List.set_cons_zero, List.set_cons_succ]
        refine wpAnyH_take (i := 4) (oi := { dst := some 43, op := .indexAddr 27 (.tmp 41) (.tmp 42), type := 0, pos := "outright.go:158", after := #[{ on := 2, ground := .data }, { on := 3, ground := .data }], guard := none }) (v := .pointer (some ⟨bb, ob + i * 4, none⟩)) rfl (by kernel_rfl) (by kernel_rfl) (by kernel_rfl) (fun _ _ _ h => h) (Or.inl ⟨by rfl, by intro w hSw; clear hSw; go_simp⟩) hS0 ?_
        try simp only [Act.put, List.setIfInBounds_toArray, List.set_cons_zero, List.set_cons_succ]
        refine wpAnyH_take (i := 5) (oi := { dst := some 44, op := .load 41 (.tmp 43), type := 41, pos := "outright.go:158", after := #[{ on := 4, ground := .data }], guard := none }) (v := actV a f t m) rfl (by kernel_rfl) (by kernel_rfl) (by kernel_rfl) (fun _ _ _ h => h) (yieldsIf_load_mid (by rfl) _ _ rfl _ _ rfl _ _ (fun w h => rng_bel RA.out h) uA rfl iA.out) hS0 ?_
        try simp only [Act.put, List.setIfInBounds_toArray, List.set_cons_zero, List.set_cons_succ]
        refine wpAnyH_ready (rs := [6, 11]) (by kernel_rfl) (by simp) ?_
        refine AllReadyH.cons (o := { dst := some 45, op := .call { callee := .value (.func 39), args := #[.tmp 40, .tmp 44], argTypes := #[26, 41] }, type := 41, pos := "outright.go:158", after := #[{ on := 1, ground := .data }, { on := 5, ground := .data }], guard := none }) rfl (fun K hK => ?_) (AllReadyH.cons (o := { dst := some 10, op := .alloc 26, type := 0, pos := "outright.go:158", after := #[], guard := none }) rfl (fun K hK => ?_) AllReadyH.nil)
        · skip
          go_simp
          refine (near a f t m Y zs ps v0 (VB.out.bv.bel hS0) HAB.out).mono ?_
          rintro e v1 ⟨a1, f1, t1, m1, rfl, hnear, k1⟩
          go_wp2_with fail
          have hS1 := hS0.trans k1
          refine hK.out _ _ hS1 (fun _ => ?_)
          clear hK K
          try simp only [Act.put, List.setIfInBounds_toArray, List.set_cons_zero, List.set_cons_succ]
          clear k1
          refine wpAnyH_ready (rs := [7, 11]) (by kernel_rfl) (by simp) ?_
          refine AllReadyH.cons (o := { dst := some 46, op := .call { callee := .value (.func 23), args := #[.tmp 39, .tmp 45], argTypes := #[26, 41] }, type := 31, pos := "outright.go:158", after := #[{ on := 0, ground := .data }, { on := 6, ground := .data }, { on := 6, ground := .chain }], guard := none }) rfl (fun K hK => ?_) (AllReadyH.cons (o := { dst := some 10, op := .alloc 26, type := 0, pos := "outright.go:158", after := #[], guard := none }) rfl (fun K hK => ?_) AllReadyH.nil)
          · skip
            go_simp
            refine (does a1 f1 t1 m1 Y zs ps v1 (VB.out.bv.bel hS1) hnear.2.2.1 hnear.2.2.2).mono ?_
            rintro e v2 ⟨X, rfl, hnb⟩
            obtain ⟨E, hE⟩ : ∃ E, dE zs ps a1 f1 t1 m1 = E := ⟨_, rfl⟩
            rw [hE]
            have HE := Lib.hid hE
            clear hE
            go_wp2_with fail
            have hS2 := hS1.trans hnb.bel
            have NX2 := NB.after (VB.out.nb.bel.trans hS1) hnb
            refine hK.out _ _ hS2 (fun _ => ?_)
            clear hK K
            try simp only [Act.put, List.setIfInBounds_toArray, List.set_cons_zero, List.set_cons_succ]
            clear hnb
            refine wpAnyH_take (i := 8) (oi := { dst := some 38, op := .move (.tmp 46), type := 31, pos := "outright.go:158", after := #[{ on := 7, ground := .data }], guard := none }) (v := .tuple #[.agg X.toArray, .int .i64 E]) rfl (by kernel_rfl) (by kernel_rfl) (by kernel_rfl) (fun _ _ _ h => h) (Or.inl ⟨by rfl, by intro w hSw; clear hSw; go_simp⟩) hS2 ?_
            try simp only [Act.put, List.setIfInBounds_toArray, List.set_cons_zero, List.set_cons_succ]
            refine wpAnyH_take (i := 9) (oi := { dst := some 47, op := .extract (.tmp 38) 0, type := 26, pos := "outright.go:158", after := #[{ on := 8, ground := .data }], guard := none }) (v := .agg X.toArray) rfl (by kernel_rfl) (by kernel_rfl) (by kernel_rfl) (fun _ _ _ h => h) (Or.inl ⟨by rfl, by intro w hSw; clear hSw; go_simp⟩) hS2 ?_
            try simp only [Act.put, List.setIfInBounds_toArray, List.set_cons_zero, List.set_cons_succ]
            refine wpAnyH_take (i := 10) (oi := { dst := some 48, op := .extract (.tmp 38) 1, type := 30, pos := "outright.go:158", after := #[{ on := 8, ground := .data }, { on := 12, ground := .gcOnly .lateStores }], guard := none }) (v := .int .i64 E) rfl (by kernel_rfl) (by kernel_rfl) (by kernel_rfl) (fun _ _ _ h => h) (Or.inl ⟨by rfl, by intro w hSw; clear hSw; go_simp⟩) hS2 ?_
            try simp only [Act.put, List.setIfInBounds_toArray, List.set_cons_zero, List.set_cons_succ]
            refine wpAnyH_ready (rs := [11]) (by kernel_rfl) (by simp) ?_
            refine AllReadyH.cons (o := { dst := some 10, op := .alloc 26, type := 0, pos := "outright.go:158", after := #[], guard := none }) rfl (fun K hK => ?_) AllReadyH.nil
            go_simp
            have hS3 := hS2.trans ((Kk.Bel.refl v2).alloc (.cells ZB 26))
            refine hK.out _ _ hS3 (fun _ => ?_)
            clear hK K
            try simp only [Act.put, List.setIfInBounds_toArray, List.set_cons_zero, List.set_cons_succ]
            have G3 : Kk.Blk (World.alloc v2 (.cells ZB 26)) (World.heap v2).size [.slice none 0 0, .int .u64 0, .int .u64 0, .int .u64 0, .int .u64 0].toArray 26 := Kk.Blk.new v2 _ _
            have hg0 := Below.size hS2
            have NX3 := NB.then_ NX2 ((Kk.Bel.refl v2).alloc (.cells ZB 26))
            obtain ⟨g, hg⟩ : ∃ g, (World.heap v2).size = g := ⟨_, rfl⟩
            obtain ⟨v3, hv⟩ : ∃ v, World.alloc v2 (.cells ZB 26) = v := ⟨_, rfl⟩
            have hv2 : World.alloc v2 (.cells #[.slice none 0 0, .int .u64 0, .int .u64 0, .int .u64 0, .int .u64 0] 26) = v3 := hv
            rw [hv] at hS3 G3 NX3
            rw [hv2]
            rw [hg] at G3 hg0 ⊢
            clear hg hv hv2
            refine wpAnyH_ready (rs := [12]) (by kernel_rfl) (by simp) ?_
            refine AllReadyH.cons (o := { dst := none, op := .store 26 (.tmp 10) (.tmp 47), type := 0, pos := "outright.go:158", after := #[{ on := 11, ground := .data }, { on := 9, ground := .data }, { on := 7, ground := .chain }, { on := 0, ground := .phase }, { on := 1, ground := .phase }, { on := 2, ground := .phase }, { on := 3, ground := .phase }, { on := 4, ground := .phase }, { on := 5, ground := .phase }, { on := 6, ground := .phase }, { on := 7, ground := .phase }, { on := 8, ground := .phase }, { on := 9, ground := .phase }, { on := 10, ground := .textOnly .lateStores }, { on := 11, ground := .phase }], guard := none }) rfl (fun K hK => ?_) AllReadyH.nil
            rw [if_pos (by rfl)]
            have hgS := Below.size hS3
            refine wp_store_mid 26 (.tmp 10) (.tmp 47) rfl g 0 X.toArray rfl rfl (blk_there G3 rfl NX3.2.len) (NB.infoA NX3) (NB.one NX3) ?_
            have hSE := bel_setCells hS3 hg0 0 X
            have VX := set_var (w0 := w) G3 rfl (Nat.le_trans (Below.size VB.out.nb.bel) hg0) NX3 (Kk.Bel.refl _)
            have HH := Lib.hid (And.intro hSE VX)
            clear VX
            refine hK.out _ _ hSE (fun _ => ?_)
            clear hK K
            try simp only [Act.put]
            refine wpAnyH_take (i := 13) (oi := { dst := some 11, op := .assign (.tmp 48), type := 30, pos := "outright.go:158", after := #[{ on := 10, ground := .data }, { on := 12, ground := .chain }, { on := 0, ground := .phase }, { on := 1, ground := .phase }, { on := 2, ground := .phase }, { on := 3, ground := .phase }, { on := 4, ground := .phase }, { on := 5, ground := .phase }, { on := 6, ground := .phase }, { on := 7, ground := .phase }, { on := 8, ground := .phase }, { on := 9, ground := .phase }, { on := 10, ground := .phase }, { on := 11, ground := .phase }, { on := 12, ground := .phase }], guard := none }) (v := .int .i64 E) rfl (by kernel_rfl) (by kernel_rfl) (by kernel_rfl) (fun _ _ _ h => h) (Or.inl ⟨by rfl, by intro w hSw; clear hSw; go_simp⟩) hSE ?_
            try simp only [Act.put, List.setIfInBounds_toArray, List.set_cons_zero, List.set_cons_succ]
            refine wpAnyH_done (by kernel_rfl) ?_ _
            go_wp2_with fail
            go_meet
            exact ⟨g, X, E, a1, f1, t1, m1, rfl, rfl, Lib.hid ⟨HE.out, hnear, HH.out.1, HH.out.2⟩⟩
          · skip
            go_simp
            have hS5 := hS1.trans ((Kk.Bel.refl v1).alloc (.cells ZB 26))
            refine hK.out _ _ hS5 (fun _ => ?_)
            clear hK K
            try simp only [Act.put, List.setIfInBounds_toArray, List.set_cons_zero, List.set_cons_succ]
            have G5 : Kk.Blk (World.alloc v1 (.cells ZB 26)) (World.heap v1).size [.slice none 0 0, .int .u64 0, .int .u64 0, .int .u64 0, .int .u64 0].toArray 26 := Kk.Blk.new v1 _ _
            have hg0 := Below.size hS1
            obtain ⟨g, hg⟩ : ∃ g, (World.heap v1).size = g := ⟨_, rfl⟩
            obtain ⟨v5, hv⟩ : ∃ v, World.alloc v1 (.cells ZB 26) = v := ⟨_, rfl⟩
            have hv2 : World.alloc v1 (.cells #[.slice none 0 0, .int .u64 0, .int .u64 0, .int .u64 0, .int .u64 0] 26) = v5 := hv
            rw [hv] at hS5 G5
            rw [hv2]
            rw [hg] at G5 hg0 ⊢
            clear hg hv hv2
            refine wpAnyH_ready (rs := [7]) (by kernel_rfl) (by simp) ?_
            refine AllReadyH.cons (o := { dst := some 46, op := .call { callee := .value (.func 23), args := #[.tmp 39, .tmp 45], argTypes := #[26, 41] }, type := 31, pos := "outright.go:158", after := #[{ on := 0, ground := .data }, { on := 6, ground := .data }, { on := 6, ground := .chain }], guard := none }) rfl (fun K hK => ?_) AllReadyH.nil
            go_simp
            refine (does a1 f1 t1 m1 Y zs ps v5 (VB.out.bv.bel hS5) hnear.2.2.1 hnear.2.2.2).mono ?_
            rintro e v6 ⟨X, rfl, hnb⟩
            obtain ⟨E, hE⟩ : ∃ E, dE zs ps a1 f1 t1 m1 = E := ⟨_, rfl⟩
            rw [hE]
            have HE := Lib.hid hE
            clear hE
            go_wp2_with fail
            have hS6 := hS5.trans hnb.bel
            have NX6 := NB.after (VB.out.nb.bel.trans hS5) hnb
            refine hK.out _ _ hS6 (fun _ => ?_)
            clear hK K
            try simp only [Act.put, List.setIfInBounds_toArray, List.set_cons_zero, List.set_cons_succ]
            have G6 := G5.bel hnb.bel
            clear hnb
            refine wpAnyH_take (i := 8) (oi := { dst := some 38, op := .move (.tmp 46), type := 31, pos := "outright.go:158", after := #[{ on := 7, ground := .data }], guard := none }) (v := .tuple #[.agg X.toArray, .int .i64 E]) rfl (by kernel_rfl) (by kernel_rfl) (by kernel_rfl) (fun _ _ _ h => h) (Or.inl ⟨by rfl, by intro w hSw; clear hSw; go_simp⟩) hS6 ?_
            try simp only [Act.put, List.setIfInBounds_toArray, List.set_cons_zero, List.set_cons_succ]
            refine wpAnyH_take (i := 9) (oi := { dst := some 47, op := .extract (.tmp 38) 0, type := 26, pos := "outright.go:158", after := #[{ on := 8, ground := .data }], guard := none }) (v := .agg X.toArray) rfl (by kernel_rfl) (by kernel_rfl) (by kernel_rfl) (fun _ _ _ h => h) (Or.inl ⟨by rfl, by intro w hSw; clear hSw; go_simp⟩) hS6 ?_
            try simp only [Act.put, List.setIfInBounds_toArray, List.set_cons_zero, List.set_cons_succ]
            refine wpAnyH_take (i := 10) (oi := { dst := some 48, op := .extract (.tmp 38) 1, type := 30, pos := "outright.go:158", after := #[{ on := 8, ground := .data }, { on := 12, ground := .gcOnly .lateStores }], guard := none }) (v := .int .i64 E) rfl (by kernel_rfl) (by kernel_rfl) (by kernel_rfl) (fun _ _ _ h => h) (Or.inl ⟨by rfl, by intro w hSw; clear hSw; go_simp⟩) hS6 ?_
            try simp only [Act.put, List.setIfInBounds_toArray, List.set_cons_zero, List.set_cons_succ]
            refine wpAnyH_ready (rs := [12]) (by kernel_rfl) (by simp) ?_
            refine AllReadyH.cons (o := { dst := none, op := .store 26 (.tmp 10) (.tmp 47), type := 0, pos := "outright.go:158", after := #[{ on := 11, ground := .data }, { on := 9, ground := .data }, { on := 7, ground := .chain }, { on := 0, ground := .phase }, { on := 1, ground := .phase }, { on := 2, ground := .phase }, { on := 3, ground := .phase }, { on := 4, ground := .phase }, { on := 5, ground := .phase }, { on := 6, ground := .phase }, { on := 7, ground := .phase }, { on := 8, ground := .phase }, { on := 9, ground := .phase }, { on := 10, ground := .textOnly .lateStores }, { on := 11, ground := .phase }], guard := none }) rfl (fun K hK => ?_) AllReadyH.nil
            rw [if_pos (by rfl)]
            have hgS := Below.size hS6
            refine wp_store_mid 26 (.tmp 10) (.tmp 47) rfl g 0 X.toArray rfl rfl (blk_there G6 rfl NX6.2.len) (NB.infoA NX6) (NB.one NX6) ?_
            have hSE := bel_setCells hS6 hg0 0 X
            have VX := set_var (w0 := w) G6 rfl (Nat.le_trans (Below.size VB.out.nb.bel) hg0) NX6 (Kk.Bel.refl _)
            have HH := Lib.hid (And.intro hSE VX)
            clear VX
            refine hK.out _ _ hSE (fun _ => ?_)
            clear hK K
            try simp only [Act.put]
            refine wpAnyH_take (i := 13) (oi := { dst := some 11, op := .assign (.tmp 48), type := 30, pos := "outright.go:158", after := #[{ on := 10, ground := .data }, { on := 12, ground := .chain }, { on := 0, ground := .phase }, { on := 1, ground := .phase }, { on := 2, ground := .phase }, { on := 3, ground := .phase }, { on := 4, ground := .phase }, { on := 5, ground := .phase }, { on := 6, ground := .phase }, { on := 7, ground := .phase }, { on := 8, ground := .phase }, { on := 9, ground := .phase }, { on := 10, ground := .phase }, { on := 11, ground := .phase }, { on := 12, ground := .phase }], guard := none }) (v := .int .i64 E) rfl (by kernel_rfl) (by kernel_rfl) (by kernel_rfl) (fun _ _ _ h => h) (Or.inl ⟨by rfl, by intro w hSw; clear hSw; go_simp⟩) hSE ?_
            try simp only [Act.put, List.setIfInBounds_toArray, List.set_cons_zero, List.set_cons_succ]
            refine wpAnyH_done (by kernel_rfl) ?_ _
            go_wp2_with fail
            go_meet
            exact ⟨g, X, E, a1, f1, t1, m1, rfl, rfl, Lib.hid ⟨HE.out, hnear, HH.out.1, HH.out.2⟩⟩
        · skip
          go_simp
          have hS8 := hS0.trans ((Kk.Bel.refl v0).alloc (.cells ZB 26))
          refine hK.out _ _ hS8 (fun _ => ?_)
          clear hK K
          try simp only [Act.put, List.setIfInBounds_toArray, List.set_cons_zero, List.set_cons_succ]
          have G8 : Kk.Blk (World.alloc v0 (.cells ZB 26)) (World.heap v0).size [.slice none 0 0, .int .u64 0, .int .u64 0, .int .u64 0, .int .u64 0].toArray 26 := Kk.Blk.new v0 _ _
          have hg0 := Below.size hS0
          obtain ⟨g, hg⟩ : ∃ g, (World.heap v0).size = g := ⟨_, rfl⟩
          obtain ⟨v8, hv⟩ : ∃ v, World.alloc v0 (.cells ZB 26) = v := ⟨_, rfl⟩
          have hv2 : World.alloc v0 (.cells #[.slice none 0 0, .int .u64 0, .int .u64 0, .int .u64 0, .int .u64 0] 26) = v8 := hv
          rw [hv] at hS8 G8
          rw [hv2]
          rw [hg] at G8 hg0 ⊢
          clear hg hv hv2
          refine wpAnyH_ready (rs := [6]) (by kernel_rfl) (by simp) ?_
          refine AllReadyH.cons (o := { dst := some 45, op := .call { callee := .value (.func 39), args := #[.tmp 40, .tmp 44], argTypes := #[26, 41] }, type := 41, pos := "outright.go:158", after := #[{ on := 1, ground := .data }, { on := 5, ground := .data }], guard := none }) rfl (fun K hK => ?_) AllReadyH.nil
          go_simp
          refine (near a f t m Y zs ps v8 (VB.out.bv.bel hS8) HAB.out).mono ?_
          rintro e v9 ⟨a1, f1, t1, m1, rfl, hnear, k9⟩
          go_wp2_with fail
          have hS9 := hS8.trans k9
          refine hK.out _ _ hS9 (fun _ => ?_)
          clear hK K
          try simp only [Act.put, List.setIfInBounds_toArray, List.set_cons_zero, List.set_cons_succ]
          have G9 := G8.bel k9
          clear k9
          refine wpAnyH_ready (rs := [7]) (by kernel_rfl) (by simp) ?_
          refine AllReadyH.cons (o := { dst := some 46, op := .call { callee := .value (.func 23), args := #[.tmp 39, .tmp 45], argTypes := #[26, 41] }, type := 31, pos := "outright.go:158", after := #[{ on := 0, ground := .data }, { on := 6, ground := .data }, { on := 6, ground := .chain }], guard := none }) rfl (fun K hK => ?_) AllReadyH.nil
          go_simp
          refine (does a1 f1 t1 m1 Y zs ps v9 (VB.out.bv.bel hS9) hnear.2.2.1 hnear.2.2.2).mono ?_
          rintro e v10 ⟨X, rfl, hnb⟩
          obtain ⟨E, hE⟩ : ∃ E, dE zs ps a1 f1 t1 m1 = E := ⟨_, rfl⟩
          rw [hE]
          have HE := Lib.hid hE
          clear hE
          go_wp2_with fail
          have hS10 := hS9.trans hnb.bel
          have NX10 := NB.after (VB.out.nb.bel.trans hS9) hnb
          refine hK.out _ _ hS10 (fun _ => ?_)
          clear hK K
          try simp only [Act.put, List.setIfInBounds_toArray, List.set_cons_zero, List.set_cons_succ]
          have G10 := G9.bel hnb.bel
          clear hnb
          refine wpAnyH_take (i := 8) (oi := { dst := some 38, op := .move (.tmp 46), type := 31, pos := "outright.go:158", after := #[{ on := 7, ground := .data }], guard := none }) (v := .tuple #[.agg X.toArray, .int .i64 E]) rfl (by kernel_rfl) (by kernel_rfl) (by kernel_rfl) (fun _ _ _ h => h) (Or.inl ⟨by rfl, by intro w hSw; clear hSw; go_simp⟩) hS10 ?_
          try simp only [Act.put, List.setIfInBounds_toArray, List.set_cons_zero, List.set_cons_succ]
          refine wpAnyH_take (i := 9) (oi := { dst := some 47, op := .extract (.tmp 38) 0, type := 26, pos := "outright.go:158", after := #[{ on := 8, ground := .data }], guard := none }) (v := .agg X.toArray) rfl (by kernel_rfl) (by kernel_rfl) (by kernel_rfl) (fun _ _ _ h => h) (Or.inl ⟨by rfl, by intro w hSw; clear hSw; go_simp⟩) hS10 ?_
          try simp only [Act.put, List.setIfInBounds_toArray, List.set_cons_zero, List.set_cons_succ]
          refine wpAnyH_take (i := 10) (oi := { dst := some 48, op := .extract (.tmp 38) 1, type := 30, pos := "outright.go:158", after := #[{ on := 8, ground := .data }, { on := 12, ground := .gcOnly .lateStores }], guard := none }) (v := .int .i64 E) rfl (by kernel_rfl) (by kernel_rfl) (by kernel_rfl) (fun _ _ _ h => h) (Or.inl ⟨by rfl, by intro w hSw; clear hSw; go_simp⟩) hS10 ?_
          try simp only [Act.put, List.setIfInBounds_toArray, List.set_cons_zero, List.set_cons_succ]
          refine wpAnyH_ready (rs := [12]) (by kernel_rfl) (by simp) ?_
          refine AllReadyH.cons (o := { dst := none, op := .store 26 (.tmp 10) (.tmp 47), type := 0, pos := "outright.go:158", after := #[{ on := 11, ground := .data }, { on := 9, ground := .data }, { on := 7, ground := .chain }, { on := 0, ground := .phase }, { on := 1, ground := .phase }, { on := 2, ground := .phase }, { on := 3, ground := .phase }, { on := 4, ground := .phase }, { on := 5, ground := .phase }, { on := 6, ground := .phase }, { on := 7, ground := .phase }, { on := 8, ground := .phase }, { on := 9, ground := .phase }, { on := 10, ground := .textOnly .lateStores }, { on := 11, ground := .phase }], guard := none }) rfl (fun K hK => ?_) AllReadyH.nil
          rw [if_pos (by rfl)]
          have hgS := Below.size hS10
          refine wp_store_mid 26 (.tmp 10) (.tmp 47) rfl g 0 X.toArray rfl rfl (blk_there G10 rfl NX10.2.len) (NB.infoA NX10) (NB.one NX10) ?_
          have hSE := bel_setCells hS10 hg0 0 X
          have VX := set_var (w0 := w) G10 rfl (Nat.le_trans (Below.size VB.out.nb.bel) hg0) NX10 (Kk.Bel.refl _)
          have HH := Lib.hid (And.intro hSE VX)
          clear VX
          refine hK.out _ _ hSE (fun _ => ?_)
          clear hK K
          try simp only [Act.put]
          refine wpAnyH_take (i := 13) (oi := { dst := some 11, op := .assign (.tmp 48), type := 30, pos := "outright.go:158", after := #[{ on := 10, ground := .data }, { on := 12, ground := .chain }, { on := 0, ground := .phase }, { on := 1, ground := .phase }, { on := 2, ground := .phase }, { on := 3, ground := .phase }, { on := 4, ground := .phase }, { on := 5, ground := .phase }, { on := 6, ground := .phase }, { on := 7, ground := .phase }, { on := 8, ground := .phase }, { on := 9, ground := .phase }, { on := 10, ground := .phase }, { on := 11, ground := .phase }, { on := 12, ground := .phase }], guard := none }) (v := .int .i64 E) rfl (by kernel_rfl) (by kernel_rfl) (by kernel_rfl) (fun _ _ _ h => h) (Or.inl ⟨by rfl, by intro w hSw; clear hSw; go_simp⟩) hSE ?_
          try simp only [Act.put, List.setIfInBounds_toArray, List.set_cons_zero, List.set_cons_succ]
          refine wpAnyH_done (by kernel_rfl) ?_ _
          go_wp2_with fail
          go_meet
          exact ⟨g, X, E, a1, f1, t1, m1, rfl, rfl, Lib.hid ⟨HE.out, hnear, HH.out.1, HH.out.2⟩⟩
      case rest =>
        obtain ⟨g, X, E, a1, f1, t1, m1, rfl, rfl, hh⟩ := hcut
        have VX := Lib.hid hh.out.2.2.2
        have VB := Lib.hid (VB.out.bel hh.out.2.2.1)
        have HE := Lib.hid hh.out.1
        have HN := Lib.hid hh.out.2.1
        clear hh RA HAB iA
        by_cases hE0 : E = 0
        · subst hE0
          obtain ⟨g1, g2, g3, g4, g5⟩ := d_keeps VB.out.good HCK.out HN.out HE.out
          have G2 := Lib.hid g2
          clear g1 g2 g3 g4 g5
          have TB := Lib.hid (VB.out.there VX.out.bv.len)
          have VE := Lib.hid (VB.out.set VX.out.nb (Kk.Bel.refl _))
          go_wp2_with (first | ((with_reducible refine wpList_load_g ?_ 26 (.tmp 10) ?_ g 0 ?_ X _ (Var.rng VX.out) uB ?_ (NB.info VX.out.nb) ?_); rfl; rfl; rfl; rfl) | ((with_reducible refine wpList_store_mid ?_ 26 (.tmp 8) (.tmp 51) ?_ b 0 X.toArray ?_ ?_ TB.out (NB.infoA VX.out.nb) (NB.one VX.out.nb) ?_); rfl; rfl; rfl; rfl))
          exact ⟨⟨i + 1, X, _, _, by go_num, by omega, VE.out, G2.out⟩, by simp [intOf]; omega⟩
        · have hE1 : (E == 0) = false := by simpa using hE0
          go_wp2_with fail
          exact ⟨⟨i + 1, Y, zs, ps, by go_num, by omega, VB.out, HCK.out⟩, by simp [intOf]; omega⟩
    · obtain rfl : i = nb := by omega
      have hlt2 : ¬ (i : Int) < i := by omega
      clear h40 h40' HAC
      obtain ⟨o1, o2, o3, o4, o5, o6⟩ := own_bytes HCK.out VB.out.good
      have CB := Lib.hid (bytesV Y zs ps wr VB.out.bv)
      rw [HCK.out] at CB
      obtain ⟨xs, hxs⟩ : ∃ xs, bytesB zs ps = xs := ⟨_, rfl⟩
      rw [hxs] at CB o1 o2 o3 o4 o5 o6
      obtain ⟨nn, hnn⟩ : ∃ k, zs.length = k := ⟨_, rfl⟩
      obtain ⟨ll, hll⟩ : ∃ k, zs ++ ps = k := ⟨_, rfl⟩
      rw [hnn, hll] at o1 o2 o3 o4
      have O1 := Lib.hid o1
      have O5 := Lib.hid o5
      have O6 := Lib.hid o6
      have O2 := Lib.hid o2
      have O34 := Lib.hid (And.intro o3 o4)
      clear o1 o2 o3 o4 o5 o6 hxs hnn hll
      go_wp2_with ((with_reducible refine wpList_load_g ?_ 26 (.tmp 8) ?_ b 0 ?_ Y _ (Var.rng VB.out) uB ?_ (NB.info VB.out.nb) ?_); rfl; rfl; rfl; rfl)
      refine CB.out.mono ?_
      rintro e w4 ⟨v4, rfl, hf⟩
      obtain ⟨A4, c4, rfl, hsl⟩ := hf.sl
      have VB := Lib.hid (VB.out.bel hf.2)
      have CR := Lib.hid (readV A4 xs.length c4 xs w4 hsl (by have := O6.out; omega) O5.out nn ll xs.length none O1.out)
      rw [O2.out, O34.out.1, O34.out.2] at CR
      clear hf hsl CB
      go_wp2_with fail
      refine CR.out.mono ?_
      rintro e w5 ⟨X, rfl, hnb⟩
      have NX := Lib.hid (NB.after VB.out.nb.bel hnb)
      have VB := Lib.hid (VB.out.bel hnb.bel)
      have HL_a := Lib.hid hnb.2.len
      have HI_a := Lib.hid hnb.infoA
      have HO_a := Lib.hid hnb.one
      have HLE_a := Lib.hid (show w.heap.size ≤ w5.heap.size from Below.size NX.out.bel)
      clear hnb CR O1 O2 O34 O5 O6
      obtain ⟨V9, hV0, ht1, ht2, hk9, hb9, hf9⟩ := put2 w5 X HL_a.out 0 0
      have T1 := Lib.hid ht1
      have T2 := Lib.hid ht2
      have KN_a := Lib.hid hk9
      have QB_a := Lib.hid hb9
      have QF_a := Lib.hid hf9
      have I4 := Lib.hid (show (Try.prog.info? 49).map (·.size) = some (#[.int .i64 0, .int .i64 0] : Array Value).size from info_flt)
      have O4 := Lib.hid (flt_one 0 0)
      have hs9 : (World.heap (World.alloc w5 (.cells #[.slice none 0 0, .int .u64 0, .int .u64 0, .int .u64 0, .int .u64 0] 26))).size = (World.heap w5).size + 1 := World.size_alloc _ _
      have hV9 : World.alloc (World.alloc w5 (.cells #[.slice none 0 0, .int .u64 0, .int .u64 0, .int .u64 0, .int .u64 0] 26)) (.cells #[.int .i64 0, .int .i64 0] 49) = V9 := hV0
      clear hV0
      clear ht1 ht2 hk9 hb9 hf9
      go_upto_region 13 with (first | ((with_reducible refine wpList_store_mid ?_ 26 (.tmp 14) (.tmp 60) ?_ (World.heap w5).size 0 X.toArray ?_ ?_ T1.out HI_a.out HO_a.out ?_); rfl; rfl; rfl; rfl) | ((with_reducible refine wpList_store_mid ?_ 49 (.tmp 15) (.tmp 61) ?_ ((World.heap w5).size + 1) 0 #[.int .i64 0, .int .i64 0] ?_ ?_ T2.out I4.out O4.out ?_); rfl; rfl; rfl; rfl))
      clear T1 T2 hs9 hV9 I4 O4
      obtain ⟨wa, hw9⟩ : ∃ v, (World.setCells V9 (World.heap w5).size 0 X).setCells ((World.heap w5).size + 1) 0 [.int .i64 0, .int .i64 0] = v := ⟨_, rfl⟩
      rw [hw9] at KN_a QB_a QF_a ⊢
      obtain ⟨q_a, hq9⟩ : ∃ q, (World.heap w5).size = q := ⟨_, rfl⟩
      have HSQ_a := Lib.hid (show w.heap.size ≤ q_a by rw [← hq9]; exact HLE_a.out)
      rw [hq9] at QB_a QF_a ⊢
      clear hw9 hq9 V9

      have VB := Lib.hid (VB.out.bel KN_a.out)
      have VX := Lib.hid (NB.var (NB.then_ NX.out KN_a.out) QB_a.out HSQ_a.out)
      have RF := Lib.hid (rngB QF_a.out)
      have iF := Lib.hid (show (Try.prog.info? 49).map (·.size) = some ([.int .i64 0, .int .i64 0] : List Value).length from info_flt)
      have hef := fun W => EF.out 0 0 0 0 W
      have CS := Lib.hid (sameBank Y X zs ps zs ps wa VB.out.bv VX.out.bv)
      rw [show decide (zs = zs ∧ ps = ps) = true by simp] at CS
      go_wp2_with (first | ((with_reducible refine wpList_load_g ?_ 49 (.tmp 15) ?_ (q_a + 1) 0 ?_ _ _ RF.out uF ?_ iF.out ?_); rfl; rfl; rfl; rfl) | ((with_reducible refine wpList_load_g ?_ 26 (.tmp 8) ?_ b 0 ?_ Y _ (Var.rng VB.out) uB ?_ (NB.info VB.out.nb) ?_); rfl; rfl; rfl; rfl) | ((with_reducible refine wpList_load_g ?_ 26 (.tmp 14) ?_ q_a 0 ?_ X _ (Var.rng VX.out) uB ?_ (NB.info VX.out.nb) ?_); rfl; rfl; rfl; rfl))
      refine CS.out.mono ?_
      rintro e w6 ⟨rfl, k6⟩
      have K6 := Lib.hid (VB.out.nb.bel.trans k6)
      clear k6 CS hef RF iF
      obtain ⟨n2, l2, ke, fe, hrun, hown⟩ := run_some raw HRB.out
      have CR := Lib.hid (readV D nd cd raw w6 (HR.out.bel K6.out) (by omega) HRB.out n2 l2 ke fe hrun)
      have HRW := Lib.hid (raw_bytes hrun hown)
      obtain ⟨e1, he1⟩ : ∃ x, (rdF raw n2 l2 ke fe).1 = x := ⟨_, rfl⟩
      obtain ⟨e2, he2⟩ : ∃ x, (rdF raw n2 l2 ke fe).2 = x := ⟨_, rfl⟩
      obtain ⟨dz, hdz⟩ : ∃ x, rdZ raw n2 l2 ke fe = x := ⟨_, rfl⟩
      obtain ⟨dp, hdp⟩ : ∃ x, rdP raw n2 l2 ke fe = x := ⟨_, rfl⟩
      have HNO := Lib.hid (show ¬ e1 = 0 → dz = [] ∧ dp = [0, 0, 0, 0] from fun h => by rw [← hdz, ← hdp]; unfold rdZ rdP; rw [he1, if_neg h, if_neg h]; exact ⟨rfl, rfl⟩)
      rw [he1, he2, hdz, hdp] at CR
      rw [he1, hdz, hdp] at HRW
      clear hrun hown he1 he2 hdz hdp
      go_wp2_with fail
      refine CR.out.mono ?_
      rintro e w7 ⟨X7, rfl, hnb⟩
      have NX := Lib.hid (NB.after K6.out hnb)
      have HL_c := Lib.hid hnb.2.len
      have HI_c := Lib.hid hnb.infoA
      have HO_c := Lib.hid hnb.one
      have HLE_c := Lib.hid (show w.heap.size ≤ w7.heap.size from Below.size NX.out.bel)
      clear hnb CR VB VX
      obtain ⟨V9, hV0, ht1, ht2, hk9, hb9, hf9⟩ := put2 w7 X7 HL_c.out e1 e2
      have T1 := Lib.hid ht1
      have T2 := Lib.hid ht2
      have KN_c := Lib.hid hk9
      have QB_c := Lib.hid hb9
      have QF_c := Lib.hid hf9
      have I4 := Lib.hid (show (Try.prog.info? 49).map (·.size) = some (#[.int .i64 e1, .int .i64 e2] : Array Value).size from info_flt)
      have O4 := Lib.hid (flt_one e1 e2)
      have hs9 : (World.heap (World.alloc w7 (.cells #[.slice none 0 0, .int .u64 0, .int .u64 0, .int .u64 0, .int .u64 0] 26))).size = (World.heap w7).size + 1 := World.size_alloc _ _
      have hV9 : World.alloc (World.alloc w7 (.cells #[.slice none 0 0, .int .u64 0, .int .u64 0, .int .u64 0, .int .u64 0] 26)) (.cells #[.int .i64 0, .int .i64 0] 49) = V9 := hV0
      clear hV0
      clear ht1 ht2 hk9 hb9 hf9
      go_upto_region 16 with (first | ((with_reducible refine wpList_store_mid ?_ 26 (.tmp 16) (.tmp 78) ?_ (World.heap w7).size 0 X7.toArray ?_ ?_ T1.out HI_c.out HO_c.out ?_); rfl; rfl; rfl; rfl) | ((with_reducible refine wpList_store_mid ?_ 49 (.tmp 17) (.tmp 79) ?_ ((World.heap w7).size + 1) 0 #[.int .i64 e1, .int .i64 e2] ?_ ?_ T2.out I4.out O4.out ?_); rfl; rfl; rfl; rfl))
      clear T1 T2 hs9 hV9 I4 O4
      obtain ⟨wc, hw9⟩ : ∃ v, (World.setCells V9 (World.heap w7).size 0 X7).setCells ((World.heap w7).size + 1) 0 [.int .i64 e1, .int .i64 e2] = v := ⟨_, rfl⟩
      rw [hw9] at KN_c QB_c QF_c ⊢
      obtain ⟨q_c, hq9⟩ : ∃ q, (World.heap w7).size = q := ⟨_, rfl⟩
      have HSQ_c := Lib.hid (show w.heap.size ≤ q_c by rw [← hq9]; exact HLE_c.out)
      rw [hq9] at QB_c QF_c ⊢
      clear hw9 hq9 V9

      have VX := Lib.hid (NB.var (NB.then_ NX.out KN_c.out) QB_c.out HSQ_c.out)
      have hcf := QF_c.out.cell 0 (v := .int .i64 e1) rfl
      by_cases hE0 : e1 = 0
      · subst hE0
        obtain ⟨r1, r2⟩ := HRW.out rfl
        have CB := Lib.hid (bytesV X7 dz dp wc VX.out.bv)
        rw [r1, r2] at CB
        clear r1 r2
        go_wp2_with ((with_reducible refine wpList_load_g ?_ 26 (.tmp 16) ?_ q_c 0 ?_ X7 _ (Var.rng VX.out) uB ?_ (NB.info VX.out.nb) ?_); rfl; rfl; rfl; rfl)
        refine CB.out.mono ?_
        rintro e w8 ⟨v8, rfl, hf⟩
        obtain ⟨A8, c8, rfl, hsl⟩ := hf.sl
        have K8 := Lib.hid (VX.out.nb.bel.trans hf.2)
        have CM := Lib.hid (Kk.same A8 D raw.length c8 nd cd raw w8 hsl.ints (HR.out.ints.bel K8.out))
        clear hf hsl CB
        go_wp2_with fail
        refine CM.out.mono ?_
        rintro e w9 ⟨rfl, hk9⟩
        subst hk9
        go_wp2
        go_ret
        exact ⟨rfl, K8.out⟩
      · have hE1 : (e1 != 0) = true := by simpa using hE0
        obtain ⟨r1, r2⟩ := HNO.out hE0
        have CS := Lib.hid (sameBank X7 [.slice none 0 0, .int .u64 0, .int .u64 0, .int .u64 0, .int .u64 0] dz dp [] [0, 0, 0, 0] wc VX.out.bv (bv_zero _))
        rw [show decide (dz = [] ∧ dp = [0, 0, 0, 0]) = true by rw [r1, r2]; rfl] at CS
        clear r1 r2
        go_wp2_with ((with_reducible refine wpList_load_g ?_ 26 (.tmp 16) ?_ q_c 0 ?_ X7 _ (Var.rng VX.out) uB ?_ (NB.info VX.out.nb) ?_); rfl; rfl; rfl; rfl)
        refine CS.out.mono ?_
        rintro e w8 ⟨rfl, k8⟩
        have K8 := Lib.hid (VX.out.nb.bel.trans k8)
        go_wp2
        go_ret
        exact ⟨rfl, K8.out⟩
end Bk
end Go.Proofs.Ythdcgkikhindiaa
