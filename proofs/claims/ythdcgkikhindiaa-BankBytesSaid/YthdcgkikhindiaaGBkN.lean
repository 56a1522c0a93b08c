/-
  The law BankKeeps returns true. Conditions: what the slices hold is of its kinds.
-/
import Derived.Test.YthdcgkikhindiaaBI
import Derived.Test.YthdcgkikhindiaaGBkK
namespace Go.Proofs.Ythdcgkikhindiaa
open Go.RowKit Go.Shelf
set_option linter.unusedVariables false
namespace Bk
open Pm

theorem NB.then_ {w0 W V : World} {Y : List Value} {zs ps : List Int} (h : NB w0 W Y zs ps) (k : Kk.Bel W V) : NB w0 V Y zs ps := FB.same (h.1.then_ k) h.2.good
def Acts (w : World) (A : Option Addr) (n : Nat) : Prop := 0 < n → ∃ b o, A = some ⟨b, o, none⟩ ∧ b < w.heap.size ∧ ∀ i, i < n → ∃ a f t m, ActB a f t m ∧ w.rangeAt b (o + i * 4) [.int .i64 a, .int .i64 f, .int .i64 t, .int .u64 m]
theorem info_act : (Try.prog.info? 41).map (·.size) = some 4 := by kernel_rfl
/-- What a move that is done leaves. -/
theorem d_keeps {zs ps : List Int} {a f t m : Int} (hg : Good zs ps) (hc : chk zs ps = 0) (hn : Near a m) (h : dE zs ps a f t m = 0) :
    Good (dZ zs ps a f t m) (dP zs ps a f t m) ∧ chk (dZ zs ps a f t m) (dP zs ps a f t m) = 0 ∧ (dZ zs ps a f t m).sum + (dP zs ps a f t m).sum = zs.sum + ps.sum ∧ (dZ zs ps a f t m).length = zs.length ∧ ps.getD 2 0 ≤ (dP zs ps a f t m).getD 2 0 := by
  have key : ∀ {pf pt : Bool} {f t m least : Int}, 0 ≤ m → xE zs ps pf pt f t m least = 0 → Good (xZ zs ps pf pt f t m least) (xP zs ps pf pt f t m least) ∧ chk (xZ zs ps pf pt f t m least) (xP zs ps pf pt f t m least) = 0 ∧ (xZ zs ps pf pt f t m least).sum + (xP zs ps pf pt f t m least).sum = zs.sum + ps.sum ∧ (xZ zs ps pf pt f t m least).length = zs.length ∧ ps.getD 2 0 ≤ (xP zs ps pf pt f t m least).getD 2 0 := fun {pf pt f t m least} m0 hx => by
    obtain ⟨_, _, i, j, _, _, hm⟩ := moved hg m0 hx
    obtain ⟨c1, c2, c3⟩ := chk_ok hc
    refine ⟨hm.good, chk_of (by rw [hm.zl]; exact c1) (by rw [hm.zl]; exact c2) (by rw [hm.sum]; exact c3), hm.sum, hm.zl, ?_⟩
    have h2 := hm.at_ true 2
    have e1 : bal zs ps true 2 = ps.getD 2 0 := rfl
    have e2 : bal (xZ zs ps pf pt f t m least) (xP zs ps pf pt f t m least) true 2 = (xP zs ps pf pt f t m least).getD 2 0 := rfl
    have h3 : ((2 : Nat) : Int) = 2 := rfl
    rw [h3, e1, e2, if_neg hm.unburned] at h2
    rw [h2]
    split <;> omega
  obtain ⟨a0, a4, m0, m1⟩ := hn
  have ha : a = 0 ∨ a = 1 ∨ a = 2 ∨ a = 3 ∨ a = 4 := by omega
  rcases ha with rfl | rfl | rfl | rfl | rfl
  · exact key m0 h
  · exact key m0 h
  · exact key m0 h
  · exact key m0 h
  · exact key m0 h

set_option maxRecDepth 20000 in
set_option maxHeartbeats 16000000 in
theorem keeps (A : Option Addr) (n c : Nat) (zs0 : List Int) (B : Option Addr) (nb cb : Nat) (w : World) (hi : SU w A n c zs0) (hn : n ≤ 9223372036854775807) (hz : Words zs0) (hacts : Acts w B nb) :
    Calls Try.prog 6 #[.slice A n c, .slice B nb cb] w fun e w' => e = .returned (.bool true) ∧ Kk.Bel w w' := by
  have uB := Try.underlying26
  have uA := Try.underlying41
  have HI := Lib.hid hi
  have HZ0 := Lib.hid hz
  have HAC := Lib.hid hacts
  clear hi hz hacts
  go_enter Try.func6, Try.ntmps6
  go_wp2_with fail
  refine (known w).mono ?_
  rintro e w1 ⟨rfl, k1⟩
  have K1 := Lib.hid k1
  clear k1
  by_cases h40 : 40 < nb
  · have h40' : (40 : Int) < nb := by omega
    go_wp2
    go_ret
    exact ⟨rfl, K1.out⟩
  have h40' : ¬ (40 : Int) < nb := by omega
  go_wp2_with fail
  refine (some_ A n c zs0 w1 (HI.out.bel K1.out) hn HZ0.out).mono ?_
  rintro e w2 ⟨Y, zs, rfl, hnb, hck⟩
  have NN := Lib.hid (NB.after K1.out hnb)
  have K2 := Lib.hid (K1.out.trans hnb.bel)
  have HCK := Lib.hid hck
  have PT := Lib.hid (put_there w2 Y hnb.2.len)
  have PI := Lib.hid hnb.infoA
  have PO := Lib.hid hnb.one
  clear hnb hck
  go_upto_region 5 with ((with_reducible refine wpList_store_mid ?_ 26 (.tmp 6) (.tmp 20) ?_ (World.heap w2).size 0 Y.toArray ?_ ?_ PT.out PI.out PO.out ?_); rfl; rfl; rfl; rfl)
  have VB := Lib.hid (put_var NN.out (Kk.Bel.refl _))
  obtain ⟨b, hb⟩ : ∃ q, (World.heap w2).size = q := ⟨_, rfl⟩
  obtain ⟨w3, hw⟩ : ∃ v, (World.alloc w2 (.cells ZB 26)).setCells (World.heap w2).size 0 Y = v := ⟨_, rfl⟩
  rw [hw]
  rw [hw] at VB
  rw [hb] at VB ⊢
  clear hw hb PT PI PO NN K2
  obtain ⟨S, hS⟩ : ∃ S, zs.sum + List.sum [0, 0, 0, 0] = S := ⟨_, rfl⟩
  have CS := Lib.hid (supplyV Y zs [0, 0, 0, 0] w3 VB.out.bv)
  rw [HCK.out, okI_0, hS] at CS
  have HS := Lib.hid hS
  clear hS
  go_wp2_with ((with_reducible refine wpList_load_g ?_ 26 (.tmp 6) ?_ b 0 ?_ Y _ (Var.rng VB.out) uB ?_ (NB.info VB.out.nb) ?_); rfl; rfl; rfl; rfl)
  refine CS.out.mono ?_
  rintro e w4 ⟨rfl, k4⟩
  have VB := Lib.hid (VB.out.bel k4)
  clear k4 CS
  go_wp2_with fail
  go_loopw [9] (fun u wr => ∃ (i : Nat) (Y : List Value) (zs ps : List Int), u = .int .i64 i ∧ i ≤ nb ∧ Var w wr b Y zs ps ∧ chk zs ps = 0 ∧ zs.sum + ps.sum = S) (fun u _ => nb - (intOf u).toNat)
  case atStart => exact ⟨0, Y, zs, [0, 0, 0, 0], rfl, Nat.zero_le _, VB.out, HCK.out, HS.out⟩
  case round =>
    clear VB HCK HS
    obtain ⟨i, Y, zs, ps, rfl, hin, hvb, hck, hS⟩ := hrel
    have VB := Lib.hid hvb
    have HCK := Lib.hid hck
    have HS := Lib.hid hS
    clear hvb hck hS
    by_cases hlt : i < nb
    · have hlt2 : (i : Int) < nb := by omega
      have hrow : ∃ bb ob, B = some ⟨bb, ob, none⟩ ∧ ∃ a f t m, ActB a f t m ∧ wr.rangeAt bb (ob + i * 4) [.int .i64 a, .int .i64 f, .int .i64 t, .int .u64 m] := by
        obtain ⟨bb, ob, e, _, h⟩ := HAC.out (by omega)
        obtain ⟨a, f, t, m, h1, h2⟩ := h i hlt
        exact ⟨bb, ob, e, a, f, t, m, h1, rng_bel h2 VB.out.nb.bel⟩
      obtain ⟨bb, ob, rfl, a, f, t, m, hab, hra⟩ := hrow
      have HAB := Lib.hid hab
      have RA := Lib.hid hra
      have iA := Lib.hid (show (Try.prog.info? 41).map (·.size) = some ([.int .i64 a, .int .i64 f, .int .i64 t, .int .u64 m] : List Value).length from info_act)
      clear hab hra
      go_upto_region 11 with fail
      go_cut [10, 11] (fun s10 s11 wx => ∃ (g : Nat) (X : List Value) (E a1 f1 t1 m1 : Int), s10 = .pointer (some ⟨g, 0, none⟩) ∧ s11 = .int .i64 E ∧ Hid (dE zs ps a1 f1 t1 m1 = E ∧ Near a1 m1 ∧ Kk.Bel wr wx ∧ Var w wx g X (dZ zs ps a1 f1 t1 m1) (dP zs ps a1 f1 t1 m1)))
      case first =>
        refine wp_region_held_drew (S := fun V => Kk.Bel wr V) (by kernel_rfl) (Kk.Bel.refl _).drew (fun hS0 => ?_)
        obtain ⟨v0, hv0⟩ : ∃ v0, World.drew wr = v0 := ⟨_, rfl⟩
        rw [hv0] at hS0 ⊢
        clear hv0
        refine wpAnyH_take (i := 0) (oi := { dst := some 35, op := .load 26 (.tmp 6), type := 26, pos := "outright.go:95", after := #[], guard := none }) (v := .agg Y.toArray) rfl (by kernel_rfl) (by kernel_rfl) (by kernel_rfl) (fun _ _ _ h => h) (yieldsIf_load_mid (by rfl) _ _ rfl _ _ rfl _ _ (fun w h => rng_bel (Var.rng VB.out) h) uB rfl (NB.info VB.out.nb)) hS0 ?_
        try simp only [Act.put, List.setIfInBounds_toArray, List.set_cons_zero, List.set_cons_succ]
        refine wpAnyH_take (i := 1) (oi := { dst := some 36, op := .load 26 (.tmp 6), type := 26, pos := "outright.go:95", after := #[], guard := none }) (v := .agg Y.toArray) rfl (by kernel_rfl) (by kernel_rfl) (by kernel_rfl) (fun _ _ _ h => h) (yieldsIf_load_mid (by rfl) _ _ rfl _ _ rfl _ _ (fun w h => rng_bel (Var.rng VB.out) h) uB rfl (NB.info VB.out.nb)) hS0 ?_
        try simp only [Act.put, List.setIfInBounds_toArray, List.set_cons_zero, List.set_cons_succ]
        refine wpAnyH_take (i := 2) (oi := { dst := some 37, op := .move (.tmp 1), type := 27, pos := "outright.go:95", after := #[], guard := none }) (v := .slice (some ⟨bb, ob, none⟩) nb cb) rfl (by kernel_rfl) (by kernel_rfl) (by kernel_rfl) (fun _ _ _ h => h) (Or.inl ⟨by rfl, by intro w hSw; clear hSw; go_simp⟩) hS0 ?_
        try simp only [Act.put, List.setIfInBounds_toArray, List.set_cons_zero, List.set_cons_succ]
        refine wpAnyH_take (i := 3) (oi := { dst := some 38, op := .move (.tmp 9), type := 3, pos := "outright.go:95", after := #[], guard := none }) (v := .int .i64 i) rfl (by kernel_rfl) (by kernel_rfl) (by kernel_rfl) (fun _ _ _ h => h) (Or.inl ⟨by rfl, by intro w hSw; clear hSw; go_simp⟩) hS0 ?_
        try simp only [Act.put, List.setIfInBounds_toArray, List.set_cons_zero, List.set_cons_succ]
        refine wpAnyH_take (i := 4) (oi := { dst := some 39, op := .indexAddr 27 (.tmp 37) (.tmp 38), type := 0, pos := "outright.go:95", after := #[{ on := 2, ground := .data }, { on := 3, ground := .data }], guard := none }) (v := .pointer (some ⟨bb, ob + i * 4, none⟩)) rfl (by kernel_rfl) (by kernel_rfl) (by kernel_rfl) (fun _ _ _ h => h) (Or.inl ⟨by rfl, by intro w hSw; clear hSw; go_simp⟩) hS0 ?_
        try simp only [Act.put, List.setIfInBounds_toArray, List.set_cons_zero, List.set_cons_succ]
        refine wpAnyH_take (i := 5) (oi := { dst := some 40, op := .load 41 (.tmp 39), type := 41, pos := "outright.go:95", after := #[{ on := 4, ground := .data }], guard := none }) (v := actV a f t m) rfl (by kernel_rfl) (by kernel_rfl) (by kernel_rfl) (fun _ _ _ h => h) (yieldsIf_load_mid (by rfl) _ _ rfl _ _ rfl _ _ (fun w h => rng_bel RA.out h) uA rfl iA.out) hS0 ?_
        try simp only [Act.put, List.setIfInBounds_toArray, List.set_cons_zero, List.set_cons_succ]
        refine wpAnyH_ready (rs := [6, 11]) (by kernel_rfl) (by simp) ?_
        refine AllReadyH.cons (o := { dst := some 41, op := .call { callee := .value (.func 39), args := #[.tmp 36, .tmp 40], argTypes := #[26, 41] }, type := 41, pos := "outright.go:95", after := #[{ on := 1, ground := .data }, { on := 5, ground := .data }], guard := none }) rfl (fun K hK => ?_) (AllReadyH.cons (o := { dst := some 10, op := .alloc 26, type := 0, pos := "outright.go:95", after := #[], guard := none }) rfl (fun K hK => ?_) AllReadyH.nil)
        · skip
          go_simp
          refine (near a f t m Y zs ps v0 (VB.out.bv.bel hS0) HAB.out).mono ?_
          rintro e v1 ⟨a1, f1, t1, m1, rfl, hnear, k1⟩
          go_wp2_with fail
          have hS1 := hS0.trans k1
          refine hK.out _ _ hS1 (fun _ => ?_)
          clear hK K
          try simp only [Act.put, List.setIfInBounds_toArray, List.set_cons_zero, List.set_cons_succ]
          clear k1
          refine wpAnyH_ready (rs := [7, 11]) (by kernel_rfl) (by simp) ?_
          refine AllReadyH.cons (o := { dst := some 42, op := .call { callee := .value (.func 23), args := #[.tmp 35, .tmp 41], argTypes := #[26, 41] }, type := 31, pos := "outright.go:95", after := #[{ on := 0, ground := .data }, { on := 6, ground := .data }, { on := 6, ground := .chain }], guard := none }) rfl (fun K hK => ?_) (AllReadyH.cons (o := { dst := some 10, op := .alloc 26, type := 0, pos := "outright.go:95", after := #[], guard := none }) rfl (fun K hK => ?_) AllReadyH.nil)
          · skip
            go_simp
            refine (does a1 f1 t1 m1 Y zs ps v1 (VB.out.bv.bel hS1) hnear.2.2.1 hnear.2.2.2).mono ?_
            rintro e v2 ⟨X, rfl, hnb⟩
            obtain ⟨E, hE⟩ : ∃ E, dE zs ps a1 f1 t1 m1 = E := ⟨_, rfl⟩
            rw [hE]
            have HE := Lib.hid hE
            clear hE
            go_wp2_with fail
            have hS2 := hS1.trans hnb.bel
            have NX2 := NB.after (VB.out.nb.bel.trans hS1) hnb
            refine hK.out _ _ hS2 (fun _ => ?_)
            clear hK K
            try simp only [Act.put, List.setIfInBounds_toArray, List.set_cons_zero, List.set_cons_succ]
            clear hnb
            refine wpAnyH_take (i := 8) (oi := { dst := some 34, op := .move (.tmp 42), type := 31, pos := "outright.go:95", after := #[{ on := 7, ground := .data }], guard := none }) (v := .tuple #[.agg X.toArray, .int .i64 E]) rfl (by kernel_rfl) (by kernel_rfl) (by kernel_rfl) (fun _ _ _ h => h) (Or.inl ⟨by rfl, by intro w hSw; clear hSw; go_simp⟩) hS2 ?_
            try simp only [Act.put, List.setIfInBounds_toArray, List.set_cons_zero, List.set_cons_succ]
            refine wpAnyH_take (i := 9) (oi := { dst := some 43, op := .extract (.tmp 34) 0, type := 26, pos := "outright.go:95", after := #[{ on := 8, ground := .data }], guard := none }) (v := .agg X.toArray) rfl (by kernel_rfl) (by kernel_rfl) (by kernel_rfl) (fun _ _ _ h => h) (Or.inl ⟨by rfl, by intro w hSw; clear hSw; go_simp⟩) hS2 ?_
            try simp only [Act.put, List.setIfInBounds_toArray, List.set_cons_zero, List.set_cons_succ]
            refine wpAnyH_take (i := 10) (oi := { dst := some 44, op := .extract (.tmp 34) 1, type := 30, pos := "outright.go:95", after := #[{ on := 8, ground := .data }, { on := 12, ground := .gcOnly .lateStores }], guard := none }) (v := .int .i64 E) rfl (by kernel_rfl) (by kernel_rfl) (by kernel_rfl) (fun _ _ _ h => h) (Or.inl ⟨by rfl, by intro w hSw; clear hSw; go_simp⟩) hS2 ?_
            try simp only [Act.put, List.setIfInBounds_toArray, List.set_cons_zero, List.set_cons_succ]
            refine wpAnyH_ready (rs := [11]) (by kernel_rfl) (by simp) ?_
            refine AllReadyH.cons (o := { dst := some 10, op := .alloc 26, type := 0, pos := "outright.go:95", after := #[], guard := none }) rfl (fun K hK => ?_) AllReadyH.nil
            go_simp
            have hS3 := hS2.trans ((Kk.Bel.refl v2).alloc (.cells ZB 26))
            refine hK.out _ _ hS3 (fun _ => ?_)
            clear hK K
            try simp only [Act.put, List.setIfInBounds_toArray, List.set_cons_zero, List.set_cons_succ]
            have G3 : Kk.Blk (World.alloc v2 (.cells ZB 26)) (World.heap v2).size [.slice none 0 0, .int .u64 0, .int .u64 0, .int .u64 0, .int .u64 0].toArray 26 := Kk.Blk.new v2 _ _
            have hg0 := Below.size hS2
            have NX3 := NB.then_ NX2 ((Kk.Bel.refl v2).alloc (.cells ZB 26))
            obtain ⟨g, hg⟩ : ∃ g, (World.heap v2).size = g := ⟨_, rfl⟩
            obtain ⟨v3, hv⟩ : ∃ v, World.alloc v2 (.cells ZB 26) = v := ⟨_, rfl⟩
            have hv2 : World.alloc v2 (.cells #[.slice none 0 0, .int .u64 0, .int .u64 0, .int .u64 0, .int .u64 0] 26) = v3 := hv
            rw [hv] at hS3 G3 NX3
            rw [hv2]
            rw [hg] at G3 hg0 ⊢
            clear hg hv hv2
            refine wpAnyH_ready (rs := [12]) (by kernel_rfl) (by simp) ?_
            refine AllReadyH.cons (o := { dst := none, op := .store 26 (.tmp 10) (.tmp 43), type := 0, pos := "outright.go:95", after := #[{ on := 11, ground := .data }, { on := 9, ground := .data }, { on := 7, ground := .chain }, { on := 0, ground := .phase }, { on := 1, ground := .phase }, { on := 2, ground := .phase }, { on := 3, ground := .phase }, { on := 4, ground := .phase }, { on := 5, ground := .phase }, { on := 6, ground := .phase }, { on := 7, ground := .phase }, { on := 8, ground := .phase }, { on := 9, ground := .phase }, { on := 10, ground := .textOnly .lateStores }, { on := 11, ground := .phase }], guard := none }) rfl (fun K hK => ?_) AllReadyH.nil
            rw [if_pos (by rfl)]
            have hgS := Below.size hS3
            refine wp_store_mid 26 (.tmp 10) (.tmp 43) rfl g 0 X.toArray rfl rfl (blk_there G3 rfl NX3.2.len) (NB.infoA NX3) (NB.one NX3) ?_
            have hSE := bel_setCells hS3 hg0 0 X
            have VX := set_var (w0 := w) G3 rfl (Nat.le_trans (Below.size VB.out.nb.bel) hg0) NX3 (Kk.Bel.refl _)
            have HH := Lib.hid (And.intro hSE VX)
            clear VX
            refine hK.out _ _ hSE (fun _ => ?_)
            clear hK K
            try simp only [Act.put]
            refine wpAnyH_take (i := 13) (oi := { dst := some 11, op := .assign (.tmp 44), type := 30, pos := "outright.go:95", after := #[{ on := 10, ground := .data }, { on := 12, ground := .chain }, { on := 0, ground := .phase }, { on := 1, ground := .phase }, { on := 2, ground := .phase }, { on := 3, ground := .phase }, { on := 4, ground := .phase }, { on := 5, ground := .phase }, { on := 6, ground := .phase }, { on := 7, ground := .phase }, { on := 8, ground := .phase }, { on := 9, ground := .phase }, { on := 10, ground := .phase }, { on := 11, ground := .phase }, { on := 12, ground := .phase }], guard := none }) (v := .int .i64 E) rfl (by kernel_rfl) (by kernel_rfl) (by kernel_rfl) (fun _ _ _ h => h) (Or.inl ⟨by rfl, by intro w hSw; clear hSw; go_simp⟩) hSE ?_
            try simp only [Act.put, List.setIfInBounds_toArray, List.set_cons_zero, List.set_cons_succ]
            refine wpAnyH_done (by kernel_rfl) ?_ _
            go_wp2_with fail
            go_meet
            exact ⟨g, X, E, a1, f1, t1, m1, rfl, rfl, Lib.hid ⟨HE.out, hnear, HH.out.1, HH.out.2⟩⟩
          · skip
            go_simp
            have hS5 := hS1.trans ((Kk.Bel.refl v1).alloc (.cells ZB 26))
            refine hK.out _ _ hS5 (fun _ => ?_)
            clear hK K
            try simp only [Act.put, List.setIfInBounds_toArray, List.set_cons_zero, List.set_cons_succ]
            have G5 : Kk.Blk (World.alloc v1 (.cells ZB 26)) (World.heap v1).size [.slice none 0 0, .int .u64 0, .int .u64 0, .int .u64 0, .int .u64 0].toArray 26 := Kk.Blk.new v1 _ _
            have hg0 := Below.size hS1
            obtain ⟨g, hg⟩ : ∃ g, (World.heap v1).size = g := ⟨_, rfl⟩
            obtain ⟨v5, hv⟩ : ∃ v, World.alloc v1 (.cells ZB 26) = v := ⟨_, rfl⟩
            have hv2 : World.alloc v1 (.cells #[.slice none 0 0, .int .u64 0, .int .u64 0, .int .u64 0, .int .u64 0] 26) = v5 := hv
            rw [hv] at hS5 G5
            rw [hv2]
            rw [hg] at G5 hg0 ⊢
            clear hg hv hv2
            refine wpAnyH_ready (rs := [7]) (by kernel_rfl) (by simp) ?_
            refine AllReadyH.cons (o := { dst := some 42, op := .call { callee := .value (.func 23), args := #[.tmp 35, .tmp 41], argTypes := #[26, 41] }, type := 31, pos := "outright.go:95", after := #[{ on := 0, ground := .data }, { on := 6, ground := .data }, { on := 6, ground := .chain }], guard := none }) rfl (fun K hK => ?_) AllReadyH.nil
            go_simp
            refine (does a1 f1 t1 m1 Y zs ps v5 (VB.out.bv.bel hS5) hnear.2.2.1 hnear.2.2.2).mono ?_
            rintro e v6 ⟨X, rfl, hnb⟩
            obtain ⟨E, hE⟩ : ∃ E, dE zs ps a1 f1 t1 m1 = E := ⟨_, rfl⟩
            rw [hE]
            have HE := Lib.hid hE
            clear hE
            go_wp2_with fail
            have hS6 := hS5.trans hnb.bel
            have NX6 := NB.after (VB.out.nb.bel.trans hS5) hnb
            refine hK.out _ _ hS6 (fun _ => ?_)
            clear hK K
            try simp only [Act.put, List.setIfInBounds_toArray, List.set_cons_zero, List.set_cons_succ]
            have G6 := G5.bel hnb.bel
            clear hnb
            refine wpAnyH_take (i := 8) (oi := { dst := some 34, op := .move (.tmp 42), type := 31, pos := "outright.go:95", after := #[{ on := 7, ground := .data }], guard := none }) (v := .tuple #[.agg X.toArray, .int .i64 E]) rfl (by kernel_rfl) (by kernel_rfl) (by kernel_rfl) (fun _ _ _ h => h) (Or.inl ⟨by rfl, by intro w hSw; clear hSw; go_simp⟩) hS6 ?_
            try simp only [Act.put, List.setIfInBounds_toArray, List.set_cons_zero, List.set_cons_succ]
            refine wpAnyH_take (i := 9) (oi := { dst := some 43, op := .extract (.tmp 34) 0, type := 26, pos := "outright.go:95", after := #[{ on := 8, ground := .data }], guard := none }) (v := .agg X.toArray) rfl (by kernel_rfl) (by kernel_rfl) (by kernel_rfl) (fun _ _ _ h => h) (Or.inl ⟨by rfl, by intro w hSw; clear hSw; go_simp⟩) hS6 ?_
            try simp only [Act.put, List.setIfInBounds_toArray, List.set_cons_zero, List.set_cons_succ]
            refine wpAnyH_take (i := 10) (oi := { dst := some 44, op := .extract (.tmp 34) 1, type := 30, pos := "outright.go:95", after := #[{ on := 8, ground := .data }, { on := 12, ground := .gcOnly .lateStores }], guard := none }) (v := .int .i64 E) rfl (by kernel_rfl) (by kernel_rfl) (by kernel_rfl) (fun _ _ _ h => h) (Or.inl ⟨by rfl, by intro w hSw; clear hSw; go_simp⟩) hS6 ?_
            try simp only [Act.put, List.setIfInBounds_toArray, List.set_cons_zero, List.set_cons_succ]
            refine wpAnyH_ready (rs := [12]) (by kernel_rfl) (by simp) ?_
            refine AllReadyH.cons (o := { dst := none, op := .store 26 (.tmp 10) (.tmp 43), type := 0, pos := "outright.go:95", after := #[{ on := 11, ground := .data }, { on := 9, ground := .data }, { on := 7, ground := .chain }, { on := 0, ground := .phase }, { on := 1, ground := .phase }, { on := 2, ground := .phase }, { on := 3, ground := .phase }, { on := 4, ground := .phase }, { on := 5, ground := .phase }, { on := 6, ground := .phase }, { on := 7, ground := .phase }, { on := 8, ground := .phase }, { on := 9, ground := .phase }, { on := 10, ground := .textOnly .lateStores }, { on := 11, ground := .phase }], guard := none }) rfl (fun K hK => ?_) AllReadyH.nil
            rw [if_pos (by rfl)]
            have hgS := Below.size hS6
            refine wp_store_mid 26 (.tmp 10) (.tmp 43) rfl g 0 X.toArray rfl rfl (blk_there G6 rfl NX6.2.len) (NB.infoA NX6) (NB.one NX6) ?_
            have hSE := bel_setCells hS6 hg0 0 X
            have VX := set_var (w0 := w) G6 rfl (Nat.le_trans (Below.size VB.out.nb.bel) hg0) NX6 (Kk.Bel.refl _)
            have HH := Lib.hid (And.intro hSE VX)
            clear VX
            refine hK.out _ _ hSE (fun _ => ?_)
            clear hK K
            try simp only [Act.put]
            refine wpAnyH_take (i := 13) (oi := { dst := some 11, op := .assign (.tmp 44), type := 30, pos := "outright.go:95", after := #[{ on := 10, ground := .data }, { on := 12, ground := .chain }, { on := 0, ground := .phase }, { on := 1, ground := .phase }, { on := 2, ground := .phase }, { on := 3, ground := .phase }, { on := 4, ground := .phase }, { on := 5, ground := .phase }, { on := 6, ground := .phase }, { on := 7, ground := .phase }, { on := 8, ground := .phase }, { on := 9, ground := .phase }, { on := 10, ground := .phase }, { on := 11, ground := .phase }, { on := 12, ground := .phase }], guard := none }) (v := .int .i64 E) rfl (by kernel_rfl) (by kernel_rfl) (by kernel_rfl) (fun _ _ _ h => h) (Or.inl ⟨by rfl, by intro w hSw; clear hSw; go_simp⟩) hSE ?_
            try simp only [Act.put, List.setIfInBounds_toArray, List.set_cons_zero, List.set_cons_succ]
            refine wpAnyH_done (by kernel_rfl) ?_ _
            go_wp2_with fail
            go_meet
            exact ⟨g, X, E, a1, f1, t1, m1, rfl, rfl, Lib.hid ⟨HE.out, hnear, HH.out.1, HH.out.2⟩⟩
        · skip
          go_simp
          have hS8 := hS0.trans ((Kk.Bel.refl v0).alloc (.cells ZB 26))
          refine hK.out _ _ hS8 (fun _ => ?_)
          clear hK K
          try simp only [Act.put, List.setIfInBounds_toArray, List.set_cons_zero, List.set_cons_succ]
          have G8 : Kk.Blk (World.alloc v0 (.cells ZB 26)) (World.heap v0).size [.slice none 0 0, .int .u64 0, .int .u64 0, .int .u64 0, .int .u64 0].toArray 26 := Kk.Blk.new v0 _ _
          have hg0 := Below.size hS0
          obtain ⟨g, hg⟩ : ∃ g, (World.heap v0).size = g := ⟨_, rfl⟩
          obtain ⟨v8, hv⟩ : ∃ v, World.alloc v0 (.cells ZB 26) = v := ⟨_, rfl⟩
          have hv2 : World.alloc v0 (.cells #[.slice none 0 0, .int .u64 0, .int .u64 0, .int .u64 0, .int .u64 0] 26) = v8 := hv
          rw [hv] at hS8 G8
          rw [hv2]
          rw [hg] at G8 hg0 ⊢
          clear hg hv hv2
          refine wpAnyH_ready (rs := [6]) (by kernel_rfl) (by simp) ?_
          refine AllReadyH.cons (o := { dst := some 41, op := .call { callee := .value (.func 39), args := #[.tmp 36, .tmp 40], argTypes := #[26, 41] }, type := 41, pos := "outright.go:95", after := #[{ on := 1, ground := .data }, { on := 5, ground := .data }], guard := none }) rfl (fun K hK => ?_) AllReadyH.nil
          go_simp
          refine (near a f t m Y zs ps v8 (VB.out.bv.bel hS8) HAB.out).mono ?_
          rintro e v9 ⟨a1, f1, t1, m1, rfl, hnear, k9⟩
          go_wp2_with fail
          have hS9 := hS8.trans k9
          refine hK.out _ _ hS9 (fun _ => ?_)
          clear hK K
          try simp only [Act.put, List.setIfInBounds_toArray, List.set_cons_zero, List.set_cons_succ]
          have G9 := G8.bel k9
          clear k9
          refine wpAnyH_ready (rs := [7]) (by kernel_rfl) (by simp) ?_
          refine AllReadyH.cons (o := { dst := some 42, op := .call { callee := .value (.func 23), args := #[.tmp 35, .tmp 41], argTypes := #[26, 41] }, type := 31, pos := "outright.go:95", after := #[{ on := 0, ground := .data }, { on := 6, ground := .data }, { on := 6, ground := .chain }], guard := none }) rfl (fun K hK => ?_) AllReadyH.nil
          go_simp
          refine (does a1 f1 t1 m1 Y zs ps v9 (VB.out.bv.bel hS9) hnear.2.2.1 hnear.2.2.2).mono ?_
          rintro e v10 ⟨X, rfl, hnb⟩
          obtain ⟨E, hE⟩ : ∃ E, dE zs ps a1 f1 t1 m1 = E := ⟨_, rfl⟩
          rw [hE]
          have HE := Lib.hid hE
          clear hE
          go_wp2_with fail
          have hS10 := hS9.trans hnb.bel
          have NX10 := NB.after (VB.out.nb.bel.trans hS9) hnb
          refine hK.out _ _ hS10 (fun _ => ?_)
          clear hK K
          try simp only [Act.put, List.setIfInBounds_toArray, List.set_cons_zero, List.set_cons_succ]
          have G10 := G9.bel hnb.bel
          clear hnb
          refine wpAnyH_take (i := 8) (oi := { dst := some 34, op := .move (.tmp 42), type := 31, pos := "outright.go:95", after := #[{ on := 7, ground := .data }], guard := none }) (v := .tuple #[.agg X.toArray, .int .i64 E]) rfl (by kernel_rfl) (by kernel_rfl) (by kernel_rfl) (fun _ _ _ h => h) (Or.inl ⟨by rfl, by intro w hSw; clear hSw; go_simp⟩) hS10 ?_
          try simp only [Act.put, List.setIfInBounds_toArray, List.set_cons_zero, List.set_cons_succ]
          refine wpAnyH_take (i := 9) (oi := { dst := some 43, op := .extract (.tmp 34) 0, type := 26, pos := "outright.go:95", after := #[{ on := 8, ground := .data }], guard := none }) (v := .agg X.toArray) rfl (by kernel_rfl) (by kernel_rfl) (by kernel_rfl) (fun _ _ _ h => h) (Or.inl ⟨by rfl, by intro w hSw; clear hSw; go_simp⟩) hS10 ?_
          try simp only [Act.put, List.setIfInBounds_toArray, List.set_cons_zero, List.set_cons_succ]
          refine wpAnyH_take (i := 10) (oi := { dst := some 44, op := .extract (.tmp 34) 1, type := 30, pos := "outright.go:95", after := #[{ on := 8, ground := .data }, { on := 12, ground := .gcOnly .lateStores }], guard := none }) (v := .int .i64 E) rfl (by kernel_rfl) (by kernel_rfl) (by kernel_rfl) (fun _ _ _ h => h) (Or.inl ⟨by rfl, by intro w hSw; clear hSw; go_simp⟩) hS10 ?_
          try simp only [Act.put, List.setIfInBounds_toArray, List.set_cons_zero, List.set_cons_succ]
          refine wpAnyH_ready (rs := [12]) (by kernel_rfl) (by simp) ?_
          refine AllReadyH.cons (o := { dst := none, op := .store 26 (.tmp 10) (.tmp 43), type := 0, pos := "outright.go:95", after := #[{ on := 11, ground := .data }, { on := 9, ground := .data }, { on := 7, ground := .chain }, { on := 0, ground := .phase }, { on := 1, ground := .phase }, { on := 2, ground := .phase }, { on := 3, ground := .phase }, { on := 4, ground := .phase }, { on := 5, ground := .phase }, { on := 6, ground := .phase }, { on := 7, ground := .phase }, { on := 8, ground := .phase }, { on := 9, ground := .phase }, { on := 10, ground := .textOnly .lateStores }, { on := 11, ground := .phase }], guard := none }) rfl (fun K hK => ?_) AllReadyH.nil
          rw [if_pos (by rfl)]
          have hgS := Below.size hS10
          refine wp_store_mid 26 (.tmp 10) (.tmp 43) rfl g 0 X.toArray rfl rfl (blk_there G10 rfl NX10.2.len) (NB.infoA NX10) (NB.one NX10) ?_
          have hSE := bel_setCells hS10 hg0 0 X
          have VX := set_var (w0 := w) G10 rfl (Nat.le_trans (Below.size VB.out.nb.bel) hg0) NX10 (Kk.Bel.refl _)
          have HH := Lib.hid (And.intro hSE VX)
          clear VX
          refine hK.out _ _ hSE (fun _ => ?_)
          clear hK K
          try simp only [Act.put]
          refine wpAnyH_take (i := 13) (oi := { dst := some 11, op := .assign (.tmp 44), type := 30, pos := "outright.go:95", after := #[{ on := 10, ground := .data }, { on := 12, ground := .chain }, { on := 0, ground := .phase }, { on := 1, ground := .phase }, { on := 2, ground := .phase }, { on := 3, ground := .phase }, { on := 4, ground := .phase }, { on := 5, ground := .phase }, { on := 6, ground := .phase }, { on := 7, ground := .phase }, { on := 8, ground := .phase }, { on := 9, ground := .phase }, { on := 10, ground := .phase }, { on := 11, ground := .phase }, { on := 12, ground := .phase }], guard := none }) (v := .int .i64 E) rfl (by kernel_rfl) (by kernel_rfl) (by kernel_rfl) (fun _ _ _ h => h) (Or.inl ⟨by rfl, by intro w hSw; clear hSw; go_simp⟩) hSE ?_
          try simp only [Act.put, List.setIfInBounds_toArray, List.set_cons_zero, List.set_cons_succ]
          refine wpAnyH_done (by kernel_rfl) ?_ _
          go_wp2_with fail
          go_meet
          exact ⟨g, X, E, a1, f1, t1, m1, rfl, rfl, Lib.hid ⟨HE.out, hnear, HH.out.1, HH.out.2⟩⟩
      case rest =>
        obtain ⟨g, X, E, a1, f1, t1, m1, rfl, rfl, hh⟩ := hcut
        have VX := Lib.hid hh.out.2.2.2
        have VB := Lib.hid (VB.out.bel hh.out.2.2.1)
        have HE := Lib.hid hh.out.1
        have HN := Lib.hid hh.out.2.1
        clear hh RA HAB iA
        by_cases hE0 : E = 0
        · subst hE0
          obtain ⟨g1, g2, g3, g4, g5⟩ := d_keeps VB.out.good HCK.out HN.out HE.out
          obtain ⟨Z, hZ⟩ : ∃ Z, dZ zs ps a1 f1 t1 m1 = Z := ⟨_, rfl⟩
          obtain ⟨P, hP⟩ : ∃ P, dP zs ps a1 f1 t1 m1 = P := ⟨_, rfl⟩
          rw [hZ, hP] at VX g2 g3
          rw [hZ] at g4
          rw [hP] at g5
          clear hZ hP g1
          have CS := Lib.hid (supplyV X Z P _ VX.out.bv)
          rw [g2, okI_0, g3, HS.out] at CS
          have G2 := Lib.hid g2
          have G3 := Lib.hid g3
          have G4 := Lib.hid g4
          have G5 := Lib.hid g5
          clear g2 g3 g4 g5
          go_wp2_with ((with_reducible refine wpList_load_g ?_ 26 (.tmp 10) ?_ g 0 ?_ X _ (Var.rng VX.out) uB ?_ (NB.info VX.out.nb) ?_); rfl; rfl; rfl; rfl)
          refine CS.out.mono ?_
          rintro e w6 ⟨rfl, k6⟩
          have VX := Lib.hid (VX.out.bel k6)
          have VB := Lib.hid (VB.out.bel k6)
          clear k6 CS
          obtain ⟨A1, c1, hc1, _⟩ := VX.out.cell
          obtain ⟨A2, c2, hc2, _⟩ := VB.out.cell
          rw [G4.out] at hc1
          have hp1 : w6.cell? ⟨g, 1 + 2, none⟩ = some (.int .u64 (P.getD 2 0)) := VX.out.pools 2 _ (by rw [List.getElem?_map, List.getElem?_eq_getElem (by rw [VX.out.good.2.2.1]; omega), Kk.getD_eq _ _ (by rw [VX.out.good.2.2.1]; omega)]; rfl)
          have hp2 : w6.cell? ⟨b, 1 + 2, none⟩ = some (.int .u64 (ps.getD 2 0)) := VB.out.pools 2 _ (by rw [List.getElem?_map, List.getElem?_eq_getElem (by rw [VB.out.good.2.2.1]; omega), Kk.getD_eq _ _ (by rw [VB.out.good.2.2.1]; omega)]; rfl)
          have hp1 : w6.cell? ⟨g, 3, none⟩ = some (.int .u64 (P.getD 2 0)) := hp1
          have hp2 : w6.cell? ⟨b, 3, none⟩ = some (.int .u64 (ps.getD 2 0)) := hp2
          have h5 : ¬ P.getD 2 0 < ps.getD 2 0 := by have := G5.out; omega
          have TB := Lib.hid (VB.out.there VX.out.bv.len)
          have VE := Lib.hid (VB.out.set VX.out.nb (Kk.Bel.refl _))
          generalize P.getD 2 0 = pp at *
          generalize ps.getD 2 0 = pq at *
          go_wp2_with (first | ((with_reducible refine wpList_load_g ?_ 26 (.tmp 10) ?_ g 0 ?_ X _ (Var.rng VX.out) uB ?_ (NB.info VX.out.nb) ?_); rfl; rfl; rfl; rfl) | ((with_reducible refine wpList_store_mid ?_ 26 (.tmp 6) (.tmp 81) ?_ b 0 X.toArray ?_ ?_ TB.out (NB.infoA VX.out.nb) (NB.one VX.out.nb) ?_); rfl; rfl; rfl; rfl))
          exact ⟨⟨i + 1, X, Z, P, by go_num, by omega, VE.out, G2.out, by rw [G3.out]; exact HS.out⟩, by simp [intOf]; omega⟩
        · have hE1 : (E != 0) = true := by simpa using hE0
          have hno := d_no (zs := zs) (ps := ps) (a := a1) (f := f1) (t := t1) (m := m1) (by rw [HE.out]; exact hE0)
          rw [hno.1, hno.2] at VX
          have CB := Lib.hid (sameBank X [.slice none 0 0, .int .u64 0, .int .u64 0, .int .u64 0, .int .u64 0] [] [0, 0, 0, 0] [] [0, 0, 0, 0] _ VX.out.bv (bv_zero _))
          rw [show decide (([] : List Int) = [] ∧ ([0, 0, 0, 0] : List Int) = [0, 0, 0, 0]) = true from rfl] at CB
          go_wp2_with ((with_reducible refine wpList_load_g ?_ 26 (.tmp 10) ?_ g 0 ?_ X _ (Var.rng VX.out) uB ?_ (NB.info VX.out.nb) ?_); rfl; rfl; rfl; rfl)
          refine CB.out.mono ?_
          rintro e w6 ⟨rfl, k6⟩
          have VB := Lib.hid (VB.out.bel k6)
          clear k6 CB hno
          go_wp2_with fail
          exact ⟨⟨i + 1, Y, zs, ps, by go_num, by omega, VB.out, HCK.out, HS.out⟩, by simp [intOf]; omega⟩
    · obtain rfl : i = nb := by omega
      have hlt2 : ¬ (i : Int) < i := by omega
      go_wp2
      go_ret
      exact ⟨rfl, VB.out.nb.bel⟩
end Bk
end Go.Proofs.Ythdcgkikhindiaa
