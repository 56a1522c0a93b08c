/-
  What the law QueueTakes answers: true. Conditions: Balances and parts are words.
-/
import Derived.Test.YtdpompponngmdaaGQu30
import Derived.Test.YtdpompponngmdaaQE
import Derived.Test.YtdpompponngmdaaQD
namespace Go.Proofs.Ytdpompponngmdaa
open Go.RowKit Go.Shelf
set_option linter.unusedVariables false
set_option linter.unusedSimpArgs false
set_option Elab.async false
namespace Qu
open Kk Pm

theorem cut_d (A : Option Addr) (n c : Nat) (l : List E8) (v h p : Int) (w : World) (hi : Rw.RS eR w A n c l) (hw : Wd l) (hp : 0 ≤ p ∧ p ≤ 18446744073709551615) (E : Int) (L : List E8) (S : List S2) (N : Int) (hE : ctE l v h p = E) (hL : ctL l v h p = L) (hS : ctS l v h p = S) (hN : ctN l v h p = N) (hn : n ≤ 1000000) :
    Calls Try.prog 20 #[.slice A n c, .int .i64 v, .int .i64 h, .int .u64 p] w fun e w' => ∃ y1 y2, e = .returned (.tuple #[y1, y2, .int .u64 N, .int .i64 E]) ∧ OwnE w' w.heap.size y1 L ∧ OwnS w' w.heap.size y2 S ∧ Bel w w' := by
  subst hE hL hS hN
  exact cut A n c l v h p w hi hn hw hp
theorem checkL (A : Option Addr) (n c : Nat) (w : World) (hlong : 32768 < n) :
    Calls Try.prog 14 #[.slice A n c] w fun e w' => e = .returned (.tuple #[.int .i64 4, .int .i64 32768]) ∧ Bel w w' := by
  have hlong3 : (32768 : Int) < n := by omega
  go_enter Try.func14, Try.ntmps14
  go_wp2_with fail
  (try rw [Exit.noGoto_ret])
  go_ret2
  exact ⟨rfl, Bel.refl _⟩
set_option maxRecDepth 100000 in
set_option maxHeartbeats 16000000 in
theorem takesLaw (A : Option Addr) (n c : Nat) (l : List E8) (v h p m : Int) (w : World) (hi : Rw.RS eR w A n c l) (hw : Wd l) (p0 : 0 ≤ p) (p1 : p ≤ 18446744073709551615) (m0 : 0 ≤ m) (m1 : m ≤ 18446744073709551615) :
    Calls Try.prog 8 #[.slice A n c, .int .i64 v, .int .i64 h, .int .u64 p, .int .u64 m] w fun e w' => e = .returned (.bool true) ∧ Bel w w' := by
  have HI := Lib.hid hi
  have HWW := Lib.hid hw
  have HLN := Lib.hid hi.len
  have KN := Lib.hid (Qu.known w)
  have HPM := Lib.hid (show (0 ≤ p ∧ p ≤ 18446744073709551615) ∧ (0 ≤ m ∧ m ≤ 18446744073709551615) from ⟨⟨p0, p1⟩, m0, m1⟩)
  clear hi hw p0 p1 m0 m1
  go_enter Try.func8, Try.ntmps8
  go_wp2_with fail
  refine KN.out.mono ?_
  rintro e w1 ⟨rfl, kb⟩
  have K1 := Lib.hid (show Bel w w1 from kb)
  clear kb KN
  by_cases hbig : 32768 < n
  · have CK := Lib.hid (checkL A n c w1 hbig)
    go_wp2_with fail
    refine CK.out.mono ?_
    rintro e w2 ⟨rfl, kb⟩
    have K2 := Lib.hid (K1.out.trans kb)
    clear kb CK
    go_wp2_with fail
    go_ret
    exact ⟨rfl, K2.out⟩
  have CK := Lib.hid (check A n c l w1 (HI.out.bel K1.out) (by omega) HWW.out)
  obtain ⟨e0, he0⟩ : ∃ e, (chk l).1 = e := ⟨_, rfl⟩
  obtain ⟨i0, hi0⟩ : ∃ e, (chk l).2 = e := ⟨_, rfl⟩
  have HE0 := Lib.hid he0
  rw [he0, hi0] at CK
  clear he0 hi0
  go_wp2_with fail
  refine CK.out.mono ?_
  rintro e w2 ⟨rfl, kb⟩
  have K2 := Lib.hid (K1.out.trans kb)
  clear kb CK K1
  by_cases h0 : e0 = 0
  case neg =>
    have hne : (e0 != 0) = true := by rw [bne_iff_ne]; exact h0
    go_wp2_with fail
    go_ret
    exact ⟨rfl, K2.out⟩
  subst h0
  by_cases hlong : 40 < n
  · have hlong3 : (40 : Int) < n := by omega
    go_wp2_with fail
    go_ret
    exact ⟨rfl, K2.out⟩
  have hlong3 : ¬ (40 : Int) < n := by omega
  have HN := Lib.hid (show n ≤ 40 by omega)
  have HOK := Lib.hid (chk_ok.1 HE0.out)
  clear hlong hbig HE0
  have hP : p.tmod 1000000001 = p % 1000000001 := Int.tmod_eq_emod_of_nonneg HPM.out.1.1
  obtain ⟨P, hP2⟩ : ∃ P, p % 1000000001 = P := ⟨_, rfl⟩
  rw [hP2] at hP
  have HP := Lib.hid (show 0 ≤ P ∧ P ≤ 1000000000 by rw [← hP2]; omega)
  have wP : IntKind.u64.wrap P = P := IntWalk.u64_in _ (by have := HP.out; omega)
  have wP2 : IntKind.u64.wrap (1000000000 - P) = 1000000000 - P := IntWalk.u64_in _ (by have := HP.out; omega)
  obtain ⟨D, hD⟩ : ∃ D, 1000000000 - P + 1 = D := ⟨_, rfl⟩
  have wD : IntKind.u64.wrap (1000000000 - P + 1) = D := by rw [← hD]; exact IntWalk.u64_in _ (by have := HP.out; omega)
  have HD := Lib.hid (show 0 < D by rw [← hD]; have := HP.out; omega)
  have hD0 : ¬ D = 0 := by have := HD.out; omega
  have hM : m.tmod D = m.emod D := Int.tmod_eq_emod_of_nonneg HPM.out.2.1
  have hm2 := Int.emod_nonneg m (b := D) (by have := HD.out; omega)
  have hm3 := Int.emod_lt_of_pos m HD.out
  obtain ⟨M, hM2⟩ : ∃ M, m.emod D = M := ⟨_, rfl⟩
  rw [hM2] at hM
  have HM := Lib.hid (show 0 ≤ M ∧ P + M ≤ 1000000000 by
    have h1 : 0 ≤ M := by rw [← hM2]; exact hm2
    have h2 : M < D := by rw [← hM2]; exact hm3
    omega)
  have wM : IntKind.u64.wrap M = M := IntWalk.u64_in _ (by have := HM.out; have := HP.out; omega)
  clear hP2 hD hm2 hm3 hM2
  by_cases hb : 0 ≤ v ∧ v < 32 ∧ 1 ≤ h ∧ h ≤ 4294967296
  case neg =>
    have C1 := Lib.hid (cut_d A n c l v h P w2 (HI.out.bel K2.out) HWW.out ⟨HP.out.1, by have := HP.out; omega⟩ 3 _ _ _ (ct_no HOK.out hb) rfl rfl rfl (by have := HN.out; omega))
    go_wp2_with fail
    refine C1.out.mono ?_
    rintro e w3 ⟨y1, y2, rfl, _, _, kb⟩
    have K3 := Lib.hid (K2.out.trans kb)
    clear kb C1
    by_cases a1 : v < 0
    · clear hb
      go_wp2_with fail
      go_ret
      exact ⟨rfl, K3.out⟩
    by_cases a2 : 32 ≤ v
    · clear hb
      go_wp2_with fail
      go_ret
      exact ⟨rfl, K3.out⟩
    by_cases a3 : h < 1
    · clear hb
      go_wp2_with fail
      go_ret
      exact ⟨rfl, K3.out⟩
    by_cases a4 : 4294967296 < h
    · clear hb
      go_wp2_with fail
      go_ret
      exact ⟨rfl, K3.out⟩
    exact absurd ⟨by omega, by omega, by omega, by omega⟩ hb
  have HB := Lib.hid hb
  clear hb
  obtain ⟨f1, f2, f3, f4⟩ := ct_ok (l := l) (v := v) (h := h) (p := P) HOK.out HB.out HP.out.2
  have C1 := Lib.hid (cut_d A n c l v h P w2 (HI.out.bel K2.out) HWW.out ⟨HP.out.1, by have := HP.out; omega⟩ 0 _ _ _ f1 f2 f3 f4 (by have := HN.out; omega))
  clear f1 f2 f3 f4
  obtain ⟨LS, hLS⟩ : ∃ x, lost v h P l = x := ⟨_, rfl⟩
  have HLS := Lib.hid hLS
  rw [hLS] at C1
  clear hLS
  go_wp2_with fail
  refine C1.out.mono ?_
  rintro e w3 ⟨y1, y2, rfl, ho1, ho2, kb⟩
  obtain ⟨Aq, cq, rfl, hq⟩ := ho1.slice
  obtain ⟨As, cs, rfl, hs⟩ := ho2.slice
  rw [List.length_map, HLN.out] at hq ⊢
  obtain ⟨ns, hns⟩ : ∃ x, (shv v h P 0 l).length = x := ⟨_, rfl⟩
  rw [hns] at hs ⊢
  have HNS := Lib.hid hns
  have HNSL := Lib.hid (show ns ≤ 40 by rw [← hns]; have := shv_len v h P l 0; have := HLN.out; have := HN.out; omega)
  have HQ := Lib.hid hq
  have HS := Lib.hid hs
  have K3 := Lib.hid (K2.out.trans kb)
  clear hq hs ho1 ho2 kb hns C1 K2
  go_wp2_with fail
  go_loopw [10, 18, 19, 20] (fun s10 s18 s19 s20 wr => ∃ (k t : Nat) (Z : Int), s10 = .bool false ∧ s20 = .int .i64 k ∧ k ≤ n ∧ s18 = .int .i64 t ∧ s19 = .int .u64 Z ∧ Hid ((shv v h P 0 (l.take k)).length = t) ∧ Hid (lost v h P (l.take k) = Z) ∧ Hid (Bel w3 wr)) (fun _ _ _ s20 _ => n - (intOf s20).toNat)
  case atStart => exact ⟨0, 0, 0, rfl, rfl, Nat.zero_le _, rfl, rfl, Lib.hid rfl, Lib.hid rfl, Lib.hid (Bel.refl _)⟩
  case round =>
    obtain ⟨k, t, Z, rfl, rfl, hkn, rfl, rfl, ht, hz, hh⟩ := hrel
    by_cases hlt : k < n
    · have hlt3 : (k : Int) < n := by omega
      have hlt0 : (0 : Int) ≤ k := by omega
      have hir := HI.out.bel (K3.out.trans hh.out)
      obtain ⟨⟨r1, r2, r3, r4, r5, r6, r7, r8⟩, hr⟩ := hir.get hlt
      obtain ⟨b, o, rfl, _, hrow⟩ := hir.at hlt hr
      have HROW := Lib.hid (show wr.rangeAt b (o + k * 8) [.int .i64 r1, .int .i64 r2, .int .i64 r3, .int .i64 r4, .int .i64 r5, .int .i64 r6, .int .u64 r7, .int .u64 r8] from hrow)
      have HR8 := Lib.hid (show 0 ≤ r8 ∧ r8 ≤ 18446744073709551615 from HWW.out.at hr)
      have HCG := Lib.hid (cut_get v h P hr)
      obtain ⟨bq, oq, rfl, _, hrowq⟩ := (HQ.out.bel hh.out).at hlt HCG.out
      have HROWQ := Lib.hid (show wr.rangeAt bq (oq + k * 8) (eC (cutX v h P (r1, r2, r3, r4, r5, r6, r7, r8))) from hrowq)
      have HSN := Lib.hid (shv_next v h P hr)
      have HLX := Lib.hid (lost_next v h P hr)
      have HSG := Lib.hid (fun hb => shv_get v h P hr hb)
      have HLT := Lib.hid (lost_take (v := v) (h := h) HP.out.1 HP.out.2 HWW.out (k + 1))
      have HLT0 := Lib.hid (lost_take (v := v) (h := h) HP.out.1 HP.out.2 HWW.out k)
      have BK := Lib.hid (fun V => Sm.backed r2 r3 r4 r5 v h r6 V)
      obtain ⟨bb, hbb⟩ : ∃ bb, Sm.bkB r2 r3 r4 r5 v h r6 = bb := ⟨_, rfl⟩
      have HBB := Lib.hid (show bkE v h (r1, r2, r3, r4, r5, r6, r7, r8) = bb from hbb)
      rw [hbb] at BK
      clear hir hr hrow hrowq hbb
      cases bb with
      | false =>
        have HT1 := Lib.hid (show (shv v h P 0 (l.take (k + 1))).length = t by rw [HSN.out, HBB.out, if_neg (by decide), List.append_nil]; exact ht.out)
        have HZ1 := Lib.hid (show lost v h P (l.take (k + 1)) = Z by rw [HLX.out, HBB.out, if_neg (by decide), hz.out]; omega)
        have HCX := Lib.hid (cutX_no (p := P) HBB.out)
        have w8a : IntKind.u64.wrap r8 = r8 := IntWalk.u64_in _ HR8.out
        have wZ : IntKind.u64.wrap Z = Z := IntWalk.u64_in _ (by have := HLT0.out; rw [hz.out] at this; have := HOK.out.2.2; omega)
        clear HSN HLX HSG HLT HLT0
        go_upto_region 15 with fail
        refine wp_region_held_drew (S := fun Vx => Bel wr Vx) (by kernel_rfl) (Bel.refl _).drew (fun hS0 => ?_)
        obtain ⟨w6, hw6⟩ : ∃ w6, World.drew wr = w6 := ⟨_, rfl⟩
        rw [hw6] at hS0 ⊢
        clear hw6
        refine wpAnyH_take (i := 0) (oi := { dst := some 88, op := .move (.tmp 0), type := 22, pos := "outright.go:147", after := #[], guard := none }) (v := .slice (some ⟨b, o, none⟩) n c) rfl (by kernel_rfl) (by kernel_rfl) (by kernel_rfl) (fun _ _ _ h => h) (Or.inl ⟨by rfl, by intro w hSw; clear hSw; go_simp⟩) hS0 ?_
        try simp only [Act.put, List.setIfInBounds_toArray, List.set_cons_zero, List.set_cons_succ]
        refine wpAnyH_take (i := 1) (oi := { dst := some 89, op := .move (.tmp 20), type := 3, pos := "outright.go:147", after := #[], guard := none }) (v := .int .i64 k) rfl (by kernel_rfl) (by kernel_rfl) (by kernel_rfl) (fun _ _ _ h => h) (Or.inl ⟨by rfl, by intro w hSw; clear hSw; go_simp⟩) hS0 ?_
        try simp only [Act.put, List.setIfInBounds_toArray, List.set_cons_zero, List.set_cons_succ]
        refine wpAnyH_take (i := 2) (oi := { dst := some 90, op := .indexAddr 22 (.tmp 88) (.tmp 89), type := 0, pos := "outright.go:147", after := #[{ on := 0, ground := .data }, { on := 1, ground := .data }], guard := none }) (v := .pointer (some ⟨b, o + k * 8, none⟩)) rfl (by kernel_rfl) (by kernel_rfl) (by kernel_rfl) (fun _ _ _ h => h) (Or.inl ⟨by rfl, by intro w hSw; clear hSw; go_simp⟩) hS0 ?_
        try simp only [Act.put, List.setIfInBounds_toArray, List.set_cons_zero, List.set_cons_succ]
        refine wpAnyH_take (i := 3) (oi := { dst := some 91, op := .fieldAddr 27 (.tmp 90) 1, type := 0, pos := "outright.go:147", after := #[{ on := 2, ground := .data }], guard := none }) (v := .pointer (some ⟨b, o + k * 8 + 1, none⟩)) rfl (by kernel_rfl) (by kernel_rfl) (by kernel_rfl) (fun _ _ _ h => h) (Or.inl ⟨by rfl, by intro w hSw; clear hSw; go_simp⟩) hS0 ?_
        try simp only [Act.put, List.setIfInBounds_toArray, List.set_cons_zero, List.set_cons_succ]
        refine wpAnyH_take (i := 4) (oi := { dst := some 92, op := .load 24 (.tmp 91), type := 24, pos := "outright.go:147", after := #[{ on := 3, ground := .data }], guard := none }) (v := .agg #[.int .i64 r2, .int .i64 r3, .int .i64 r4, .int .i64 r5]) rfl (by kernel_rfl) (by kernel_rfl) (by kernel_rfl) (fun _ _ _ h => h) (yieldsIf_load_mid (by rfl) _ _ rfl _ _ rfl _ _ (fun w h => Pm.rng_bel (rng_st HROW.out) h) Try.underlying24 rfl info_St) hS0 ?_
        try simp only [Act.put, List.setIfInBounds_toArray, List.set_cons_zero, List.set_cons_succ]
        refine wpAnyH_take (i := 5) (oi := { dst := some 93, op := .move (.tmp 1), type := 3, pos := "outright.go:147", after := #[], guard := none }) (v := .int .i64 v) rfl (by kernel_rfl) (by kernel_rfl) (by kernel_rfl) (fun _ _ _ h => h) (Or.inl ⟨by rfl, by intro w hSw; clear hSw; go_simp⟩) hS0 ?_
        try simp only [Act.put, List.setIfInBounds_toArray, List.set_cons_zero, List.set_cons_succ]
        refine wpAnyH_take (i := 6) (oi := { dst := some 94, op := .move (.tmp 2), type := 3, pos := "outright.go:147", after := #[], guard := none }) (v := .int .i64 h) rfl (by kernel_rfl) (by kernel_rfl) (by kernel_rfl) (fun _ _ _ h => h) (Or.inl ⟨by rfl, by intro w hSw; clear hSw; go_simp⟩) hS0 ?_
        try simp only [Act.put, List.setIfInBounds_toArray, List.set_cons_zero, List.set_cons_succ]
        refine wpAnyH_take (i := 7) (oi := { dst := some 95, op := .move (.tmp 0), type := 22, pos := "outright.go:147", after := #[], guard := none }) (v := .slice (some ⟨b, o, none⟩) n c) rfl (by kernel_rfl) (by kernel_rfl) (by kernel_rfl) (fun _ _ _ h => h) (Or.inl ⟨by rfl, by intro w hSw; clear hSw; go_simp⟩) hS0 ?_
        try simp only [Act.put, List.setIfInBounds_toArray, List.set_cons_zero, List.set_cons_succ]
        refine wpAnyH_take (i := 8) (oi := { dst := some 96, op := .move (.tmp 20), type := 3, pos := "outright.go:147", after := #[], guard := none }) (v := .int .i64 k) rfl (by kernel_rfl) (by kernel_rfl) (by kernel_rfl) (fun _ _ _ h => h) (Or.inl ⟨by rfl, by intro w hSw; clear hSw; go_simp⟩) hS0 ?_
        try simp only [Act.put, List.setIfInBounds_toArray, List.set_cons_zero, List.set_cons_succ]
        refine wpAnyH_take (i := 9) (oi := { dst := some 97, op := .indexAddr 22 (.tmp 95) (.tmp 96), type := 0, pos := "outright.go:147", after := #[{ on := 7, ground := .data }, { on := 8, ground := .data }], guard := none }) (v := .pointer (some ⟨b, o + k * 8, none⟩)) rfl (by kernel_rfl) (by kernel_rfl) (by kernel_rfl) (fun _ _ _ h => h) (Or.inl ⟨by rfl, by intro w hSw; clear hSw; go_simp⟩) hS0 ?_
        try simp only [Act.put, List.setIfInBounds_toArray, List.set_cons_zero, List.set_cons_succ]
        refine wpAnyH_take (i := 10) (oi := { dst := some 98, op := .fieldAddr 27 (.tmp 97) 2, type := 0, pos := "outright.go:147", after := #[{ on := 9, ground := .data }], guard := none }) (v := .pointer (some ⟨b, o + k * 8 + 5, none⟩)) rfl (by kernel_rfl) (by kernel_rfl) (by kernel_rfl) (fun _ _ _ h => h) (Or.inl ⟨by rfl, by intro w hSw; clear hSw; go_simp⟩) hS0 ?_
        try simp only [Act.put, List.setIfInBounds_toArray, List.set_cons_zero, List.set_cons_succ]
        refine wpAnyH_take (i := 11) (oi := { dst := some 99, op := .load 3 (.tmp 98), type := 3, pos := "outright.go:147", after := #[{ on := 10, ground := .data }], guard := none }) (v := .int .i64 r6) rfl (by kernel_rfl) (by kernel_rfl) (by kernel_rfl) (fun _ _ _ h => h) (Or.inl ⟨by rfl, by intro w h; have hcell := ((rng8 (Pm.rng_bel HROW.out h)).2.2.2.2.2.1); clear h; go_simp⟩) hS0 ?_
        try simp only [Act.put, List.setIfInBounds_toArray, List.set_cons_zero, List.set_cons_succ]
        refine wpAnyH_ready (rs := [12]) (by kernel_rfl) (by simp) ?_
        refine AllReadyH.cons (o := { dst := some 100, op := .call { callee := .value (.func 40), args := #[.tmp 92, .tmp 93, .tmp 94, .tmp 99], argTypes := #[24, 3, 3, 3] }, type := 4, pos := "outright.go:147", after := #[{ on := 4, ground := .data }, { on := 5, ground := .data }, { on := 6, ground := .data }, { on := 11, ground := .data }], guard := none }) rfl (fun K hK => ?_) AllReadyH.nil
        go_simp
        refine (BK.out _).mono ?_
        rintro e v1 ⟨rfl, kb⟩
        go_wp2_with fail
        refine hK.out _ _ (hS0.trans kb) (fun hS1 => ?_)
        clear hK K
        try simp only [Act.put, List.setIfInBounds_toArray, List.set_cons_zero, List.set_cons_succ]
        refine wpAnyH_done (by kernel_rfl) ?_ _
        have K5 := Lib.hid hS1
        clear hS1
        obtain ⟨w5, hw5⟩ : ∃ w5, v1 = w5 := ⟨_, rfl⟩
        rw [hw5] at K5 ⊢
        clear hw5 BK
        have ROW5 := Lib.hid (Pm.rng_bel HROW.out K5.out)
        have XW := Lib.hid (show Bel w5 (w5.alloc (.cells #[.int .i64 r1, .int .i64 r2, .int .i64 r3, .int .i64 r4, .int .i64 r5, .int .i64 r6, .int .u64 r7, .int .u64 r8] 27)) from (Bel.refl _).alloc _)
        obtain ⟨V7, hV7⟩ : ∃ V, w5.alloc (.cells #[.int .i64 r1, .int .i64 r2, .int .i64 r3, .int .i64 r4, .int .i64 r5, .int .i64 r6, .int .u64 r7, .int .u64 r8] 27) = V := ⟨_, rfl⟩
        obtain ⟨g, hg⟩ : ∃ g, w5.heap.size = g := ⟨_, rfl⟩
        have B7 := Lib.hid (show Blk V7 g #[.int .i64 r1, .int .i64 r2, .int .i64 r3, .int .i64 r4, .int .i64 r5, .int .i64 r6, .int .u64 r7, .int .u64 r8] 27 by rw [← hV7, ← hg]; exact Blk.new _ _ _)
        rw [hV7] at XW
        obtain ⟨c0, c1, c2, c3, c4, c5, c6, c7⟩ := rng8 ROW5.out
        go_upto_region 21 with fail
        (try rw [hV7]); (try rw [hg])
        have HG := Lib.hid hg
        clear hV7 hg c0 c1 c2 c3 c4 c5 c6 c7
        have p7 := B7.out.cell 7 rfl
        have hfz := B7.out.frozen 7
        obtain ⟨V8, hV8⟩ : ∃ V, V7.setCell ⟨g, 7, none⟩ (.int .u64 (r8)) = V := ⟨_, rfl⟩
        have B8 := Lib.hid (show Blk V8 g #[.int .i64 r1, .int .i64 r2, .int .i64 r3, .int .i64 r4, .int .i64 r5, .int .i64 r6, .int .u64 r7, .int .u64 r8] 27 by rw [← hV8]; exact B7.out.set 7 _)
        have K8 := Lib.hid (show Bel wr V8 by rw [← hV8]; exact Bel.set (K5.out.trans XW.out) (by rw [← HG.out]; exact Below.size K5.out) _)
        go_upto_region 23 with fail
        (try rw [hV8])
        clear hV8 p7 hfz B7 XW
        have EQ := Lib.hid (fun V => (Rw.neq_entry r1 r2 r3 r4 r5 r6 r7 (r8) r1 r2 r3 r4 r5 r6 r7 (r8) V).trans (by rw [decide_eq_true (rfl : (r1, r2, r3, r4, r5, r6, r7, r8) = (r1, r2, r3, r4, r5, r6, r7, r8))]))
        have HX8 := Lib.hid (show V8.rangeAt g 0 [.int .i64 r1, .int .i64 r2, .int .i64 r3, .int .i64 r4, .int .i64 r5, .int .i64 r6, .int .u64 r7, .int .u64 r8] from Pm.rngB (C := [.int .i64 r1, .int .i64 r2, .int .i64 r3, .int .i64 r4, .int .i64 r5, .int .i64 r6, .int .u64 r7, .int .u64 r8]) B8.out)
        have HRQ := Lib.hid (show V8.rangeAt bq (oq + k * 8) [.int .i64 r1, .int .i64 r2, .int .i64 r3, .int .i64 r4, .int .i64 r5, .int .i64 r6, .int .u64 r7, .int .u64 r8] from by
          have hq := Pm.rng_bel HROWQ.out K8.out
          rwa [show cutX v h P (r1, r2, r3, r4, r5, r6, r7, r8) = (r1, r2, r3, r4, r5, r6, r7, r8) from HCX.out] at hq)
        clear B8
        refine wp_region_held_drew (S := fun Vx => Bel V8 Vx) (by kernel_rfl) (Bel.refl _).drew (fun hS0 => ?_)
        obtain ⟨w6, hw6⟩ : ∃ w6, World.drew V8 = w6 := ⟨_, rfl⟩
        rw [hw6] at hS0 ⊢
        clear hw6
        refine wpAnyH_take (i := 0) (oi := { dst := some 139, op := .move (.tmp 20), type := 3, pos := "outright.go:157", after := #[], guard := none }) (v := .int .i64 k) rfl (by kernel_rfl) (by kernel_rfl) (by kernel_rfl) (fun _ _ _ h => h) (Or.inl ⟨by rfl, by intro w hSw; clear hSw; go_simp⟩) hS0 ?_
        try simp only [Act.put, List.setIfInBounds_toArray, List.set_cons_zero, List.set_cons_succ]
        refine wpAnyH_take (i := 1) (oi := { dst := some 140, op := .move (.tmp 14), type := 22, pos := "outright.go:157", after := #[], guard := none }) (v := .slice (some ⟨bq, oq, none⟩) n cq) rfl (by kernel_rfl) (by kernel_rfl) (by kernel_rfl) (fun _ _ _ h => h) (Or.inl ⟨by rfl, by intro w hSw; clear hSw; go_simp⟩) hS0 ?_
        try simp only [Act.put, List.setIfInBounds_toArray, List.set_cons_zero, List.set_cons_succ]
        refine wpAnyH_take (i := 2) (oi := { dst := some 141, op := .call { callee := .builtin .len, args := #[.tmp 140], argTypes := #[22] }, type := 3, pos := "outright.go:157", after := #[{ on := 1, ground := .data }], guard := none }) (v := .int .i64 n) rfl (by kernel_rfl) (by kernel_rfl) (by kernel_rfl) (fun _ _ _ h => h) (Or.inl ⟨by rfl, by intro w hSw; clear hSw; go_simp⟩) hS0 ?_
        try simp only [Act.put, List.setIfInBounds_toArray, List.set_cons_zero, List.set_cons_succ]
        refine wpAnyH_take (i := 3) (oi := { dst := some 142, op := .binOp .geq 3 (.tmp 139) (.tmp 141) 3, type := 4, pos := "outright.go:157", after := #[{ on := 0, ground := .data }, { on := 2, ground := .data }], guard := none }) (v := .bool false) rfl (by kernel_rfl) (by kernel_rfl) (by kernel_rfl) (fun _ _ _ h => h) (Or.inl ⟨by rfl, by intro w hSw; clear hSw; go_simp⟩) hS0 ?_
        try simp only [Act.put, List.setIfInBounds_toArray, List.set_cons_zero, List.set_cons_succ]
        refine wpAnyH_take (i := 4) (oi := { dst := some 143, op := .move (.tmp 142), type := 4, pos := "outright.go:157", after := #[{ on := 3, ground := .data }], guard := none }) (v := .bool false) rfl (by kernel_rfl) (by kernel_rfl) (by kernel_rfl) (fun _ _ _ h => h) (Or.inl ⟨by rfl, by intro w hSw; clear hSw; go_simp⟩) hS0 ?_
        try simp only [Act.put, List.setIfInBounds_toArray, List.set_cons_zero, List.set_cons_succ]
        refine wpAnyH_take (i := 5) (oi := { dst := some 144, op := .move (.tmp 14), type := 22, pos := "outright.go:157", after := #[{ on := 4, ground := .guard }], guard := some (4, false) }) (v := .slice (some ⟨bq, oq, none⟩) n cq) rfl (by kernel_rfl) (by kernel_rfl) (by kernel_rfl) (fun _ _ _ h => h) (Or.inl ⟨by rfl, by intro w hSw; clear hSw; go_simp⟩) hS0 ?_
        try simp only [Act.put, List.setIfInBounds_toArray, List.set_cons_zero, List.set_cons_succ]
        refine wpAnyH_take (i := 6) (oi := { dst := some 145, op := .move (.tmp 20), type := 3, pos := "outright.go:157", after := #[{ on := 4, ground := .guard }], guard := some (4, false) }) (v := .int .i64 k) rfl (by kernel_rfl) (by kernel_rfl) (by kernel_rfl) (fun _ _ _ h => h) (Or.inl ⟨by rfl, by intro w hSw; clear hSw; go_simp⟩) hS0 ?_
        try simp only [Act.put, List.setIfInBounds_toArray, List.set_cons_zero, List.set_cons_succ]
        refine wpAnyH_take (i := 7) (oi := { dst := some 146, op := .indexAddr 22 (.tmp 144) (.tmp 145), type := 0, pos := "outright.go:157", after := #[{ on := 5, ground := .data }, { on := 6, ground := .data }, { on := 4, ground := .guard }], guard := some (4, false) }) (v := .pointer (some ⟨bq, oq + k * 8, none⟩)) rfl (by kernel_rfl) (by kernel_rfl) (by kernel_rfl) (fun _ _ _ h => h) (Or.inl ⟨by rfl, by intro w hSw; clear hSw; go_simp⟩) hS0 ?_
        try simp only [Act.put, List.setIfInBounds_toArray, List.set_cons_zero, List.set_cons_succ]
        refine wpAnyH_take (i := 8) (oi := { dst := some 147, op := .load 27 (.tmp 146), type := 27, pos := "outright.go:157", after := #[{ on := 7, ground := .data }, { on := 4, ground := .guard }], guard := some (4, false) }) (v := .agg #[.int .i64 r1, .int .i64 r2, .int .i64 r3, .int .i64 r4, .int .i64 r5, .int .i64 r6, .int .u64 r7, .int .u64 r8]) rfl (by kernel_rfl) (by kernel_rfl) (by kernel_rfl) (fun _ _ _ h => h) (yieldsIf_load_mid (by rfl) _ _ rfl _ _ rfl _ _ (fun w h => Pm.rng_bel HRQ.out h) Try.underlying27 rfl info_E) hS0 ?_
        try simp only [Act.put, List.setIfInBounds_toArray, List.set_cons_zero, List.set_cons_succ]
        refine wpAnyH_take (i := 9) (oi := { dst := some 148, op := .load 27 (.tmp 22), type := 27, pos := "outright.go:157", after := #[{ on := 4, ground := .guard }], guard := some (4, false) }) (v := .agg #[.int .i64 r1, .int .i64 r2, .int .i64 r3, .int .i64 r4, .int .i64 r5, .int .i64 r6, .int .u64 r7, .int .u64 r8]) rfl (by kernel_rfl) (by kernel_rfl) (by kernel_rfl) (fun _ _ _ h => h) (yieldsIf_load_mid (by rfl) _ _ rfl _ _ rfl _ _ (fun w h => Pm.rng_bel HX8.out h) Try.underlying27 rfl info_E) hS0 ?_
        try simp only [Act.put, List.setIfInBounds_toArray, List.set_cons_zero, List.set_cons_succ]
        refine wpAnyH_take (i := 10) (oi := { dst := some 149, op := .binOp .neq 27 (.tmp 147) (.tmp 148) 27, type := 4, pos := "outright.go:157", after := #[{ on := 8, ground := .data }, { on := 9, ground := .data }, { on := 4, ground := .guard }], guard := some (4, false) }) (v := .bool false) rfl (by kernel_rfl) (by kernel_rfl) (by kernel_rfl) (fun _ _ _ h => h) (Or.inl ⟨by rfl, fun w _ => Rw.exec_neq rfl _ _ rfl rfl (by kernel_rfl) EQ.out w⟩) hS0 ?_
        try simp only [Act.put, List.setIfInBounds_toArray, List.set_cons_zero, List.set_cons_succ]
        refine wpAnyH_take (i := 11) (oi := { dst := some 150, op := .pick (.tmp 143) (.const (Value.bool true)) (.tmp 149), type := 4, pos := "outright.go:157", after := #[{ on := 4, ground := .data }, { on := 10, ground := .data }], guard := none }) (v := .bool false) rfl (by kernel_rfl) (by kernel_rfl) (by kernel_rfl) (fun _ _ _ h => h) (Or.inl ⟨by rfl, by intro w hSw; clear hSw; go_simp⟩) hS0 ?_
        try simp only [Act.put, List.setIfInBounds_toArray, List.set_cons_zero, List.set_cons_succ]
        refine wpAnyH_done (by kernel_rfl) ?_ _
        have KR := Lib.hid (show Bel w3 w6 from hh.out.trans (K8.out.trans hS0))
        go_wp2_with fail
        go_roundw
        case rel => exact ⟨k + 1, t, Z, rfl, by go_num, by omega, rfl, rfl, HT1, HZ1, KR⟩
        case measure => simp [intOf]; omega
      | true =>
        have HT1 := Lib.hid (show (shv v h P 0 (l.take (k + 1))).length = t + 1 by rw [HSN.out, HBB.out, if_pos rfl, List.length_append, ht.out]; rfl)
        have HSG := Lib.hid (show (shv v h P 0 l)[t]? = some ((k : Int), r8 * P / 1000000000) by rw [← ht.out]; exact HSG.out HBB.out)
        have HZ1 := Lib.hid (show lost v h P (l.take (k + 1)) = Z + r8 * P / 1000000000 by rw [HLX.out, HBB.out, if_pos rfl, hz.out]; rfl)
        have HCX := Lib.hid (cutX_yes (v := v) (h := h) (p := P) (o := r1) (i := r7) (n := r8) (show Sm.bkB r2 r3 r4 r5 v h r6 = true from HBB.out))
        have HPR := Lib.hid (prt_le HR8.out.1 HP.out.1 HP.out.2)
        have HPO := Lib.hid (part_of HR8.out.1 HR8.out.2 HP.out.1 HP.out.2)
        have PT := Lib.hid (fun V => Fix.part r8 P V HR8.out.1 HR8.out.2 HP.out.1 (by have := HP.out; omega))
        rw [HPO.out.1, HPO.out.2] at PT
        rw [HZ1.out] at HLT
        obtain ⟨q, hq⟩ : ∃ q, r8 * P / 1000000000 = q := ⟨_, rfl⟩
        rw [hq] at HSG HZ1 HPR PT HLT HCX
        have htn : t < ns := by
          have := (List.getElem?_eq_some_iff.1 HSG.out).1
          rw [HNS.out] at this
          exact this
        have htn3 : (t : Int) < ns := by omega
        have wT : IntKind.i64.wrap ((t : Int) + 1) = ((t + 1 : Nat) : Int) := by rw [IntWalk.i64_in _ (by have := HNSL.out; omega)]; omega
        have w8a : IntKind.u64.wrap (r8 - q) = r8 - q := IntWalk.u64_in _ (by have := HPR.out; have := HR8.out; omega)
        have wZ : IntKind.u64.wrap (Z + q) = Z + q := IntWalk.u64_in _ (by have := HLT.out; have := HOK.out.2.2; omega)
        clear HSN HLX HLT HLT0 hq HPO
        go_upto_region 15 with fail
        refine wp_region_held_drew (S := fun Vx => Bel wr Vx) (by kernel_rfl) (Bel.refl _).drew (fun hS0 => ?_)
        obtain ⟨w6, hw6⟩ : ∃ w6, World.drew wr = w6 := ⟨_, rfl⟩
        rw [hw6] at hS0 ⊢
        clear hw6
        refine wpAnyH_take (i := 0) (oi := { dst := some 88, op := .move (.tmp 0), type := 22, pos := "outright.go:147", after := #[], guard := none }) (v := .slice (some ⟨b, o, none⟩) n c) rfl (by kernel_rfl) (by kernel_rfl) (by kernel_rfl) (fun _ _ _ h => h) (Or.inl ⟨by rfl, by intro w hSw; clear hSw; go_simp⟩) hS0 ?_
        try simp only [Act.put, List.setIfInBounds_toArray, List.set_cons_zero, List.set_cons_succ]
        refine wpAnyH_take (i := 1) (oi := { dst := some 89, op := .move (.tmp 20), type := 3, pos := "outright.go:147", after := #[], guard := none }) (v := .int .i64 k) rfl (by kernel_rfl) (by kernel_rfl) (by kernel_rfl) (fun _ _ _ h => h) (Or.inl ⟨by rfl, by intro w hSw; clear hSw; go_simp⟩) hS0 ?_
        try simp only [Act.put, List.setIfInBounds_toArray, List.set_cons_zero, List.set_cons_succ]
        refine wpAnyH_take (i := 2) (oi := { dst := some 90, op := .indexAddr 22 (.tmp 88) (.tmp 89), type := 0, pos := "outright.go:147", after := #[{ on := 0, ground := .data }, { on := 1, ground := .data }], guard := none }) (v := .pointer (some ⟨b, o + k * 8, none⟩)) rfl (by kernel_rfl) (by kernel_rfl) (by kernel_rfl) (fun _ _ _ h => h) (Or.inl ⟨by rfl, by intro w hSw; clear hSw; go_simp⟩) hS0 ?_
        try simp only [Act.put, List.setIfInBounds_toArray, List.set_cons_zero, List.set_cons_succ]
        refine wpAnyH_take (i := 3) (oi := { dst := some 91, op := .fieldAddr 27 (.tmp 90) 1, type := 0, pos := "outright.go:147", after := #[{ on := 2, ground := .data }], guard := none }) (v := .pointer (some ⟨b, o + k * 8 + 1, none⟩)) rfl (by kernel_rfl) (by kernel_rfl) (by kernel_rfl) (fun _ _ _ h => h) (Or.inl ⟨by rfl, by intro w hSw; clear hSw; go_simp⟩) hS0 ?_
        try simp only [Act.put, List.setIfInBounds_toArray, List.set_cons_zero, List.set_cons_succ]
        refine wpAnyH_take (i := 4) (oi := { dst := some 92, op := .load 24 (.tmp 91), type := 24, pos := "outright.go:147", after := #[{ on := 3, ground := .data }], guard := none }) (v := .agg #[.int .i64 r2, .int .i64 r3, .int .i64 r4, .int .i64 r5]) rfl (by kernel_rfl) (by kernel_rfl) (by kernel_rfl) (fun _ _ _ h => h) (yieldsIf_load_mid (by rfl) _ _ rfl _ _ rfl _ _ (fun w h => Pm.rng_bel (rng_st HROW.out) h) Try.underlying24 rfl info_St) hS0 ?_
        try simp only [Act.put, List.setIfInBounds_toArray, List.set_cons_zero, List.set_cons_succ]
        refine wpAnyH_take (i := 5) (oi := { dst := some 93, op := .move (.tmp 1), type := 3, pos := "outright.go:147", after := #[], guard := none }) (v := .int .i64 v) rfl (by kernel_rfl) (by kernel_rfl) (by kernel_rfl) (fun _ _ _ h => h) (Or.inl ⟨by rfl, by intro w hSw; clear hSw; go_simp⟩) hS0 ?_
        try simp only [Act.put, List.setIfInBounds_toArray, List.set_cons_zero, List.set_cons_succ]
        refine wpAnyH_take (i := 6) (oi := { dst := some 94, op := .move (.tmp 2), type := 3, pos := "outright.go:147", after := #[], guard := none }) (v := .int .i64 h) rfl (by kernel_rfl) (by kernel_rfl) (by kernel_rfl) (fun _ _ _ h => h) (Or.inl ⟨by rfl, by intro w hSw; clear hSw; go_simp⟩) hS0 ?_
        try simp only [Act.put, List.setIfInBounds_toArray, List.set_cons_zero, List.set_cons_succ]
        refine wpAnyH_take (i := 7) (oi := { dst := some 95, op := .move (.tmp 0), type := 22, pos := "outright.go:147", after := #[], guard := none }) (v := .slice (some ⟨b, o, none⟩) n c) rfl (by kernel_rfl) (by kernel_rfl) (by kernel_rfl) (fun _ _ _ h => h) (Or.inl ⟨by rfl, by intro w hSw; clear hSw; go_simp⟩) hS0 ?_
        try simp only [Act.put, List.setIfInBounds_toArray, List.set_cons_zero, List.set_cons_succ]
        refine wpAnyH_take (i := 8) (oi := { dst := some 96, op := .move (.tmp 20), type := 3, pos := "outright.go:147", after := #[], guard := none }) (v := .int .i64 k) rfl (by kernel_rfl) (by kernel_rfl) (by kernel_rfl) (fun _ _ _ h => h) (Or.inl ⟨by rfl, by intro w hSw; clear hSw; go_simp⟩) hS0 ?_
        try simp only [Act.put, List.setIfInBounds_toArray, List.set_cons_zero, List.set_cons_succ]
        refine wpAnyH_take (i := 9) (oi := { dst := some 97, op := .indexAddr 22 (.tmp 95) (.tmp 96), type := 0, pos := "outright.go:147", after := #[{ on := 7, ground := .data }, { on := 8, ground := .data }], guard := none }) (v := .pointer (some ⟨b, o + k * 8, none⟩)) rfl (by kernel_rfl) (by kernel_rfl) (by kernel_rfl) (fun _ _ _ h => h) (Or.inl ⟨by rfl, by intro w hSw; clear hSw; go_simp⟩) hS0 ?_
        try simp only [Act.put, List.setIfInBounds_toArray, List.set_cons_zero, List.set_cons_succ]
        refine wpAnyH_take (i := 10) (oi := { dst := some 98, op := .fieldAddr 27 (.tmp 97) 2, type := 0, pos := "outright.go:147", after := #[{ on := 9, ground := .data }], guard := none }) (v := .pointer (some ⟨b, o + k * 8 + 5, none⟩)) rfl (by kernel_rfl) (by kernel_rfl) (by kernel_rfl) (fun _ _ _ h => h) (Or.inl ⟨by rfl, by intro w hSw; clear hSw; go_simp⟩) hS0 ?_
        try simp only [Act.put, List.setIfInBounds_toArray, List.set_cons_zero, List.set_cons_succ]
        refine wpAnyH_take (i := 11) (oi := { dst := some 99, op := .load 3 (.tmp 98), type := 3, pos := "outright.go:147", after := #[{ on := 10, ground := .data }], guard := none }) (v := .int .i64 r6) rfl (by kernel_rfl) (by kernel_rfl) (by kernel_rfl) (fun _ _ _ h => h) (Or.inl ⟨by rfl, by intro w h; have hcell := ((rng8 (Pm.rng_bel HROW.out h)).2.2.2.2.2.1); clear h; go_simp⟩) hS0 ?_
        try simp only [Act.put, List.setIfInBounds_toArray, List.set_cons_zero, List.set_cons_succ]
        refine wpAnyH_ready (rs := [12]) (by kernel_rfl) (by simp) ?_
        refine AllReadyH.cons (o := { dst := some 100, op := .call { callee := .value (.func 40), args := #[.tmp 92, .tmp 93, .tmp 94, .tmp 99], argTypes := #[24, 3, 3, 3] }, type := 4, pos := "outright.go:147", after := #[{ on := 4, ground := .data }, { on := 5, ground := .data }, { on := 6, ground := .data }, { on := 11, ground := .data }], guard := none }) rfl (fun K hK => ?_) AllReadyH.nil
        go_simp
        refine (BK.out _).mono ?_
        rintro e v1 ⟨rfl, kb⟩
        go_wp2_with fail
        refine hK.out _ _ (hS0.trans kb) (fun hS1 => ?_)
        clear hK K
        try simp only [Act.put, List.setIfInBounds_toArray, List.set_cons_zero, List.set_cons_succ]
        refine wpAnyH_done (by kernel_rfl) ?_ _
        have K5 := Lib.hid hS1
        clear hS1
        obtain ⟨w5, hw5⟩ : ∃ w5, v1 = w5 := ⟨_, rfl⟩
        rw [hw5] at K5 ⊢
        clear hw5 BK
        have ROW5 := Lib.hid (Pm.rng_bel HROW.out K5.out)
        have PT := Lib.hid (PT.out w5)
        have pc7 := (rng8 ROW5.out).2.2.2.2.2.2.2
        go_wp2_with fail
        refine PT.out.mono ?_
        rintro e w6 ⟨rfl, kb⟩
        have K6 := Lib.hid (K5.out.trans kb)
        have ROW6 := Lib.hid (Pm.rng_bel ROW5.out kb)
        clear PT kb pc7 K5 ROW5
        obtain ⟨sb, so, rfl, _, hrows⟩ := (HS.out.bel (hh.out.trans K6.out)).at htn HSG.out
        have HRS := Lib.hid (show w6.rangeAt sb (so + t * 2) [.int .i64 k, .int .u64 q] from hrows)
        clear hrows
        have s0 := HRS.out 0 _ rfl
        have s1 := HRS.out 1 _ rfl
        have s0 : w6.cell? ⟨sb, so + t * 2, none⟩ = some (.int .i64 k) := s0
        have ht0 : (0 : Int) ≤ t := by omega
        have EQS := fun V : World => (show (binOp .neq 68 (.agg #[.int .i64 k, .int .u64 q]) (.agg #[.int .i64 k, .int .u64 q])).run Try.prog V = .ok (.bool false) V by rw [Rw.neq_shave]; simp)
        go_upto_region 20 with fail
        clear s0 s1 EQS
        have XW := Lib.hid (show Bel w6 (w6.alloc (.cells #[.int .i64 r1, .int .i64 r2, .int .i64 r3, .int .i64 r4, .int .i64 r5, .int .i64 r6, .int .u64 r7, .int .u64 r8] 27)) from (Bel.refl _).alloc _)
        obtain ⟨V7, hV7⟩ : ∃ V, w6.alloc (.cells #[.int .i64 r1, .int .i64 r2, .int .i64 r3, .int .i64 r4, .int .i64 r5, .int .i64 r6, .int .u64 r7, .int .u64 r8] 27) = V := ⟨_, rfl⟩
        obtain ⟨g, hg⟩ : ∃ g, w6.heap.size = g := ⟨_, rfl⟩
        have B7 := Lib.hid (show Blk V7 g #[.int .i64 r1, .int .i64 r2, .int .i64 r3, .int .i64 r4, .int .i64 r5, .int .i64 r6, .int .u64 r7, .int .u64 r8] 27 by rw [← hV7, ← hg]; exact Blk.new _ _ _)
        rw [hV7] at XW
        obtain ⟨c0, c1, c2, c3, c4, c5, c6, c7⟩ := rng8 ROW6.out
        go_upto_region 21 with fail
        (try rw [hV7]); (try rw [hg])
        have HG := Lib.hid hg
        clear hV7 hg c0 c1 c2 c3 c4 c5 c6 c7
        have p7 := B7.out.cell 7 rfl
        have hfz := B7.out.frozen 7
        obtain ⟨V8, hV8⟩ : ∃ V, V7.setCell ⟨g, 7, none⟩ (.int .u64 (r8 - q)) = V := ⟨_, rfl⟩
        have B8 := Lib.hid (show Blk V8 g #[.int .i64 r1, .int .i64 r2, .int .i64 r3, .int .i64 r4, .int .i64 r5, .int .i64 r6, .int .u64 r7, .int .u64 (r8 - q)] 27 by rw [← hV8]; exact B7.out.set 7 _)
        have K8 := Lib.hid (show Bel wr V8 by rw [← hV8]; exact Bel.set (K6.out.trans XW.out) (by rw [← HG.out]; exact Below.size K6.out) _)
        go_upto_region 23 with fail
        (try rw [hV8])
        clear hV8 p7 hfz B7 XW
        have EQ := Lib.hid (fun V => (Rw.neq_entry r1 r2 r3 r4 r5 r6 r7 (r8 - q) r1 r2 r3 r4 r5 r6 r7 (r8 - q) V).trans (by rw [decide_eq_true (rfl : (r1, r2, r3, r4, r5, r6, r7, r8 - q) = (r1, r2, r3, r4, r5, r6, r7, r8 - q))]))
        have HX8 := Lib.hid (show V8.rangeAt g 0 [.int .i64 r1, .int .i64 r2, .int .i64 r3, .int .i64 r4, .int .i64 r5, .int .i64 r6, .int .u64 r7, .int .u64 (r8 - q)] from Pm.rngB (C := [.int .i64 r1, .int .i64 r2, .int .i64 r3, .int .i64 r4, .int .i64 r5, .int .i64 r6, .int .u64 r7, .int .u64 (r8 - q)]) B8.out)
        have HRQ := Lib.hid (show V8.rangeAt bq (oq + k * 8) [.int .i64 r1, .int .i64 r2, .int .i64 r3, .int .i64 r4, .int .i64 r5, .int .i64 r6, .int .u64 r7, .int .u64 (r8 - q)] from by
          have hq := Pm.rng_bel HROWQ.out K8.out
          rwa [show cutX v h P (r1, r2, r3, r4, r5, r6, r7, r8) = (r1, r2, r3, r4, r5, r6, r7, r8 - q) from HCX.out] at hq)
        clear B8
        refine wp_region_held_drew (S := fun Vx => Bel V8 Vx) (by kernel_rfl) (Bel.refl _).drew (fun hS0 => ?_)
        obtain ⟨w6, hw6⟩ : ∃ w6, World.drew V8 = w6 := ⟨_, rfl⟩
        rw [hw6] at hS0 ⊢
        clear hw6
        refine wpAnyH_take (i := 0) (oi := { dst := some 139, op := .move (.tmp 20), type := 3, pos := "outright.go:157", after := #[], guard := none }) (v := .int .i64 k) rfl (by kernel_rfl) (by kernel_rfl) (by kernel_rfl) (fun _ _ _ h => h) (Or.inl ⟨by rfl, by intro w hSw; clear hSw; go_simp⟩) hS0 ?_
        try simp only [Act.put, List.setIfInBounds_toArray, List.set_cons_zero, List.set_cons_succ]
        refine wpAnyH_take (i := 1) (oi := { dst := some 140, op := .move (.tmp 14), type := 22, pos := "outright.go:157", after := #[], guard := none }) (v := .slice (some ⟨bq, oq, none⟩) n cq) rfl (by kernel_rfl) (by kernel_rfl) (by kernel_rfl) (fun _ _ _ h => h) (Or.inl ⟨by rfl, by intro w hSw; clear hSw; go_simp⟩) hS0 ?_
        try simp only [Act.put, List.setIfInBounds_toArray, List.set_cons_zero, List.set_cons_succ]
        refine wpAnyH_take (i := 2) (oi := { dst := some 141, op := .call { callee := .builtin .len, args := #[.tmp 140], argTypes := #[22] }, type := 3, pos := "outright.go:157", after := #[{ on := 1, ground := .data }], guard := none }) (v := .int .i64 n) rfl (by kernel_rfl) (by kernel_rfl) (by kernel_rfl) (fun _ _ _ h => h) (Or.inl ⟨by rfl, by intro w hSw; clear hSw; go_simp⟩) hS0 ?_
        try simp only [Act.put, List.setIfInBounds_toArray, List.set_cons_zero, List.set_cons_succ]
        refine wpAnyH_take (i := 3) (oi := { dst := some 142, op := .binOp .geq 3 (.tmp 139) (.tmp 141) 3, type := 4, pos := "outright.go:157", after := #[{ on := 0, ground := .data }, { on := 2, ground := .data }], guard := none }) (v := .bool false) rfl (by kernel_rfl) (by kernel_rfl) (by kernel_rfl) (fun _ _ _ h => h) (Or.inl ⟨by rfl, by intro w hSw; clear hSw; go_simp⟩) hS0 ?_
        try simp only [Act.put, List.setIfInBounds_toArray, List.set_cons_zero, List.set_cons_succ]
        refine wpAnyH_take (i := 4) (oi := { dst := some 143, op := .move (.tmp 142), type := 4, pos := "outright.go:157", after := #[{ on := 3, ground := .data }], guard := none }) (v := .bool false) rfl (by kernel_rfl) (by kernel_rfl) (by kernel_rfl) (fun _ _ _ h => h) (Or.inl ⟨by rfl, by intro w hSw; clear hSw; go_simp⟩) hS0 ?_
        try simp only [Act.put, List.setIfInBounds_toArray, List.set_cons_zero, List.set_cons_succ]
        refine wpAnyH_take (i := 5) (oi := { dst := some 144, op := .move (.tmp 14), type := 22, pos := "outright.go:157", after := #[{ on := 4, ground := .guard }], guard := some (4, false) }) (v := .slice (some ⟨bq, oq, none⟩) n cq) rfl (by kernel_rfl) (by kernel_rfl) (by kernel_rfl) (fun _ _ _ h => h) (Or.inl ⟨by rfl, by intro w hSw; clear hSw; go_simp⟩) hS0 ?_
        try simp only [Act.put, List.setIfInBounds_toArray, List.set_cons_zero, List.set_cons_succ]
        refine wpAnyH_take (i := 6) (oi := { dst := some 145, op := .move (.tmp 20), type := 3, pos := "outright.go:157", after := #[{ on := 4, ground := .guard }], guard := some (4, false) }) (v := .int .i64 k) rfl (by kernel_rfl) (by kernel_rfl) (by kernel_rfl) (fun _ _ _ h => h) (Or.inl ⟨by rfl, by intro w hSw; clear hSw; go_simp⟩) hS0 ?_
        try simp only [Act.put, List.setIfInBounds_toArray, List.set_cons_zero, List.set_cons_succ]
        refine wpAnyH_take (i := 7) (oi := { dst := some 146, op := .indexAddr 22 (.tmp 144) (.tmp 145), type := 0, pos := "outright.go:157", after := #[{ on := 5, ground := .data }, { on := 6, ground := .data }, { on := 4, ground := .guard }], guard := some (4, false) }) (v := .pointer (some ⟨bq, oq + k * 8, none⟩)) rfl (by kernel_rfl) (by kernel_rfl) (by kernel_rfl) (fun _ _ _ h => h) (Or.inl ⟨by rfl, by intro w hSw; clear hSw; go_simp⟩) hS0 ?_
        try simp only [Act.put, List.setIfInBounds_toArray, List.set_cons_zero, List.set_cons_succ]
        refine wpAnyH_take (i := 8) (oi := { dst := some 147, op := .load 27 (.tmp 146), type := 27, pos := "outright.go:157", after := #[{ on := 7, ground := .data }, { on := 4, ground := .guard }], guard := some (4, false) }) (v := .agg #[.int .i64 r1, .int .i64 r2, .int .i64 r3, .int .i64 r4, .int .i64 r5, .int .i64 r6, .int .u64 r7, .int .u64 (r8 - q)]) rfl (by kernel_rfl) (by kernel_rfl) (by kernel_rfl) (fun _ _ _ h => h) (yieldsIf_load_mid (by rfl) _ _ rfl _ _ rfl _ _ (fun w h => Pm.rng_bel HRQ.out h) Try.underlying27 rfl info_E) hS0 ?_
        try simp only [Act.put, List.setIfInBounds_toArray, List.set_cons_zero, List.set_cons_succ]
        refine wpAnyH_take (i := 9) (oi := { dst := some 148, op := .load 27 (.tmp 22), type := 27, pos := "outright.go:157", after := #[{ on := 4, ground := .guard }], guard := some (4, false) }) (v := .agg #[.int .i64 r1, .int .i64 r2, .int .i64 r3, .int .i64 r4, .int .i64 r5, .int .i64 r6, .int .u64 r7, .int .u64 (r8 - q)]) rfl (by kernel_rfl) (by kernel_rfl) (by kernel_rfl) (fun _ _ _ h => h) (yieldsIf_load_mid (by rfl) _ _ rfl _ _ rfl _ _ (fun w h => Pm.rng_bel HX8.out h) Try.underlying27 rfl info_E) hS0 ?_
        try simp only [Act.put, List.setIfInBounds_toArray, List.set_cons_zero, List.set_cons_succ]
        refine wpAnyH_take (i := 10) (oi := { dst := some 149, op := .binOp .neq 27 (.tmp 147) (.tmp 148) 27, type := 4, pos := "outright.go:157", after := #[{ on := 8, ground := .data }, { on := 9, ground := .data }, { on := 4, ground := .guard }], guard := some (4, false) }) (v := .bool false) rfl (by kernel_rfl) (by kernel_rfl) (by kernel_rfl) (fun _ _ _ h => h) (Or.inl ⟨by rfl, fun w _ => Rw.exec_neq rfl _ _ rfl rfl (by kernel_rfl) EQ.out w⟩) hS0 ?_
        try simp only [Act.put, List.setIfInBounds_toArray, List.set_cons_zero, List.set_cons_succ]
        refine wpAnyH_take (i := 11) (oi := { dst := some 150, op := .pick (.tmp 143) (.const (Value.bool true)) (.tmp 149), type := 4, pos := "outright.go:157", after := #[{ on := 4, ground := .data }, { on := 10, ground := .data }], guard := none }) (v := .bool false) rfl (by kernel_rfl) (by kernel_rfl) (by kernel_rfl) (fun _ _ _ h => h) (Or.inl ⟨by rfl, by intro w hSw; clear hSw; go_simp⟩) hS0 ?_
        try simp only [Act.put, List.setIfInBounds_toArray, List.set_cons_zero, List.set_cons_succ]
        refine wpAnyH_done (by kernel_rfl) ?_ _
        have KR := Lib.hid (show Bel w3 w6 from hh.out.trans (K8.out.trans hS0))
        go_wp2_with fail
        go_roundw
        case rel => exact ⟨k + 1, t + 1, Z + q, rfl, by go_num, by omega, rfl, rfl, HT1, HZ1, KR⟩
        case measure => simp [intOf]; omega
    · obtain rfl : k = n := by omega
      have h1 : l.take k = l := List.take_of_length_le (by rw [HLN.out]; exact Nat.le_refl _)
      have htt : t = ns := by rw [← ht.out, h1]; exact HNS.out
      have hzz : Z = LS := by rw [← hz.out, h1]; exact HLS.out
      subst htt hzz
      have K4 := Lib.hid (K3.out.trans hh.out)
      have Q4 := Lib.hid (HQ.out.bel hh.out)
      clear h1 ht hz hh K3 HQ HS HNS HLS
      have HO1 := Lib.hid (ok_cut (v := v) (h := h) HP.out.1 HP.out.2 HWW.out HOK.out)
      obtain ⟨f1, f2, f3, f4⟩ := ct_ok (l := l.map (cutX v h P)) (v := v) (h := h) (p := M) HO1.out.1 HB.out (by have := HP.out; have := HM.out; omega)
      obtain ⟨N2, hN2⟩ : ∃ x, lost v h M (l.map (cutX v h P)) = x := ⟨_, rfl⟩
      rw [hN2] at f4
      have C2 := Lib.hid (cut_d Aq k cq _ v h M wr Q4.out HO1.out.2 ⟨HM.out.1, by have := HP.out; have := HM.out; omega⟩ 0 _ _ _ f1 f2 f3 f4 (by have := HN.out; omega))
      clear f1 f2 f3 f4 hN2 HO1
      go_wp2_with fail
      refine C2.out.mono ?_
      rintro e w5 ⟨y3, y4, rfl, ho3, _, kb⟩
      obtain ⟨Ap, cp, rfl, hp5⟩ := ho3.slice
      rw [List.length_map, List.length_map, HLN.out] at hp5 ⊢
      have R5 := Lib.hid hp5
      have K5 := Lib.hid (K4.out.trans kb)
      clear ho3 hp5 kb C2 K4 Q4
      obtain ⟨f1, f2, f3, f4⟩ := ct_ok (l := l) (v := v) (h := h) (p := P + M) HOK.out HB.out HM.out.2
      obtain ⟨N3, hN3⟩ : ∃ x, lost v h (P + M) l = x := ⟨_, rfl⟩
      rw [hN3] at f4
      have wPM : IntKind.u64.wrap (P + M) = P + M := IntWalk.u64_in _ (by have := HP.out; have := HM.out; omega)
      have C3 := Lib.hid (cut_d A k c l v h (P + M) w5 (HI.out.bel K5.out) HWW.out ⟨by have := HP.out; have := HM.out; omega, by have := HM.out; omega⟩ 0 _ _ _ f1 f2 f3 f4 (by have := HN.out; omega))
      clear f1 f2 f3 f4 hN3
      go_wp2_with fail
      refine C3.out.mono ?_
      rintro e wz ⟨y5, y6, rfl, ho5, _, kb⟩
      obtain ⟨At, ct_, rfl, ht6⟩ := ho5.slice
      rw [List.length_map, HLN.out] at ht6 ⊢
      have R6 := Lib.hid ht6
      have P6 := Lib.hid (R5.out.bel kb)
      have K6 := Lib.hid (K5.out.trans kb)
      clear ho5 ht6 kb C3 K5 R5 wPM
      go_wp2_with fail
      go_loopw [10, 31] (fun s10 s31 wr => ∃ i : Nat, s10 = .bool false ∧ s31 = .int .i64 i ∧ i ≤ k ∧ Hid (Bel wz wr)) (fun _ s31 _ => k - (intOf s31).toNat)
      case atStart => exact ⟨0, rfl, rfl, Nat.zero_le _, Lib.hid (Bel.refl _)⟩
      case round =>
        obtain ⟨i, rfl, rfl, hik, hh⟩ := hrel
        by_cases hlt : i < k
        · have hlt3 : (i : Int) < k := by omega
          have hlt0 : (0 : Int) ≤ i := by omega
          obtain ⟨r, hr⟩ := HI.out.get hlt
          have hcp := cut_get v h M (cut_get v h P hr)
          have hct := cut_get v h (P + M) hr
          have H2 := two_cuts (v := v) (h := h) (HWW.out.at hr).1 HP.out.1 HM.out.1 HM.out.2
          obtain ⟨⟨x1, x2, x3, x4, x5, x6, x7, x8⟩, hx⟩ : ∃ x, cutX v h M (cutX v h P r) = x := ⟨_, rfl⟩
          obtain ⟨⟨z1, z2, z3, z4, z5, z6, z7, z8⟩, hz⟩ : ∃ x, cutX v h (P + M) r = x := ⟨_, rfl⟩
          rw [hx] at hcp H2
          rw [hz] at hct H2
          have hnlt : ¬ x8 < z8 := by have hle : z8 ≤ x8 := H2; omega
          obtain ⟨bp, op, rfl, _, hrp⟩ := (P6.out.bel hh.out).at hlt hcp
          obtain ⟨bt, ot, rfl, _, hrt⟩ := (R6.out.bel hh.out).at hlt hct
          have HRP := Lib.hid (rng8 (show wr.rangeAt bp (op + i * 8) [.int .i64 x1, .int .i64 x2, .int .i64 x3, .int .i64 x4, .int .i64 x5, .int .i64 x6, .int .u64 x7, .int .u64 x8] from hrp)).2.2.2.2.2.2.2
          have HRT := Lib.hid (rng8 (show wr.rangeAt bt (ot + i * 8) [.int .i64 z1, .int .i64 z2, .int .i64 z3, .int .i64 z4, .int .i64 z5, .int .i64 z6, .int .u64 z7, .int .u64 z8] from hrt)).2.2.2.2.2.2.2
          clear hr hcp hct H2 hx hz hrp hrt
          go_upto_region 34 with fail
          refine wp_region_held_drew (S := fun Vx => Bel wr Vx) (by kernel_rfl) (Bel.refl _).drew (fun hS0 => ?_)
          obtain ⟨w6, hw6⟩ : ∃ w6, World.drew wr = w6 := ⟨_, rfl⟩
          rw [hw6] at hS0 ⊢
          clear hw6
          refine wpAnyH_take (i := 0) (oi := { dst := some 215, op := .move (.tmp 23), type := 22, pos := "outright.go:170", after := #[], guard := none }) (v := .slice (some ⟨bp, op, none⟩) k cp) rfl (by kernel_rfl) (by kernel_rfl) (by kernel_rfl) (fun _ _ _ h => h) (Or.inl ⟨by rfl, by intro w hSw; clear hSw; go_simp⟩) hS0 ?_
          try simp only [Act.put, List.setIfInBounds_toArray, List.set_cons_zero, List.set_cons_succ]
          refine wpAnyH_take (i := 1) (oi := { dst := some 216, op := .move (.tmp 31), type := 3, pos := "outright.go:170", after := #[], guard := none }) (v := .int .i64 i) rfl (by kernel_rfl) (by kernel_rfl) (by kernel_rfl) (fun _ _ _ h => h) (Or.inl ⟨by rfl, by intro w hSw; clear hSw; go_simp⟩) hS0 ?_
          try simp only [Act.put, List.setIfInBounds_toArray, List.set_cons_zero, List.set_cons_succ]
          refine wpAnyH_take (i := 2) (oi := { dst := some 217, op := .indexAddr 22 (.tmp 215) (.tmp 216), type := 0, pos := "outright.go:170", after := #[{ on := 0, ground := .data }, { on := 1, ground := .data }], guard := none }) (v := .pointer (some ⟨bp, op + i * 8, none⟩)) rfl (by kernel_rfl) (by kernel_rfl) (by kernel_rfl) (fun _ _ _ h => h) (Or.inl ⟨by rfl, by intro w hSw; clear hSw; go_simp⟩) hS0 ?_
          try simp only [Act.put, List.setIfInBounds_toArray, List.set_cons_zero, List.set_cons_succ]
          refine wpAnyH_take (i := 3) (oi := { dst := some 218, op := .fieldAddr 27 (.tmp 217) 4, type := 0, pos := "outright.go:170", after := #[{ on := 2, ground := .data }], guard := none }) (v := .pointer (some ⟨bp, op + i * 8 + 7, none⟩)) rfl (by kernel_rfl) (by kernel_rfl) (by kernel_rfl) (fun _ _ _ h => h) (Or.inl ⟨by rfl, by intro w hSw; clear hSw; go_simp⟩) hS0 ?_
          try simp only [Act.put, List.setIfInBounds_toArray, List.set_cons_zero, List.set_cons_succ]
          refine wpAnyH_take (i := 4) (oi := { dst := some 219, op := .load 25 (.tmp 218), type := 25, pos := "outright.go:170", after := #[{ on := 3, ground := .data }], guard := none }) (v := .int .u64 x8) rfl (by kernel_rfl) (by kernel_rfl) (by kernel_rfl) (fun _ _ _ h => h) (Or.inl ⟨by rfl, by intro w h; have hcell := (cell_bel HRP.out h); clear h; go_simp⟩) hS0 ?_
          try simp only [Act.put, List.setIfInBounds_toArray, List.set_cons_zero, List.set_cons_succ]
          refine wpAnyH_take (i := 5) (oi := { dst := some 220, op := .move (.tmp 27), type := 22, pos := "outright.go:170", after := #[], guard := none }) (v := .slice (some ⟨bt, ot, none⟩) k ct_) rfl (by kernel_rfl) (by kernel_rfl) (by kernel_rfl) (fun _ _ _ h => h) (Or.inl ⟨by rfl, by intro w hSw; clear hSw; go_simp⟩) hS0 ?_
          try simp only [Act.put, List.setIfInBounds_toArray, List.set_cons_zero, List.set_cons_succ]
          refine wpAnyH_take (i := 6) (oi := { dst := some 221, op := .move (.tmp 31), type := 3, pos := "outright.go:170", after := #[], guard := none }) (v := .int .i64 i) rfl (by kernel_rfl) (by kernel_rfl) (by kernel_rfl) (fun _ _ _ h => h) (Or.inl ⟨by rfl, by intro w hSw; clear hSw; go_simp⟩) hS0 ?_
          try simp only [Act.put, List.setIfInBounds_toArray, List.set_cons_zero, List.set_cons_succ]
          refine wpAnyH_take (i := 7) (oi := { dst := some 222, op := .indexAddr 22 (.tmp 220) (.tmp 221), type := 0, pos := "outright.go:170", after := #[{ on := 5, ground := .data }, { on := 6, ground := .data }], guard := none }) (v := .pointer (some ⟨bt, ot + i * 8, none⟩)) rfl (by kernel_rfl) (by kernel_rfl) (by kernel_rfl) (fun _ _ _ h => h) (Or.inl ⟨by rfl, by intro w hSw; clear hSw; go_simp⟩) hS0 ?_
          try simp only [Act.put, List.setIfInBounds_toArray, List.set_cons_zero, List.set_cons_succ]
          refine wpAnyH_take (i := 8) (oi := { dst := some 223, op := .fieldAddr 27 (.tmp 222) 4, type := 0, pos := "outright.go:170", after := #[{ on := 7, ground := .data }], guard := none }) (v := .pointer (some ⟨bt, ot + i * 8 + 7, none⟩)) rfl (by kernel_rfl) (by kernel_rfl) (by kernel_rfl) (fun _ _ _ h => h) (Or.inl ⟨by rfl, by intro w hSw; clear hSw; go_simp⟩) hS0 ?_
          try simp only [Act.put, List.setIfInBounds_toArray, List.set_cons_zero, List.set_cons_succ]
          refine wpAnyH_take (i := 9) (oi := { dst := some 224, op := .load 25 (.tmp 223), type := 25, pos := "outright.go:170", after := #[{ on := 8, ground := .data }], guard := none }) (v := .int .u64 z8) rfl (by kernel_rfl) (by kernel_rfl) (by kernel_rfl) (fun _ _ _ h => h) (Or.inl ⟨by rfl, by intro w h; have hcell := (cell_bel HRT.out h); clear h; go_simp⟩) hS0 ?_
          try simp only [Act.put, List.setIfInBounds_toArray, List.set_cons_zero, List.set_cons_succ]
          refine wpAnyH_take (i := 10) (oi := { dst := some 225, op := .binOp .lss 25 (.tmp 219) (.tmp 224) 25, type := 4, pos := "outright.go:170", after := #[{ on := 4, ground := .data }, { on := 9, ground := .data }], guard := none }) (v := .bool false) rfl (by kernel_rfl) (by kernel_rfl) (by kernel_rfl) (fun _ _ _ h => h) (Or.inl ⟨by rfl, by intro w hSw; clear hSw; go_simp⟩) hS0 ?_
          try simp only [Act.put, List.setIfInBounds_toArray, List.set_cons_zero, List.set_cons_succ]
          refine wpAnyH_done (by kernel_rfl) ?_ _
          have KR := Lib.hid (show Bel wz w6 from hh.out.trans hS0)
          go_wp2_with fail
          go_roundw
          case rel => exact ⟨i + 1, rfl, by go_num, by omega, KR⟩
          case measure => simp [intOf]; omega
        · obtain rfl : i = k := by omega
          go_wp2_with fail
          go_ret
          exact ⟨rfl, K6.out.trans hh.out⟩
theorem takesLawW (A : Option Addr) (n c : Nat) (v h p m : Int) (w : World) (hn : n ≤ 9223372036854775807) (hi : Ents w A n c) (a0 : -9223372036854775808 ≤ v) (a1 : v ≤ 9223372036854775807) (b0 : -9223372036854775808 ≤ h) (b1 : h ≤ 9223372036854775807) (p0 : 0 ≤ p) (p1 : p ≤ 18446744073709551615) (m0 : 0 ≤ m) (m1 : m ≤ 18446744073709551615) :
    Calls Try.prog 8 #[.slice A n c, .int .i64 v, .int .i64 h, .int .u64 p, .int .u64 m] w fun e w' => e = .returned (.bool true) ∧ Bel w w' := by
  obtain ⟨l, h1, h2⟩ := ents_rs hi
  exact takesLaw A n c l v h p m w h1 h2 p0 p1 m0 m1
end Qu
end Go.Proofs.Ytdpompponngmdaa
