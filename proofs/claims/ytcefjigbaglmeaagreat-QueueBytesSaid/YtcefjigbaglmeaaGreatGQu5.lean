/-
  What the program's Check tells of any list of entries. Conditions: at most a billion entries; the Balances are words.
-/
import Derived.Test.YtcefjigbaglmeaaGreatGQu4
namespace Go.Proofs.YtcefjigbaglmeaaGreat
open Go.RowKit Go.Shelf
set_option linter.unusedVariables false
set_option linter.unusedSimpArgs false
namespace Qu
open Kk Pm

theorem bef_take (l : List E8) (k : Nat) : bef 0 (l.take k) k = bef 0 l k := by
  cases k with
  | zero => rfl
  | succ j =>
    show ((l.take (j + 1))[j]?).elim 0 cr = (l[j]?).elim 0 cr
    rw [List.getElem?_take, if_pos (by omega)]
theorem chk_at {l : List E8} {k : Nat} {r : E8} (hl : ¬ 32768 < l.length) (hz : ∀ (j : Nat) (x : E8), j < k → l[j]? = some x → qE (bef 0 l j) x = 0) (hr : l[k]? = some r) (h0 : qE (bef 0 l k) r ≠ 0) : chk l = (qE (bef 0 l k) r, k) := by
  have h := qk_at l 0 0 k r hz hr h0
  rw [Nat.zero_add] at h
  rw [chk_bad hl (by rw [h]; exact h0), h]
theorem chk_end {l : List E8} (hl : ¬ 32768 < l.length) (hz : ∀ (j : Nat) (x : E8), l[j]? = some x → qE (bef 0 l j) x = 0) : chk l = if 4611686018427387904 < tot l then (12, 0) else (0, 0) := by
  have h := qk_end l 0 0 hz
  by_cases h3 : 4611686018427387904 < tot l
  · rw [if_pos h3]; exact chk_over hl h h3
  · rw [if_neg h3]; exact chk_fine hl h h3
set_option maxRecDepth 100000 in
set_option maxHeartbeats 16000000 in
theorem check (A : Option Addr) (n c : Nat) (l : List E8) (w : World) (hi : Rw.RS eR w A n c l) (hn : n ≤ 1000000000) (hw : Wd l) :
    Calls Tryz.prog 19 #[.slice A n c] w fun e w' => e = .returned (.tuple #[.int .i64 (chk l).1, .int .i64 (chk l).2]) ∧ Bel w w' := by
  have HR := Lib.hid hi
  have HL := Lib.hid hi.len
  have HW := Lib.hid hw
  have HC := Lib.hid hi.cap
  clear hi hw
  by_cases hlong : 32768 < n
  · have e : chk l = (4, 32768) := chk_long (by rw [HL.out]; exact hlong)
    rw [e]
    clear e
    have hlong3 : (32768 : Int) < n := by omega
    go_enter Tryz.func19, Tryz.ntmps19
    go_wp2_with fail
    (try rw [Exit.noGoto_ret])
    go_ret2
    exact ⟨rfl, Bel.refl _⟩
  have HCA := Lib.hid (fun k r h1 h2 h3 => chk_at (l := l) (k := k) (r := r) (by rw [HL.out]; exact hlong) h1 h2 h3)
  have HCE := Lib.hid (fun h1 => chk_end (l := l) (by rw [HL.out]; exact hlong) h1)
  obtain ⟨R, hRR⟩ : ∃ R, chk l = R := ⟨_, rfl⟩
  rw [hRR] at HCA HCE ⊢
  clear hRR
  have hlong3 : ¬ (32768 : Int) < n := by omega
  go_enter Tryz.func19, Tryz.ntmps19
  go_wp2_with fail
  go_loopw [2, 3, 12] (fun s2 s3 s12 wr => ∃ k : Nat, k ≤ n ∧ s12 = .int .i64 k ∧ s2 = .int .i64 0 ∧ s3 = .int .i64 0 ∧ Hid (∀ (j : Nat) (x : E8), j < k → l[j]? = some x → qE (bef 0 l j) x = 0) ∧ Hid (Bel w wr)) (fun _ _ s12 _ => n - (intOf s12).toNat)
  case atStart => exact ⟨0, Nat.zero_le _, rfl, rfl, rfl, Lib.hid (fun j x hj => absurd hj (by omega)), Lib.hid (Bel.refl _)⟩
  case round =>
    obtain ⟨k, hk, rfl, rfl, rfl, hz, hh⟩ := hrel
    by_cases hlt : k < n
    · obtain ⟨⟨r1, r2, r3, r4, r5, r6, r7, r8⟩, hr⟩ := HR.out.get hlt
      obtain ⟨b, q, rfl, _, hrow⟩ := (HR.out.bel hh.out).at hlt hr
      have HAT := Lib.hid (HCA.out k _ hz.out hr)
      have HRK := Lib.hid hr
      have hlt3 : (k : Int) < n := by omega
      have hlt0 : (0 : Int) ≤ k := by omega
      have hkc : (k : Int) ≤ c := by have := HC.out; omega
      obtain ⟨c0, c1, c2, c3, c4, c5, c6, c7⟩ := rng8 (show wr.rangeAt b (q + k * 8) [.int .i64 r1, .int .i64 r2, .int .i64 r3, .int .i64 r4, .int .i64 r5, .int .i64 r6, .int .u64 r7, .int .u64 r8] from hrow)
      clear hr hrow
      go_upto_region 6 with fail
      have P0 := Lib.hid (Blk.new wr #[.int .i64 r1, .int .i64 r2, .int .i64 r3, .int .i64 r4, .int .i64 r5, .int .i64 r6, .int .u64 r7, .int .u64 r8] 53)
      obtain ⟨V, hV⟩ : ∃ V, wr.alloc (.cells #[.int .i64 r1, .int .i64 r2, .int .i64 r3, .int .i64 r4, .int .i64 r5, .int .i64 r6, .int .u64 r7, .int .u64 r8] 53) = V := ⟨_, rfl⟩
      have BV := Lib.hid (show Bel w V by rw [← hV]; exact hh.out.alloc _)
      rw [hV] at P0 ⊢
      obtain ⟨g, hg⟩ : ∃ g, wr.heap.size = g := ⟨_, rfl⟩
      rw [hg] at P0 ⊢
      clear hV hg c0 c1 c2 c3 c4 c5 c6 c7
      obtain ⟨E, hE⟩ : ∃ E, qE (bef 0 l k) (r1, r2, r3, r4, r5, r6, r7, r8) = E := ⟨_, rfl⟩
      have HE := Lib.hid hE
      have FL := Lib.hid (show ∀ W, Bel V W → Calls Tryz.prog 52 #[.slice (some ⟨b, q, none⟩) k c, .agg #[.int .i64 r1, .int .i64 r2, .int .i64 r3, .int .i64 r4, .int .i64 r5, .int .i64 r6, .int .u64 r7, .int .u64 r8]] W fun e w' => e = .returned (.int .i64 E) ∧ Bel W w' from fun W hb => by
        have := flaw (some ⟨b, q, none⟩) k c (l.take k) r1 r2 r3 r4 r5 r6 r7 r8 W ((HR.out.bel (BV.out.trans hb)).part hk) (by omega)
        rw [bef_take, HE.out] at this
        exact this)
      rw [hE] at HAT
      clear hE
      refine wp_region_held_drew (S := fun Vx => Bel V Vx) (by kernel_rfl) (Bel.refl _).drew (fun hS0 => ?_)
      obtain ⟨w6, hw6⟩ : ∃ w6, World.drew V = w6 := ⟨_, rfl⟩
      rw [hw6] at hS0 ⊢
      clear hw6
      refine wpAnyH_take (i := 0) (oi := { dst := some 17, op := .move (.tmp 0), type := 22, pos := "check.go:21", after := #[], guard := none }) (v := .slice (some ⟨b, q, none⟩) n c) rfl (by kernel_rfl) (by kernel_rfl) (by kernel_rfl) (fun _ _ _ h => h) (Or.inl ⟨by rfl, by intro w hSw; clear hSw; go_simp⟩) hS0 ?_
      try simp only [Act.put, List.setIfInBounds_toArray, List.set_cons_zero, List.set_cons_succ]
      refine wpAnyH_take (i := 1) (oi := { dst := some 18, op := .move (.tmp 4), type := 3, pos := "check.go:21", after := #[], guard := none }) (v := .int .i64 k) rfl (by kernel_rfl) (by kernel_rfl) (by kernel_rfl) (fun _ _ _ h => h) (Or.inl ⟨by rfl, by intro w hSw; clear hSw; go_simp⟩) hS0 ?_
      try simp only [Act.put, List.setIfInBounds_toArray, List.set_cons_zero, List.set_cons_succ]
      refine wpAnyH_take (i := 2) (oi := { dst := some 19, op := .slice 22 (.tmp 17) none (some (.tmp 18)) none, type := 22, pos := "check.go:21", after := #[{ on := 0, ground := .data }, { on := 1, ground := .data }], guard := none }) (v := .slice (some ⟨b, q, none⟩) k c) rfl (by kernel_rfl) (by kernel_rfl) (by kernel_rfl) (fun _ _ _ h => h) (Or.inl ⟨by rfl, by intro w hSw; clear hSw; go_simp⟩) hS0 ?_
      try simp only [Act.put, List.setIfInBounds_toArray, List.set_cons_zero, List.set_cons_succ]
      refine wpAnyH_take (i := 3) (oi := { dst := some 20, op := .load 53 (.tmp 5), type := 53, pos := "check.go:21", after := #[], guard := none }) (v := .agg #[.int .i64 r1, .int .i64 r2, .int .i64 r3, .int .i64 r4, .int .i64 r5, .int .i64 r6, .int .u64 r7, .int .u64 r8]) rfl (by kernel_rfl) (by kernel_rfl) (by kernel_rfl) (fun _ _ _ h => h) (yieldsIf_load_mid (by rfl) _ _ rfl _ _ rfl _ _ (fun w h => Pm.rng_bel (Pm.rngB (C := [.int .i64 r1, .int .i64 r2, .int .i64 r3, .int .i64 r4, .int .i64 r5, .int .i64 r6, .int .u64 r7, .int .u64 r8]) P0.out) h) Tryz.underlying53 rfl info_E) hS0 ?_
      try simp only [Act.put, List.setIfInBounds_toArray, List.set_cons_zero, List.set_cons_succ]
      refine wpAnyH_ready (rs := [4]) (by kernel_rfl) (by simp) ?_
      refine AllReadyH.cons (o := { dst := some 21, op := .call { callee := .value (.func 52), args := #[.tmp 19, .tmp 20], argTypes := #[22, 53] }, type := 25, pos := "check.go:21", after := #[{ on := 2, ground := .data }, { on := 3, ground := .data }], guard := none }) rfl (fun K hK => ?_) AllReadyH.nil
      go_simp
      refine (FL.out _ hS0).mono ?_
      rintro e v1 ⟨rfl, kb⟩
      go_wp2_with fail
      refine hK.out _ _ (hS0.trans kb) (fun hS1 => ?_)
      clear hK K
      try simp only [Act.put, List.setIfInBounds_toArray, List.set_cons_zero, List.set_cons_succ]
      refine wpAnyH_take (i := 5) (oi := { dst := some 6, op := .assign (.tmp 21), type := 25, pos := "check.go:21", after := #[{ on := 4, ground := .data }, { on := 4, ground := .chain }, { on := 0, ground := .phase }, { on := 1, ground := .phase }, { on := 2, ground := .phase }, { on := 3, ground := .phase }, { on := 4, ground := .phase }], guard := none }) (v := .int .i64 E) rfl (by kernel_rfl) (by kernel_rfl) (by kernel_rfl) (fun _ _ _ h => h) (Or.inl ⟨by rfl, by intro w hSw; clear hSw; go_simp⟩) hS1 ?_
      try simp only [Act.put, List.setIfInBounds_toArray, List.set_cons_zero, List.set_cons_succ]
      refine wpAnyH_done (by kernel_rfl) ?_ _
      have KX := Lib.hid (BV.out.trans hS1)
      clear hS1 FL P0 BV
      by_cases h0 : E = 0
      · have h0b : (E != 0) = false := by rw [h0]; rfl
        have HZ := Lib.hid (show ∀ (j : Nat) (x : E8), j < k + 1 → l[j]? = some x → qE (bef 0 l j) x = 0 from fun j x hj hx => by
          rcases Nat.lt_or_ge j k with h' | h'
          · exact hz.out j x h' hx
          · obtain rfl : j = k := by omega
            have e := HRK.out.symm.trans hx
            injection e with e
            rw [← e, HE.out, h0])
        clear h0
        go_wp2_with fail
        go_roundw
        case rel => exact ⟨k + 1, by omega, by go_num, rfl, rfl, HZ, KX⟩
        case measure => simp [intOf]; omega
      · have h0b : (E != 0) = true := by rw [bne_iff_ne]; exact h0
        have hr := HAT.out h0
        subst hr
        clear h0
        go_wp2_with fail
        (try rw [Exit.noGoto_ret])
        go_ret2
        exact ⟨rfl, KX.out⟩
    · obtain rfl : k = n := by omega
      have hlt3 : ¬ (k : Int) < k := by omega
      have hr := HCE.out (fun j x hx => hz.out j x (by have := (List.getElem?_eq_some_iff.1 hx).1; have := HL.out; omega) hx)
      have BA := Lib.hid (balances A k c l wr (HR.out.bel hh.out) hn HW.out)
      have HT := Lib.hid (cap_big (s := tot l))
      have hkk := hh
      obtain ⟨t, ht⟩ : ∃ t, cap (tot l) = t := ⟨_, rfl⟩
      rw [ht] at BA HT
      clear ht HCA hz hh
      by_cases hb : 4611686018427387904 < t
      · rw [if_pos (HT.out.1 hb)] at hr
        subst hr
        go_wp2_with fail
        refine BA.out.mono ?_
        rintro e w1 ⟨rfl, kb⟩
        have KX := Lib.hid (hkk.out.trans kb)
        clear kb BA
        go_wp2_with fail
        (try rw [Exit.noGoto_ret])
        go_ret2
        exact ⟨rfl, KX.out⟩
      · rw [if_neg (fun h => hb (HT.out.2 h))] at hr
        subst hr
        go_wp2_with fail
        refine BA.out.mono ?_
        rintro e w1 ⟨rfl, kb⟩
        have KX := Lib.hid (hkk.out.trans kb)
        clear kb BA
        go_wp2_with fail
        (try rw [Exit.noGoto_ret])
        go_ret2
        exact ⟨rfl, KX.out⟩
end Qu
end Go.Proofs.YtcefjigbaglmeaaGreat
