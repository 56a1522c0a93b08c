/-
  Texts of this claim, put together: BkG, BkS. What each one says, and under which conditions, stands ahead of it.
-/
import Derived.Test.YthdcgkikhindiaaBH

section
/-
  The law's some and near. Conditions: the numbers are of their kinds.
-/
namespace Go.Proofs.Ythdcgkikhindiaa
open Go.RowKit Go.Shelf
set_option linter.unusedVariables false
namespace Bk
open Pm

/-- One of the numbers from 0 on below n, by any number. -/
theorem pick (x n : Int) (w : World) (x0 : -9223372036854775808 ≤ x) (x1 : x ≤ 9223372036854775807) (n0 : 0 < n) (n1 : n ≤ 4611686018427387904) :
    Calls Try.prog 71 #[.int .i64 x, .int .i64 n] w fun e w' => e = .returned (.int .i64 (x % n)) ∧ w = w' := by
  have t0 := Int.emod_nonneg x (b := n) (by omega)
  have t1 := Int.emod_lt_of_pos x n0
  have hb : (x.tmod n = x % n ∨ (x.tmod n < 0 ∧ x.tmod n + n = x % n)) ∧ -n < x.tmod n ∧ x.tmod n < n := by
    rw [Int.tmod_eq_emod]
    split <;> rename_i h
    · exact ⟨.inl (by omega), by omega, by omega⟩
    · have hne : x % n ≠ 0 := fun e => h (.inr (Int.dvd_of_emod_eq_zero e))
      exact ⟨.inr ⟨by omega, by omega⟩, by omega, by omega⟩
  obtain ⟨ht, b0⟩ := hb
  obtain ⟨T, hT⟩ : ∃ T, x.tmod n = T := ⟨_, rfl⟩
  have hw : IntKind.i64.wrap T = T := IntWalk.i64_in _ (by omega)
  rw [hT] at ht b0
  obtain ⟨E, hE⟩ : ∃ E, x % n = E := ⟨_, rfl⟩
  rw [hE] at ht t0 t1 ⊢
  clear hE
  rcases ht with h | ⟨h1, h2⟩
  · subst h
    go_enter Try.func71, Try.ntmps71
    go_wp2
    go_ret
    exact ⟨rfl, rfl⟩
  · have H2 := Lib.hid h2
    clear h2
    go_enter Try.func71, Try.ntmps71
    go_wp2
    go_ret
    exact ⟨by rw [← H2.out]; rfl, rfl⟩

structure ActB (a f t m : Int) : Prop where
  a0 : -9223372036854775808 ≤ a
  a1 : a ≤ 9223372036854775807
  f0 : -9223372036854775808 ≤ f
  f1 : f ≤ 9223372036854775807
  t0 : -9223372036854775808 ≤ t
  t1 : t ≤ 9223372036854775807
  m0 : 0 ≤ m
  m1 : m ≤ 18446744073709551615
/-- A move whose numbers are near. -/
def Near (a m : Int) : Prop := 0 ≤ a ∧ a ≤ 4 ∧ 0 ≤ m ∧ m ≤ 18446744073709551615

set_option maxRecDepth 10000 in
set_option maxHeartbeats 4000000 in
theorem near (a f t m : Int) (Y : List Value) (zs ps : List Int) (w : World) (h : BV w Y zs ps) (hb : ActB a f t m) :
    Calls Try.prog 39 #[.agg Y.toArray, actV a f t m] w fun e w' => ∃ a' f' t' m', e = .returned (actV a' f' t' m') ∧ Near a' m' ∧ Kk.Bel w w' := by
  obtain ⟨A, c, eY, hs, hg⟩ := id h
  obtain ⟨W0, hW0⟩ : ∃ W0, w.alloc (.cells Y.toArray 26) = W0 := ⟨_, rfl⟩
  obtain ⟨W1, hW1⟩ : ∃ W1, W0.alloc (.cells #[.int .i64 a, .int .i64 f, .int .i64 t, .int .u64 m] 41) = W1 := ⟨_, rfl⟩
  obtain ⟨W2, hW2⟩ : ∃ W2, W1.alloc (.cells #[.int .i64 0, .int .i64 0, .int .i64 0, .int .u64 0] 41) = W2 := ⟨_, rfl⟩
  obtain ⟨p, hp⟩ : ∃ p, w.heap.size = p := ⟨_, rfl⟩
  have hs0 : W0.heap.size = p + 1 := by rw [← hW0, ← hp, World.size_alloc]
  have hs1 : W1.heap.size = p + 2 := by rw [← hW1, World.size_alloc, hs0]
  have B1 := Lib.hid (show Kk.Bel w W1 by rw [← hW1, ← hW0]; exact ((Kk.Bel.refl w).alloc _).alloc _)
  have B2 := Lib.hid (show Kk.Bel w W2 by rw [← hW2]; exact B1.out.alloc _)
  have r2 : W2.rangeAt p 0 Y := by rw [← hW2, ← hW1, ← hp, ← hW0]; exact rngB (((Kk.Blk.new w _ _).alloc _).alloc _)
  have hcell : W2.cell? ⟨p, 0, none⟩ = some (.slice A zs.length c) := by rw [eY] at r2; exact bk_slice r2
  have A2 := Lib.hid (show Kk.Blk W2 (p + 1) #[.int .i64 a, .int .i64 f, .int .i64 t, .int .u64 m] 41 by rw [← hW2, ← hW1, ← hs0]; exact (Kk.Blk.new W0 _ _).alloc _)
  have Q2 := Lib.hid (show Kk.Blk W2 (p + 2) [.int .i64 0, .int .i64 0, .int .i64 0, .int .u64 0].toArray 41 by rw [← hW2, ← hs1]; exact Kk.Blk.new W1 _ _)
  have HP := Lib.hid hp
  have HW0 := Lib.hid hW0
  have HW1 := Lib.hid hW1
  have HW2 := Lib.hid hW2
  have HSZ := Lib.hid hs1
  have hzl : zs.length ≤ 1000000 := hg.2.2.2
  have HB := Lib.hid hb
  obtain ⟨n, hn⟩ : ∃ n : Nat, n = zs.length := ⟨_, rfl⟩
  rw [← hn] at hcell hzl
  clear hW0 hW1 hW2 hs0 hs1 r2 hs hg h hp eY hb hn
  go_enter Try.func39, Try.ntmps39
  go_upto_region 1 with fail
  rw [HW0.out, HP.out, HW1.out, HW2.out]
  go_upto_region 2 with fail
  obtain ⟨k, hk⟩ : ∃ k, max (n : Int) 4 + 1 = k := ⟨_, rfl⟩
  rw [hk]
  have hk1 : 0 < k ∧ k ≤ 4611686018427387904 := by omega
  have P1 := Lib.hid (fun V => pick a 5 V HB.out.a0 HB.out.a1 (by omega) (by omega))
  have P2 := Lib.hid (fun V => pick f k V HB.out.f0 HB.out.f1 hk1.1 hk1.2)
  have P3 := Lib.hid (fun V => pick t k V HB.out.t0 HB.out.t1 hk1.1 hk1.2)
  have hnear : Near (a % 5) (m % 2199023255552) := ⟨by omega, by omega, by omega, by omega⟩
  have hmod : m.tmod 2199023255552 = m % 2199023255552 := Int.tmod_eq_emod_of_nonneg HB.out.m0
  obtain ⟨a', ha'⟩ : ∃ x, a % 5 = x := ⟨_, rfl⟩
  obtain ⟨f', hf'⟩ : ∃ x, f % k = x := ⟨_, rfl⟩
  obtain ⟨t', ht'⟩ : ∃ x, t % k = x := ⟨_, rfl⟩
  obtain ⟨m', hm'⟩ : ∃ x, m % 2199023255552 = x := ⟨_, rfl⟩
  rw [ha'] at P1 hnear
  rw [hf'] at P2
  rw [ht'] at P3
  rw [hm'] at hnear hmod
  have HN := Lib.hid hnear
  clear hk hk1 hnear ha' hf' ht' hm'
  refine wp_region_held_drew (S := fun V => Kk.Bel W1 V ∧ Kk.Blk V (p + 1) #[.int .i64 a, .int .i64 f, .int .i64 t, .int .u64 m] 41) (by kernel_rfl) ⟨by rw [← HW2.out]; exact ((Kk.Bel.refl W1).alloc _).drew, A2.out.bel (Kk.Bel.refl _).drew⟩ (fun hS0 => ?_)
  have Q3 := Lib.hid (Q2.out.bel (Kk.Bel.refl W2).drew)
  have B3 := Lib.hid (B2.out.drew)
  obtain ⟨w6, hw6⟩ : ∃ w6, World.drew W2 = w6 := ⟨_, rfl⟩
  rw [hw6] at hS0 Q3 B3 ⊢
  clear hw6 Q2 B2 A2 hcell
  refine wpAnyH_take (i := 0) (oi := { dst := some 11, op := .fieldAddr 41 (.tmp 3) 0, type := 0, pos := "outright.go:80", after := #[], guard := none }) (v := .pointer (some ⟨p + 1, 0, none⟩)) rfl (by kernel_rfl) (by kernel_rfl) (by kernel_rfl) (fun _ _ _ h => h) (Or.inl ⟨by rfl, by intro w hSw; clear hSw; go_simp⟩) hS0 ?_
  try simp only [Act.put, List.setIfInBounds_toArray, List.set_cons_zero, List.set_cons_succ]
  refine wpAnyH_take (i := 1) (oi := { dst := some 12, op := .load 3 (.tmp 11), type := 3, pos := "outright.go:80", after := #[{ on := 0, ground := .data }], guard := none }) (v := .int .i64 a) rfl (by kernel_rfl) (by kernel_rfl) (by kernel_rfl) (fun _ _ _ h => h) (Or.inl ⟨by rfl, by intro w h; have hcell := (h.2.cell 0 rfl); clear h; go_simp⟩) hS0 ?_
  try simp only [Act.put, List.setIfInBounds_toArray, List.set_cons_zero, List.set_cons_succ]
  refine wpAnyH_take (i := 3) (oi := { dst := some 14, op := .fieldAddr 41 (.tmp 3) 1, type := 0, pos := "outright.go:80", after := #[], guard := none }) (v := .pointer (some ⟨p + 1, 1, none⟩)) rfl (by kernel_rfl) (by kernel_rfl) (by kernel_rfl) (fun _ _ _ h => h) (Or.inl ⟨by rfl, by intro w hSw; clear hSw; go_simp⟩) hS0 ?_
  try simp only [Act.put, List.setIfInBounds_toArray, List.set_cons_zero, List.set_cons_succ]
  refine wpAnyH_take (i := 4) (oi := { dst := some 15, op := .load 3 (.tmp 14), type := 3, pos := "outright.go:80", after := #[{ on := 3, ground := .data }], guard := none }) (v := .int .i64 f) rfl (by kernel_rfl) (by kernel_rfl) (by kernel_rfl) (fun _ _ _ h => h) (Or.inl ⟨by rfl, by intro w h; have hcell := (h.2.cell 1 rfl); clear h; go_simp⟩) hS0 ?_
  try simp only [Act.put, List.setIfInBounds_toArray, List.set_cons_zero, List.set_cons_succ]
  refine wpAnyH_take (i := 5) (oi := { dst := some 16, op := .move (.tmp 5), type := 3, pos := "outright.go:80", after := #[], guard := none }) (v := .int .i64 k) rfl (by kernel_rfl) (by kernel_rfl) (by kernel_rfl) (fun _ _ _ h => h) (Or.inl ⟨by rfl, by intro w hSw; clear hSw; go_simp⟩) hS0 ?_
  try simp only [Act.put, List.setIfInBounds_toArray, List.set_cons_zero, List.set_cons_succ]
  refine wpAnyH_take (i := 7) (oi := { dst := some 18, op := .fieldAddr 41 (.tmp 3) 2, type := 0, pos := "outright.go:80", after := #[], guard := none }) (v := .pointer (some ⟨p + 1, 2, none⟩)) rfl (by kernel_rfl) (by kernel_rfl) (by kernel_rfl) (fun _ _ _ h => h) (Or.inl ⟨by rfl, by intro w hSw; clear hSw; go_simp⟩) hS0 ?_
  try simp only [Act.put, List.setIfInBounds_toArray, List.set_cons_zero, List.set_cons_succ]
  refine wpAnyH_take (i := 8) (oi := { dst := some 19, op := .load 3 (.tmp 18), type := 3, pos := "outright.go:80", after := #[{ on := 7, ground := .data }], guard := none }) (v := .int .i64 t) rfl (by kernel_rfl) (by kernel_rfl) (by kernel_rfl) (fun _ _ _ h => h) (Or.inl ⟨by rfl, by intro w h; have hcell := (h.2.cell 2 rfl); clear h; go_simp⟩) hS0 ?_
  try simp only [Act.put, List.setIfInBounds_toArray, List.set_cons_zero, List.set_cons_succ]
  refine wpAnyH_take (i := 9) (oi := { dst := some 20, op := .move (.tmp 5), type := 3, pos := "outright.go:80", after := #[], guard := none }) (v := .int .i64 k) rfl (by kernel_rfl) (by kernel_rfl) (by kernel_rfl) (fun _ _ _ h => h) (Or.inl ⟨by rfl, by intro w hSw; clear hSw; go_simp⟩) hS0 ?_
  try simp only [Act.put, List.setIfInBounds_toArray, List.set_cons_zero, List.set_cons_succ]
  refine wpAnyH_take (i := 11) (oi := { dst := some 22, op := .fieldAddr 41 (.tmp 3) 3, type := 0, pos := "outright.go:80", after := #[], guard := none }) (v := .pointer (some ⟨p + 1, 3, none⟩)) rfl (by kernel_rfl) (by kernel_rfl) (by kernel_rfl) (fun _ _ _ h => h) (Or.inl ⟨by rfl, by intro w hSw; clear hSw; go_simp⟩) hS0 ?_
  try simp only [Act.put, List.setIfInBounds_toArray, List.set_cons_zero, List.set_cons_succ]
  refine wpAnyH_take (i := 12) (oi := { dst := some 23, op := .load 23 (.tmp 22), type := 23, pos := "outright.go:80", after := #[{ on := 11, ground := .data }], guard := none }) (v := .int .u64 m) rfl (by kernel_rfl) (by kernel_rfl) (by kernel_rfl) (fun _ _ _ h => h) (Or.inl ⟨by rfl, by intro w h; have hcell := (h.2.cell 3 rfl); clear h; go_simp⟩) hS0 ?_
  try simp only [Act.put, List.setIfInBounds_toArray, List.set_cons_zero, List.set_cons_succ]
  refine wpAnyH_take (i := 13) (oi := { dst := some 24, op := .binOp .rem 23 (.tmp 23) (.const (Value.int IntKind.u64 2199023255552)) 23, type := 23, pos := "outright.go:80", after := #[{ on := 12, ground := .data }], guard := none }) (v := .int .u64 m') rfl (by kernel_rfl) (by kernel_rfl) (by kernel_rfl) (fun _ _ _ h => h) (Or.inl ⟨by rfl, by intro w hSw; clear hSw; go_simp⟩) hS0 ?_
  try simp only [Act.put, List.setIfInBounds_toArray, List.set_cons_zero, List.set_cons_succ]
  refine wpAnyH_ready (rs := [2]) (by kernel_rfl) (by simp) ?_
  refine AllReadyH.cons (o := { dst := some 13, op := .call { callee := .value (.func 71), args := #[.tmp 12, .const (Value.int IntKind.i64 5)], argTypes := #[3, 3] }, type := 3, pos := "outright.go:80", after := #[{ on := 1, ground := .data }], guard := none }) rfl (fun K hK => ?_) AllReadyH.nil
  go_simp
  refine (P1.out w6).mono ?_
  rintro e v1 ⟨rfl, rfl⟩
  go_wp2_with fail
  refine hK.out _ _ (hS0) (fun hS1 => ?_)
  clear hK K
  try simp only [Act.put, List.setIfInBounds_toArray, List.set_cons_zero, List.set_cons_succ]
  refine wpAnyH_ready (rs := [6]) (by kernel_rfl) (by simp) ?_
  refine AllReadyH.cons (o := { dst := some 17, op := .call { callee := .value (.func 71), args := #[.tmp 15, .tmp 16], argTypes := #[3, 3] }, type := 3, pos := "outright.go:80", after := #[{ on := 4, ground := .data }, { on := 5, ground := .data }, { on := 2, ground := .chain }], guard := none }) rfl (fun K hK => ?_) AllReadyH.nil
  go_simp
  refine (P2.out w6).mono ?_
  rintro e v2 ⟨rfl, rfl⟩
  go_wp2_with fail
  refine hK.out _ _ (hS1) (fun hS2 => ?_)
  clear hK K
  try simp only [Act.put, List.setIfInBounds_toArray, List.set_cons_zero, List.set_cons_succ]
  refine wpAnyH_ready (rs := [10]) (by kernel_rfl) (by simp) ?_
  refine AllReadyH.cons (o := { dst := some 21, op := .call { callee := .value (.func 71), args := #[.tmp 19, .tmp 20], argTypes := #[3, 3] }, type := 3, pos := "outright.go:80", after := #[{ on := 8, ground := .data }, { on := 9, ground := .data }, { on := 6, ground := .chain }], guard := none }) rfl (fun K hK => ?_) AllReadyH.nil
  go_simp
  refine (P3.out w6).mono ?_
  rintro e v3 ⟨rfl, rfl⟩
  go_wp2_with fail
  refine hK.out _ _ (hS2) (fun hS3 => ?_)
  clear hK K
  try simp only [Act.put, List.setIfInBounds_toArray, List.set_cons_zero, List.set_cons_succ]
  refine wpAnyH_take (i := 14) (oi := { dst := some 25, op := .build 41 #[(0, .tmp 13), (1, .tmp 17), (2, .tmp 21), (3, .tmp 24)], type := 41, pos := "outright.go:80", after := #[{ on := 2, ground := .data }, { on := 6, ground := .data }, { on := 10, ground := .data }, { on := 13, ground := .data }], guard := none }) (v := .agg #[.int .i64 a', .int .i64 f', .int .i64 t', .int .u64 m']) rfl (by kernel_rfl) (by kernel_rfl) (by kernel_rfl) (fun _ _ _ h => h) (Or.inl ⟨by rfl, by intro w hSw; clear hSw; go_simp⟩) hS3 ?_
  try simp only [Act.put, List.setIfInBounds_toArray, List.set_cons_zero, List.set_cons_succ]
  refine wpAnyH_ready (rs := [15]) (by kernel_rfl) (by simp) ?_
  refine AllReadyH.cons (o := { dst := none, op := .store 41 (.tmp 4) (.tmp 25), type := 0, pos := "outright.go:80", after := #[{ on := 14, ground := .data }, { on := 10, ground := .chain }, { on := 0, ground := .phase }, { on := 1, ground := .phase }, { on := 2, ground := .phase }, { on := 3, ground := .phase }, { on := 4, ground := .phase }, { on := 5, ground := .phase }, { on := 6, ground := .phase }, { on := 7, ground := .phase }, { on := 8, ground := .phase }, { on := 9, ground := .phase }, { on := 10, ground := .phase }, { on := 11, ground := .phase }, { on := 12, ground := .phase }, { on := 13, ground := .phase }, { on := 14, ground := .phase }], guard := none }) rfl (fun K hK => ?_) AllReadyH.nil
  rw [if_pos (by rfl)]
  have I4 := (show (Try.prog.info? 41).map (·.size) = some (#[.int .i64 a', .int .i64 f', .int .i64 t', .int .u64 m'] : Array Value).size by kernel_rfl)
  have O4 : (#[.int .i64 a', .int .i64 f', .int .i64 t', .int .u64 m'] : Array Value).all (·.oneCell') = true := by simp; exact ⟨rfl, rfl, rfl, rfl⟩
  refine wp_store_mid 41 (.tmp 4) (.tmp 25) rfl (p + 2) 0 #[.int .i64 a', .int .i64 f', .int .i64 t', .int .u64 m'] rfl rfl (bthere Q3.out 0 _ (Nat.le_refl 4)) I4 O4 ?_
  have hSE := And.intro (bel_setCells hS3.1 (g := p + 2) (by rw [HSZ.out]; exact Nat.le_refl _) 0 [.int .i64 a', .int .i64 f', .int .i64 t', .int .u64 m']) (hS3.2.kep (kep_setCells (p + 2) [.int .i64 a', .int .i64 f', .int .i64 t', .int .u64 m'] 0 w6) (by omega))
  have QE : Kk.Blk (World.setCells w6 (p + 2) 0 [.int .i64 a', .int .i64 f', .int .i64 t', .int .u64 m']) (p + 2) [.int .i64 a', .int .i64 f', .int .i64 t', .int .u64 m'].toArray 41 := bwhole Q3.out (by rfl)
  have BE := bel_setCells B3.out (g := p + 2) (by rw [HP.out]; omega) 0 [.int .i64 a', .int .i64 f', .int .i64 t', .int .u64 m']
  refine hK.out _ _ hSE (fun _ => ?_)
  clear hK K
  refine wpAnyH_done (by kernel_rfl) ?_ _
  go_wp2_with fail
  exact bodyPost_ret (res_c Try.results39 _ _ ⟨p + 2, 0, none⟩ (actV a' f' t' m') rfl (load_b QE Try.underlying41 rfl (by kernel_rfl))) rfl ⟨a', f', t', m', rfl, HN.out, BE⟩
end Bk
end Go.Proofs.Ythdcgkikhindiaa
end

section
/-
  The law's some: a bank by numbers. Conditions: the numbers are words.
-/
namespace Go.Proofs.Ythdcgkikhindiaa
open Go.RowKit Go.Shelf
set_option linter.unusedVariables false
namespace Bk
open Pm

theorem good_of_chk {zs : List Int} (hz : Words zs) (h : chk zs [0, 0, 0, 0] = 0) : Good zs [0, 0, 0, 0] := ⟨hz, words_zero, rfl, by have := (chk_ok h).2.1; omega⟩

set_option maxRecDepth 10000 in
set_option maxHeartbeats 4000000 in
theorem some_ (A : Option Addr) (n c : Nat) (zs : List Int) (w : World) (hi : SU w A n c zs) (hn : n ≤ 9223372036854775807) (hz : Words zs) :
    Calls Try.prog 38 #[.slice A n c] w fun e w' => ∃ Y Z, e = .returned (.agg Y.toArray) ∧ NB w w' Y Z [0, 0, 0, 0] ∧ chk Z [0, 0, 0, 0] = 0 := by
  obtain ⟨W0, hW0⟩ : ∃ W0, w.alloc (.cells ZB 26) = W0 := ⟨_, rfl⟩
  obtain ⟨r, hr0⟩ : ∃ r, w.heap.size = r := ⟨_, rfl⟩
  have B0 := Lib.hid (show Kk.Bel w W0 by rw [← hW0]; exact (Kk.Bel.refl w).alloc _)
  have Q0 := Lib.hid (show Kk.Blk W0 r [.slice none 0 0, .int .u64 0, .int .u64 0, .int .u64 0, .int .u64 0].toArray 26 by rw [← hW0, ← hr0]; exact Kk.Blk.new w _ _)
  have HW0 := Lib.hid (show w.alloc (.cells #[.slice none 0 0, .int .u64 0, .int .u64 0, .int .u64 0, .int .u64 0] 26) = W0 from hW0)
  have HR := Lib.hid hr0
  have ZS := Lib.hid (fun V (h : Kk.Bel W0 V) => (hi.bel B0.out).bel h)
  have HZ := Lib.hid hz
  have uB := Try.underlying26
  clear hi hz hW0 hr0
  go_enter Try.func38, Try.ntmps38
  go_upto_region 1 with fail
  rw [HW0.out, HR.out]
  go_wp2_with fail
  go_loopw [3, 4] (fun v i wr => ∃ (k : Nat) (Z : List Int), i = .int .i64 k ∧ k ≤ n ∧ k ≤ 8 ∧ wr.ownsRow W0.heap.size 23 1 v k (Z.map (Value.int .u64)) ∧ Words Z ∧ Kk.Bel W0 wr) (fun _ i _ => 8 - (intOf i).toNat)
  case atStart => exact ⟨0, [], rfl, Nat.zero_le _, Nat.zero_le _, ⟨rfl, .inl ⟨rfl, rfl⟩⟩, words_nil, Kk.Bel.refl _⟩
  case round =>
    rename_i v
    obtain ⟨k, Z, rfl, hk, hk8, hown, hwz, hb⟩ := hrel
    have HO := Lib.hid hown
    have HWZ := Lib.hid hwz
    have KB := Lib.hid hb
    clear hown hwz hb
    by_cases hlt : k < n
    · have hlt2 : (k : Int) < n := by omega
      by_cases h8 : k < 8
      · have h82 : (k : Int) < 8 := by omega
        obtain ⟨g, o, rfl, hg, hcell⟩ := (ZS.out wr KB.out).ints.cell hlt
        obtain ⟨x0, x1⟩ := HZ.out k
        obtain ⟨x, hx⟩ : ∃ x, zs.getD k 0 = x := ⟨_, rfl⟩
        rw [hx] at hcell x0 x1
        obtain ⟨y, hy⟩ : ∃ y, x % 1099511627776 = y := ⟨_, rfl⟩
        have hmod : x.tmod 1099511627776 = y := by rw [Int.tmod_eq_emod_of_nonneg x0]; exact hy
        have hy1 := Lib.hid (show 0 ≤ y ∧ y ≤ 18446744073709551615 by omega)
        have L1 := Lib.hid (su_lit wr [y])
        have O1 := Lib.hid (Kk.owns_bel HO.out ((Kk.Bel.refl wr).alloc (.cells #[.int .u64 y] 23)))
        have BS := Lib.hid (show W0.heap.size ≤ (wr.alloc (.cells #[.int .u64 y] 23)).heap.size from Below.size (KB.out.alloc _))
        clear hx hy
        go_wp2_with (at_builtin; refine wpList_append_u rfl _ _ rfl W0.heap.size _ k _ rfl O1.out (some ⟨wr.heap.size, 0, none⟩) 1 1 [y] rfl L1.out (by omega) BS.out ?_; intro v' w9 hown' hgrow)
        refine ⟨⟨k + 1, Z ++ [y], by go_num, by omega, by omega, ?_, words_app HWZ.out (words_cons hy1.out.1 hy1.out.2 words_nil), (KB.out.alloc _).grown hgrow (fun j hj => (O1.out.lt j hj).1)⟩, ?_⟩
        · rw [List.map_append]
          exact hown'
        · simp [intOf]; omega
      · obtain rfl : k = 8 := by omega
        have hk8' : ¬ ((8 : Nat) : Int) < 8 := by omega
        have hk16 := hk8
        obtain ⟨A3, c3, rfl, hsu⟩ := su_of_own HO.out
        have hzl := hsu.len
        have CN := Lib.hid (newV A3 8 c3 Z wr hsu (by omega) HWZ.out)
        obtain ⟨q, hq⟩ : ∃ q, chk Z [0, 0, 0, 0] = q := ⟨_, rfl⟩
        rw [hq] at CN
        have HQ := Lib.hid hq
        clear hsu hq
        go_wp2_with fail
        refine CN.out.mono ?_
        rintro e w2 ⟨Y, rfl, hnb⟩
        have NN := Lib.hid (NB.after (B0.out.trans KB.out) hnb)
        have K2 := Lib.hid (KB.out.trans hnb.bel)
        have PT := Lib.hid (put_there w2 Y hnb.2.len)
        have PI := Lib.hid hnb.infoA
        have PO := Lib.hid hnb.one
        clear hnb CN
        go_upto_region 7 with ((with_reducible refine wpList_store_mid ?_ 26 (.tmp 5) (.tmp 28) ?_ (World.heap w2).size 0 Y.toArray ?_ ?_ PT.out PI.out PO.out ?_); rfl; rfl; rfl; rfl)
        have VY := Lib.hid (put_var NN.out (Kk.Bel.refl _))
        have K3 := Lib.hid (K2.out.trans (put_bel w2 Y))
        obtain ⟨b, hb⟩ : ∃ q, (World.heap w2).size = q := ⟨_, rfl⟩
        obtain ⟨w3, hw⟩ : ∃ v, (World.alloc w2 (.cells ZB 26)).setCells (World.heap w2).size 0 Y = v := ⟨_, rfl⟩
        have HRB := Lib.hid (show r < b by rw [← hb]; exact Nat.lt_of_lt_of_le Q0.out.lt (Below.size K2.out))
        rw [hw]
        rw [hw] at VY K3
        rw [hb] at VY ⊢
        clear hw hb PT PI PO NN K2
        by_cases hq0 : q = 0
        · subst hq0
          rw [show okZ 0 Z = Z from rfl] at VY
          have Q3 := Lib.hid (Q0.out.bel K3.out)
          have T3 := Lib.hid (blk_there Q3.out rfl VY.out.bv.len)
          have I3 := Lib.hid VY.out.nb.infoA
          have O3 := Lib.hid VY.out.nb.one
          have VE := Lib.hid (set_var (w0 := w) Q3.out rfl (by rw [HR.out]; exact Nat.le_refl _) VY.out.nb (Kk.Bel.refl _))
          go_wp2_with (first | ((with_reducible refine wpList_load_g ?_ 26 (.tmp 5) ?_ b 0 ?_ Y _ (Var.rng VY.out) uB ?_ (NB.info VY.out.nb) ?_); rfl; rfl; rfl; rfl) | ((with_reducible refine wpList_store_mid ?_ 26 (.tmp 2) (.tmp 37) ?_ r 0 Y.toArray ?_ ?_ T3.out I3.out O3.out ?_); rfl; rfl; rfl; rfl))
          exact bodyPost_ret (res_c Try.results38 _ _ ⟨r, 0, none⟩ (.agg Y.toArray) rfl VE.out.res) rfl ⟨Y, Z, rfl, VE.out.nb, HQ.out⟩
        · have hq1 : (q != 0) = true := by simpa using hq0
          have CM := Lib.hid (newV (some ⟨w3.heap.size, 0, none⟩) 2 2 [1000, 1000] (w3.alloc (.cells #[.int .u64 1000, .int .u64 1000] 23)) (lit2 w3 1000 1000) (by omega) (words_two (by decide) (by decide)))
          rw [show chk [1000, 1000] [0, 0, 0, 0] = 0 from rfl, show okZ 0 [1000, 1000] = [1000, 1000] from rfl] at CM
          go_wp2_with fail
          refine CM.out.mono ?_
          rintro e w4 ⟨X, rfl, hnb⟩
          have hk := Lib.hid (((Kk.Bel.refl w3).alloc (.cells #[.int .u64 1000, .int .u64 1000] 23)).trans hnb.bel)
          have VY4 := Lib.hid (VY.out.bel hk.out)
          have K4 := Lib.hid (K3.out.trans hk.out)
          have NX := Lib.hid hnb
          have TX := Lib.hid (VY4.out.there hnb.2.len)
          have IX := Lib.hid hnb.infoA
          have OX := Lib.hid hnb.one
          have VX := Lib.hid (VY4.out.set NX.out (B0.out.trans (K3.out.trans ((Kk.Bel.refl w3).alloc _))))
          have Q4 := Lib.hid ((Q0.out.bel K4.out).kep (kep_setCells b X 0 w4) (by have := HRB.out; omega))
          clear hnb CM hk
          go_upto_region 9 with ((with_reducible refine wpList_store_mid ?_ 26 (.tmp 5) (.tmp 35) ?_ b 0 X.toArray ?_ ?_ TX.out IX.out OX.out ?_); rfl; rfl; rfl; rfl)
          obtain ⟨w5, hw5⟩ : ∃ v, w4.setCells b 0 X = v := ⟨_, rfl⟩
          rw [hw5]
          rw [hw5] at VX Q4
          clear hw5 TX VY4
          have T5 := Lib.hid (blk_there Q4.out rfl VX.out.bv.len)
          have VE := Lib.hid (set_var (w0 := w) Q4.out rfl (by rw [HR.out]; exact Nat.le_refl _) VX.out.nb (Kk.Bel.refl _))
          go_wp2_with (first | ((with_reducible refine wpList_load_g ?_ 26 (.tmp 5) ?_ b 0 ?_ X _ (Var.rng VX.out) uB ?_ (NB.info VX.out.nb) ?_); rfl; rfl; rfl; rfl) | ((with_reducible refine wpList_store_mid ?_ 26 (.tmp 2) (.tmp 37) ?_ r 0 X.toArray ?_ ?_ T5.out IX.out OX.out ?_); rfl; rfl; rfl; rfl))
          exact bodyPost_ret (res_c Try.results38 _ _ ⟨r, 0, none⟩ (.agg X.toArray) rfl VE.out.res) rfl ⟨X, [1000, 1000], rfl, VE.out.nb, rfl⟩
    · obtain rfl : k = n := by omega
      have hlt2 : ¬ (k : Int) < k := by omega
      have hk16 := hk8
      obtain ⟨A3, c3, rfl, hsu⟩ := su_of_own HO.out
      have hzl := hsu.len
      have CN := Lib.hid (newV A3 k c3 Z wr hsu (by omega) HWZ.out)
      obtain ⟨q, hq⟩ : ∃ q, chk Z [0, 0, 0, 0] = q := ⟨_, rfl⟩
      rw [hq] at CN
      have HQ := Lib.hid hq
      clear hsu hq
      go_wp2_with fail
      refine CN.out.mono ?_
      rintro e w2 ⟨Y, rfl, hnb⟩
      have NN := Lib.hid (NB.after (B0.out.trans KB.out) hnb)
      have K2 := Lib.hid (KB.out.trans hnb.bel)
      have PT := Lib.hid (put_there w2 Y hnb.2.len)
      have PI := Lib.hid hnb.infoA
      have PO := Lib.hid hnb.one
      clear hnb CN
      go_upto_region 7 with ((with_reducible refine wpList_store_mid ?_ 26 (.tmp 5) (.tmp 28) ?_ (World.heap w2).size 0 Y.toArray ?_ ?_ PT.out PI.out PO.out ?_); rfl; rfl; rfl; rfl)
      have VY := Lib.hid (put_var NN.out (Kk.Bel.refl _))
      have K3 := Lib.hid (K2.out.trans (put_bel w2 Y))
      obtain ⟨b, hb⟩ : ∃ q, (World.heap w2).size = q := ⟨_, rfl⟩
      obtain ⟨w3, hw⟩ : ∃ v, (World.alloc w2 (.cells ZB 26)).setCells (World.heap w2).size 0 Y = v := ⟨_, rfl⟩
      have HRB := Lib.hid (show r < b by rw [← hb]; exact Nat.lt_of_lt_of_le Q0.out.lt (Below.size K2.out))
      rw [hw]
      rw [hw] at VY K3
      rw [hb] at VY ⊢
      clear hw hb PT PI PO NN K2
      by_cases hq0 : q = 0
      · subst hq0
        rw [show okZ 0 Z = Z from rfl] at VY
        have Q3 := Lib.hid (Q0.out.bel K3.out)
        have T3 := Lib.hid (blk_there Q3.out rfl VY.out.bv.len)
        have I3 := Lib.hid VY.out.nb.infoA
        have O3 := Lib.hid VY.out.nb.one
        have VE := Lib.hid (set_var (w0 := w) Q3.out rfl (by rw [HR.out]; exact Nat.le_refl _) VY.out.nb (Kk.Bel.refl _))
        go_wp2_with (first | ((with_reducible refine wpList_load_g ?_ 26 (.tmp 5) ?_ b 0 ?_ Y _ (Var.rng VY.out) uB ?_ (NB.info VY.out.nb) ?_); rfl; rfl; rfl; rfl) | ((with_reducible refine wpList_store_mid ?_ 26 (.tmp 2) (.tmp 37) ?_ r 0 Y.toArray ?_ ?_ T3.out I3.out O3.out ?_); rfl; rfl; rfl; rfl))
        exact bodyPost_ret (res_c Try.results38 _ _ ⟨r, 0, none⟩ (.agg Y.toArray) rfl VE.out.res) rfl ⟨Y, Z, rfl, VE.out.nb, HQ.out⟩
      · have hq1 : (q != 0) = true := by simpa using hq0
        have CM := Lib.hid (newV (some ⟨w3.heap.size, 0, none⟩) 2 2 [1000, 1000] (w3.alloc (.cells #[.int .u64 1000, .int .u64 1000] 23)) (lit2 w3 1000 1000) (by omega) (words_two (by decide) (by decide)))
        rw [show chk [1000, 1000] [0, 0, 0, 0] = 0 from rfl, show okZ 0 [1000, 1000] = [1000, 1000] from rfl] at CM
        go_wp2_with fail
        refine CM.out.mono ?_
        rintro e w4 ⟨X, rfl, hnb⟩
        have hk := Lib.hid (((Kk.Bel.refl w3).alloc (.cells #[.int .u64 1000, .int .u64 1000] 23)).trans hnb.bel)
        have VY4 := Lib.hid (VY.out.bel hk.out)
        have K4 := Lib.hid (K3.out.trans hk.out)
        have NX := Lib.hid hnb
        have TX := Lib.hid (VY4.out.there hnb.2.len)
        have IX := Lib.hid hnb.infoA
        have OX := Lib.hid hnb.one
        have VX := Lib.hid (VY4.out.set NX.out (B0.out.trans (K3.out.trans ((Kk.Bel.refl w3).alloc _))))
        have Q4 := Lib.hid ((Q0.out.bel K4.out).kep (kep_setCells b X 0 w4) (by have := HRB.out; omega))
        clear hnb CM hk
        go_upto_region 9 with ((with_reducible refine wpList_store_mid ?_ 26 (.tmp 5) (.tmp 35) ?_ b 0 X.toArray ?_ ?_ TX.out IX.out OX.out ?_); rfl; rfl; rfl; rfl)
        obtain ⟨w5, hw5⟩ : ∃ v, w4.setCells b 0 X = v := ⟨_, rfl⟩
        rw [hw5]
        rw [hw5] at VX Q4
        clear hw5 TX VY4
        have T5 := Lib.hid (blk_there Q4.out rfl VX.out.bv.len)
        have VE := Lib.hid (set_var (w0 := w) Q4.out rfl (by rw [HR.out]; exact Nat.le_refl _) VX.out.nb (Kk.Bel.refl _))
        go_wp2_with (first | ((with_reducible refine wpList_load_g ?_ 26 (.tmp 5) ?_ b 0 ?_ X _ (Var.rng VX.out) uB ?_ (NB.info VX.out.nb) ?_); rfl; rfl; rfl; rfl) | ((with_reducible refine wpList_store_mid ?_ 26 (.tmp 2) (.tmp 37) ?_ r 0 X.toArray ?_ ?_ T5.out IX.out OX.out ?_); rfl; rfl; rfl; rfl))
        exact bodyPost_ret (res_c Try.results38 _ _ ⟨r, 0, none⟩ (.agg X.toArray) rfl VE.out.res) rfl ⟨X, [1000, 1000], rfl, VE.out.nb, rfl⟩
end Bk
end Go.Proofs.Ythdcgkikhindiaa
end
