/-
  ShareKeeps: what is made of a pool that may be may be; tokens and shares come and go as told. Conditions: the numbers are words; the acts lie in memory.
-/
import Derived.Test.YtmfajljgcndgfaaSh14
import Derived.Test.YtmfajljgcndgfaaFixShares
namespace Go.Proofs.Ytmfajljgcndgfaa
open Go.RowKit Go.Shelf
set_option linter.unusedVariables false
namespace Sh
open Fix (partN partE)

theorem one2i (A B : Int) : (#[Value.int .i64 A, .int .u64 B] : Array Value).all (·.oneCell') = true := all_oneCell_toArray (cs := [.int .i64 A, .int .u64 B]) (by intro u hu; simp at hu; rcases hu with rfl | rfl <;> rfl)
/-- What is told of an act that was done. -/
def Told (k T S N A B C : Int) : Prop := (k = 0 ∧ A = T + N ∧ B = S + C ∧ N ≤ C) ∨ (k = 1 ∧ A = T - C ∧ B = S - N ∧ 0 < C ∧ C ≤ N ∧ C ≤ T ∧ N ≤ S) ∨ (k = 2 ∧ A = T - C ∧ 0 ≤ C ∧ C ≤ T ∧ (B = S ∨ (A = 0 ∧ B = 0 ∧ C = T)))
theorem told_of {k T S N : Int} (h : Ok T S) (n0 : 0 ≤ N) (hk : k = 0 ∨ k = 1 ∨ (k = 2 ∧ N ≤ 1000000000)) (he : dE k T S N = 0) :
    Ok (dT k T S N) (dS k T S N) ∧ Told k T S N (dT k T S N) (dS k T S N) (dN k T S N) := by
  rcases hk with rfl | rfl | ⟨rfl, n1⟩
  · obtain ⟨q1, q2, q3, q4⟩ := d0 T S N
    rw [q1] at he
    rw [q2, q3, q4]
    obtain ⟨e1, e2, e3⟩ := joi_yes he
    rw [e1, e2, e3]
    obtain ⟨g1, g2⟩ := join_keeps h n0 he
    exact ⟨g1, .inl ⟨rfl, rfl, rfl, g2⟩⟩
  · obtain ⟨q1, q2, q3, q4⟩ := d1 T S N
    rw [q1] at he
    rw [q2, q3, q4]
    obtain ⟨e1, e2, e3⟩ := lea_yes he
    rw [e1, e2, e3]
    obtain ⟨g1, g2, g3, g4, g5⟩ := leave_keeps h n0 he
    exact ⟨g1, .inr (.inl ⟨rfl, rfl, rfl, g2, g3, g4, g5⟩)⟩
  · obtain ⟨q1, q2, q3, q4⟩ := d2 T S N
    rw [q2, q3, q4]
    obtain ⟨_, e1, e2, e3, g1, g2, g3⟩ := cut_is h n0 n1
    rw [e1, e2, e3]
    refine ⟨g3, .inr (.inr ⟨rfl, rfl, g1, g2, ?_⟩)⟩
    unfold cq
    by_cases e : partN T N = T
    · rw [if_pos e]
      exact .inr ⟨by omega, rfl, e⟩
    · rw [if_neg e]
      exact .inl rfl

set_option maxRecDepth 10000 in
set_option maxHeartbeats 4000000 in
theorem keepsLaw (t s : Int) (A0 : Option Addr) (ln cap : Nat) (w : World) (t0 : 0 ≤ t) (t1 : t ≤ 18446744073709551615) (s0 : 0 ≤ s) (s1 : s ≤ 18446744073709551615) (hl : ln ≤ 9223372036854775807) (ha : Acts w A0 ln) :
    Calls Try.prog 6 #[.int .u64 t, .int .u64 s, .slice A0 ln cap] w fun r w' => r = .returned (.bool true) ∧ Bel w w' := by
  have KN := Lib.hid (fun W => known W)
  have OF := Lib.hid (fun W => of t s W t0 t1 s0 s1)
  have hok := ok_of (t := t) t0 s0 s1
  obtain ⟨T, hT⟩ : ∃ T, oT t = T := ⟨_, rfl⟩
  obtain ⟨S, hS⟩ : ∃ S, oS t s = S := ⟨_, rfl⟩
  rw [hT, hS] at OF hok
  clear hT hS t0 t1 s0 s1
  have OK := Lib.hid hok
  have HA := Lib.hid ha
  clear hok ha
  have K0 := Lib.hid (Bel.refl w)
  go_enter Try.func6, Try.ntmps6
  go_wp2_with fail
  refine (KN.out _).mono ?_
  rintro e w1 ⟨rfl, kb⟩
  have K1 := Lib.hid (K0.out.trans kb)
  clear kb
  by_cases h40 : 40 < ln
  · have h40' : (40 : Int) < (ln : Int) := by omega
    go_wp2_with fail
    go_ret
    exact ⟨rfl, K1.out⟩
  have h40' : (ln : Int) ≤ 40 := by omega
  go_wp2_with fail
  refine (OF.out _).mono ?_
  rintro e w2 ⟨rfl, kb⟩
  have K2 := Lib.hid (K1.out.trans kb)
  clear kb
  go_upto_region 5 with fail
  have Pp : PB ((w2).alloc (.cells #[.int .u64 T, .int .u64 S] 24)) (w2).heap.size T S := Kk.Blk.new _ _ _
  obtain ⟨p, hp⟩ : ∃ b, (w2).heap.size = b := ⟨_, rfl⟩
  obtain ⟨Xp, hXp⟩ : ∃ X, (w2).alloc (.cells #[.int .u64 T, .int .u64 S] 24) = X := ⟨_, rfl⟩
  have Dp : Bel w2 Xp := by rw [← hXp]; exact (Bel.refl _).alloc _
  have Zp := Lib.hid (show w.heap.size ≤ p by rw [← hp]; exact Below.size K2.out)
  rw [hXp, hp] at Pp
  rw [hXp, hp]
  have K3 := Lib.hid (K2.out.trans Dp)
  clear hp hXp Dp
  have P0 := Lib.hid Pp
  clear Pp
  go_wp2_with fail
  go_loopw [9] (fun s9 wr => ∃ (k : Nat) (X Y : Int), s9 = .int .i64 k ∧ k ≤ ln ∧ Hid (Ok X Y ∧ PB wr p X Y ∧ Bel w wr)) (fun s9 _ => ln - (intOf s9).toNat)
  case atStart => exact ⟨0, T, S, rfl, Nat.zero_le _, Lib.hid ⟨OK.out, P0.out, K3.out⟩⟩
  case round =>
    obtain ⟨i, X, Y, rfl, hk, hr⟩ := hrel
    obtain ⟨hXY, Pp, hB⟩ := hr.out
    have OX := Lib.hid hXY
    have KR := Lib.hid hB
    clear hr hXY hB
    by_cases hlt : i < ln
    · skip
      have hkl2 : (i : Int) < (ln : Int) := by omega
      have hkl0 : (0 : Int) ≤ (i : Int) := by omega
      obtain ⟨ab, ao, rfl, hltb, hacts⟩ := (HA.out.bel KR.out) (by omega)
      obtain ⟨f, x, hfx, hr⟩ := hacts i hlt
      clear hacts hltb
      have RA := Lib.hid (And.intro (show wr.cell? ⟨ab, ao + i * 2, none⟩ = some (.int .i64 f) from hr 0 _ rfl) (show wr.cell? ⟨ab, ao + i * 2 + 1, none⟩ = some (.int .u64 x) from hr 1 _ rfl))
      obtain ⟨f0, f1, x0, x1⟩ := hfx
      have PK := Lib.hid (fun W => pick f 3 W f0 f1 (by decide) (by decide))
      obtain ⟨k, hkk⟩ : ∃ k, f % 3 = k := ⟨_, rfl⟩
      rw [hkk] at PK
      have k0 : 0 ≤ k := by omega
      have k3 : k < 3 := by omega
      clear hr hkk f0 f1
      have PP := Lib.hid Pp
      clear Pp
      go_upto_region 8 with fail
      go_cut [10] (fun s10 wx => ∃ g : Nat, s10 = .pointer (some ⟨g, 0, none⟩) ∧ Hid (Bel wr wx ∧ AB wx g k x ∧ wr.heap.size ≤ g))
      case first =>
        refine wp_region_held_drew (S := fun V => Bel wr V) (by kernel_rfl) (Bel.refl _).drew (fun hS0 => ?_)
        obtain ⟨v0, hv0⟩ : ∃ v0, World.drew wr = v0 := ⟨_, rfl⟩
        rw [hv0] at hS0 ⊢
        clear hv0
        refine wpAnyH_take (i := 0) (oi := { dst := some 29, op := .move (.tmp 2), type := 25, pos := "outright.go:116", after := #[], guard := none }) (v := .slice (some ⟨ab, ao, none⟩) ln cap) rfl (by kernel_rfl) (by kernel_rfl) (by kernel_rfl) (fun _ _ _ h => h) (Or.inl ⟨by rfl, by intro w hSw; clear hSw; go_simp⟩) hS0 ?_
        try simp only [Act.put, List.setIfInBounds_toArray, List.set_cons_zero, List.set_cons_succ]
        refine wpAnyH_take (i := 1) (oi := { dst := some 30, op := .move (.tmp 9), type := 3, pos := "outright.go:116", after := #[], guard := none }) (v := .int .i64 i) rfl (by kernel_rfl) (by kernel_rfl) (by kernel_rfl) (fun _ _ _ h => h) (Or.inl ⟨by rfl, by intro w hSw; clear hSw; go_simp⟩) hS0 ?_
        try simp only [Act.put, List.setIfInBounds_toArray, List.set_cons_zero, List.set_cons_succ]
        refine wpAnyH_take (i := 2) (oi := { dst := some 31, op := .indexAddr 25 (.tmp 29) (.tmp 30), type := 0, pos := "outright.go:116", after := #[{ on := 0, ground := .data }, { on := 1, ground := .data }], guard := none }) (v := .pointer (some ⟨ab, ao + i * 2, none⟩)) rfl (by kernel_rfl) (by kernel_rfl) (by kernel_rfl) (fun _ _ _ h => h) (Or.inl ⟨by rfl, by intro w hSw; clear hSw; go_simp⟩) hS0 ?_
        try simp only [Act.put, List.setIfInBounds_toArray, List.set_cons_zero, List.set_cons_succ]
        refine wpAnyH_take (i := 3) (oi := { dst := some 32, op := .fieldAddr 34 (.tmp 31) 0, type := 0, pos := "outright.go:116", after := #[{ on := 2, ground := .data }], guard := none }) (v := .pointer (some ⟨ab, ao + i * 2, none⟩)) rfl (by kernel_rfl) (by kernel_rfl) (by kernel_rfl) (fun _ _ _ h => h) (Or.inl ⟨by rfl, by intro w hSw; clear hSw; go_simp⟩) hS0 ?_
        try simp only [Act.put, List.setIfInBounds_toArray, List.set_cons_zero, List.set_cons_succ]
        refine wpAnyH_take (i := 4) (oi := { dst := some 33, op := .load 3 (.tmp 32), type := 3, pos := "outright.go:116", after := #[{ on := 3, ground := .data }], guard := none }) (v := .int .i64 f) rfl (by kernel_rfl) (by kernel_rfl) (by kernel_rfl) (fun _ _ _ h => h) (Or.inl ⟨by rfl, by intro w h; have hcell := cell_bel RA.out.1 h; clear h; go_simp⟩) hS0 ?_
        try simp only [Act.put, List.setIfInBounds_toArray, List.set_cons_zero, List.set_cons_succ]
        refine wpAnyH_take (i := 6) (oi := { dst := some 35, op := .move (.tmp 2), type := 25, pos := "outright.go:116", after := #[], guard := none }) (v := .slice (some ⟨ab, ao, none⟩) ln cap) rfl (by kernel_rfl) (by kernel_rfl) (by kernel_rfl) (fun _ _ _ h => h) (Or.inl ⟨by rfl, by intro w hSw; clear hSw; go_simp⟩) hS0 ?_
        try simp only [Act.put, List.setIfInBounds_toArray, List.set_cons_zero, List.set_cons_succ]
        refine wpAnyH_take (i := 7) (oi := { dst := some 36, op := .move (.tmp 9), type := 3, pos := "outright.go:116", after := #[], guard := none }) (v := .int .i64 i) rfl (by kernel_rfl) (by kernel_rfl) (by kernel_rfl) (fun _ _ _ h => h) (Or.inl ⟨by rfl, by intro w hSw; clear hSw; go_simp⟩) hS0 ?_
        try simp only [Act.put, List.setIfInBounds_toArray, List.set_cons_zero, List.set_cons_succ]
        refine wpAnyH_take (i := 8) (oi := { dst := some 37, op := .indexAddr 25 (.tmp 35) (.tmp 36), type := 0, pos := "outright.go:116", after := #[{ on := 6, ground := .data }, { on := 7, ground := .data }], guard := none }) (v := .pointer (some ⟨ab, ao + i * 2, none⟩)) rfl (by kernel_rfl) (by kernel_rfl) (by kernel_rfl) (fun _ _ _ h => h) (Or.inl ⟨by rfl, by intro w hSw; clear hSw; go_simp⟩) hS0 ?_
        try simp only [Act.put, List.setIfInBounds_toArray, List.set_cons_zero, List.set_cons_succ]
        refine wpAnyH_take (i := 9) (oi := { dst := some 38, op := .fieldAddr 34 (.tmp 37) 1, type := 0, pos := "outright.go:116", after := #[{ on := 8, ground := .data }], guard := none }) (v := .pointer (some ⟨ab, ao + i * 2 + 1, none⟩)) rfl (by kernel_rfl) (by kernel_rfl) (by kernel_rfl) (fun _ _ _ h => h) (Or.inl ⟨by rfl, by intro w hSw; clear hSw; go_simp⟩) hS0 ?_
        try simp only [Act.put, List.setIfInBounds_toArray, List.set_cons_zero, List.set_cons_succ]
        refine wpAnyH_take (i := 10) (oi := { dst := some 39, op := .load 22 (.tmp 38), type := 22, pos := "outright.go:116", after := #[{ on := 9, ground := .data }], guard := none }) (v := .int .u64 x) rfl (by kernel_rfl) (by kernel_rfl) (by kernel_rfl) (fun _ _ _ h => h) (Or.inl ⟨by rfl, by intro w h; have hcell := cell_bel RA.out.2 h; clear h; go_simp⟩) hS0 ?_
        try simp only [Act.put, List.setIfInBounds_toArray, List.set_cons_zero, List.set_cons_succ]
        refine wpAnyH_ready (rs := [5, 12]) (by kernel_rfl) (by simp) ?_
        refine AllReadyH.cons (o := { dst := some 34, op := .call { callee := .value (.func 24), args := #[.tmp 33, .const (Value.int IntKind.i64 3)], argTypes := #[3, 3] }, type := 3, pos := "outright.go:116", after := #[{ on := 4, ground := .data }], guard := none }) rfl (fun K hK => ?_) (AllReadyH.cons (o := { dst := some 10, op := .alloc 34, type := 0, pos := "outright.go:116", after := #[], guard := none }) rfl (fun K hK => ?_) AllReadyH.nil)
        · skip
          go_simp
          refine (PK.out v0).mono ?_
          rintro e v1 ⟨rfl, rfl⟩
          go_wp2_with fail
          refine hK.out _ _ hS0 (fun _ => ?_)
          clear hK K
          try simp only [Act.put, List.setIfInBounds_toArray, List.set_cons_zero, List.set_cons_succ]
          refine wpAnyH_take (i := 11) (oi := { dst := some 40, op := .build 34 #[(0, .tmp 34), (1, .tmp 39)], type := 34, pos := "outright.go:116", after := #[{ on := 5, ground := .data }, { on := 10, ground := .data }], guard := none }) (v := aV k x) rfl (by kernel_rfl) (by kernel_rfl) (by kernel_rfl) (fun _ _ _ h => h) (Or.inl ⟨by rfl, by intro w hSw; clear hSw; go_simp⟩) hS0 ?_
          try simp only [Act.put, List.setIfInBounds_toArray, List.set_cons_zero, List.set_cons_succ]
          refine wpAnyH_ready (rs := [12]) (by kernel_rfl) (by simp) ?_
          refine AllReadyH.cons (o := { dst := some 10, op := .alloc 34, type := 0, pos := "outright.go:116", after := #[], guard := none }) rfl (fun K hK => ?_) AllReadyH.nil
          go_simp
          have hS2 := hS0.trans ((Bel.refl v0).alloc (.cells #[.int .i64 0, .int .u64 0] 34))
          refine hK.out _ _ hS2 (fun _ => ?_)
          clear hK K
          try simp only [Act.put, List.setIfInBounds_toArray, List.set_cons_zero, List.set_cons_succ]
          have G2 : AB (World.alloc v0 (.cells #[.int .i64 0, .int .u64 0] 34)) (World.heap v0).size 0 0 := Kk.Blk.new _ _ _
          have hg0 := Below.size hS0
          obtain ⟨g, hg⟩ : ∃ g, (World.heap v0).size = g := ⟨_, rfl⟩
          obtain ⟨v2, hv⟩ : ∃ v, World.alloc v0 (.cells #[.int .i64 0, .int .u64 0] 34) = v := ⟨_, rfl⟩
          rw [hv] at hS2 G2 ⊢
          rw [hg] at G2 hg0 ⊢
          clear hg hv
          refine wpAnyH_ready (rs := [13]) (by kernel_rfl) (by simp) ?_
          refine AllReadyH.cons (o := { dst := none, op := .store 34 (.tmp 10) (.tmp 40), type := 0, pos := "outright.go:116", after := #[{ on := 12, ground := .data }, { on := 11, ground := .data }, { on := 5, ground := .chain }, { on := 0, ground := .phase }, { on := 1, ground := .phase }, { on := 2, ground := .phase }, { on := 3, ground := .phase }, { on := 4, ground := .phase }, { on := 5, ground := .phase }, { on := 6, ground := .phase }, { on := 7, ground := .phase }, { on := 8, ground := .phase }, { on := 9, ground := .phase }, { on := 10, ground := .phase }, { on := 11, ground := .phase }, { on := 12, ground := .phase }], guard := none }) rfl (fun K hK => ?_) AllReadyH.nil
          rw [if_pos (by rfl)]
          have hgS := Below.size hS2
          refine wp_store_mid 34 (.tmp 10) (.tmp 40) rfl g 0 #[.int .i64 k, .int .u64 x] rfl rfl (Pm.bthere G2 0 2 (by simp)) (by kernel_rfl) (one2i _ _) ?_
          have hSE := Pm.bel_setCells hS2 hg0 0 [.int .i64 k, .int .u64 x]
          have VX : AB _ g k x := Pm.bwhole (vs := [.int .i64 k, .int .u64 x]) G2 rfl
          have HH := Lib.hid (And.intro hSE (And.intro VX hg0))
          clear VX
          refine hK.out _ _ hSE (fun _ => ?_)
          clear hK K
          try simp only [Act.put]
          refine wpAnyH_done (by kernel_rfl) ?_ _
          go_wp2_with fail
          go_meet
          exact ⟨g, rfl, Lib.hid ⟨HH.out.1, HH.out.2.1, HH.out.2.2⟩⟩
        · skip
          go_simp
          have hS3 := hS0.trans ((Bel.refl v0).alloc (.cells #[.int .i64 0, .int .u64 0] 34))
          refine hK.out _ _ hS3 (fun _ => ?_)
          clear hK K
          try simp only [Act.put, List.setIfInBounds_toArray, List.set_cons_zero, List.set_cons_succ]
          have G3 : AB (World.alloc v0 (.cells #[.int .i64 0, .int .u64 0] 34)) (World.heap v0).size 0 0 := Kk.Blk.new _ _ _
          have hg0 := Below.size hS0
          obtain ⟨g, hg⟩ : ∃ g, (World.heap v0).size = g := ⟨_, rfl⟩
          obtain ⟨v3, hv⟩ : ∃ v, World.alloc v0 (.cells #[.int .i64 0, .int .u64 0] 34) = v := ⟨_, rfl⟩
          rw [hv] at hS3 G3 ⊢
          rw [hg] at G3 hg0 ⊢
          clear hg hv
          refine wpAnyH_ready (rs := [5]) (by kernel_rfl) (by simp) ?_
          refine AllReadyH.cons (o := { dst := some 34, op := .call { callee := .value (.func 24), args := #[.tmp 33, .const (Value.int IntKind.i64 3)], argTypes := #[3, 3] }, type := 3, pos := "outright.go:116", after := #[{ on := 4, ground := .data }], guard := none }) rfl (fun K hK => ?_) AllReadyH.nil
          go_simp
          refine (PK.out v3).mono ?_
          rintro e v4 ⟨rfl, rfl⟩
          go_wp2_with fail
          refine hK.out _ _ hS3 (fun _ => ?_)
          clear hK K
          try simp only [Act.put, List.setIfInBounds_toArray, List.set_cons_zero, List.set_cons_succ]
          refine wpAnyH_take (i := 11) (oi := { dst := some 40, op := .build 34 #[(0, .tmp 34), (1, .tmp 39)], type := 34, pos := "outright.go:116", after := #[{ on := 5, ground := .data }, { on := 10, ground := .data }], guard := none }) (v := aV k x) rfl (by kernel_rfl) (by kernel_rfl) (by kernel_rfl) (fun _ _ _ h => h) (Or.inl ⟨by rfl, by intro w hSw; clear hSw; go_simp⟩) hS3 ?_
          try simp only [Act.put, List.setIfInBounds_toArray, List.set_cons_zero, List.set_cons_succ]
          refine wpAnyH_ready (rs := [13]) (by kernel_rfl) (by simp) ?_
          refine AllReadyH.cons (o := { dst := none, op := .store 34 (.tmp 10) (.tmp 40), type := 0, pos := "outright.go:116", after := #[{ on := 12, ground := .data }, { on := 11, ground := .data }, { on := 5, ground := .chain }, { on := 0, ground := .phase }, { on := 1, ground := .phase }, { on := 2, ground := .phase }, { on := 3, ground := .phase }, { on := 4, ground := .phase }, { on := 5, ground := .phase }, { on := 6, ground := .phase }, { on := 7, ground := .phase }, { on := 8, ground := .phase }, { on := 9, ground := .phase }, { on := 10, ground := .phase }, { on := 11, ground := .phase }, { on := 12, ground := .phase }], guard := none }) rfl (fun K hK => ?_) AllReadyH.nil
          rw [if_pos (by rfl)]
          have hgS := Below.size hS3
          refine wp_store_mid 34 (.tmp 10) (.tmp 40) rfl g 0 #[.int .i64 k, .int .u64 x] rfl rfl (Pm.bthere G3 0 2 (by simp)) (by kernel_rfl) (one2i _ _) ?_
          have hSE := Pm.bel_setCells hS3 hg0 0 [.int .i64 k, .int .u64 x]
          have VX : AB _ g k x := Pm.bwhole (vs := [.int .i64 k, .int .u64 x]) G3 rfl
          have HH := Lib.hid (And.intro hSE (And.intro VX hg0))
          clear VX
          refine hK.out _ _ hSE (fun _ => ?_)
          clear hK K
          try simp only [Act.put]
          refine wpAnyH_done (by kernel_rfl) ?_ _
          go_wp2_with fail
          go_meet
          exact ⟨g, rfl, Lib.hid ⟨HH.out.1, HH.out.2.1, HH.out.2.2⟩⟩
      case rest =>
        obtain ⟨y, rfl, hh⟩ := hcut
        obtain ⟨h1, Py, h3⟩ := hh.out
        have Pp := PP.out.bel h1
        have Lpy := Lib.hid (show p < y by have := PP.out.lt; omega)
        have Zy := Lib.hid (show w.heap.size ≤ y by have := Below.size KR.out; omega)
        have KC := Lib.hid (KR.out.trans h1)
        clear hh h1 h3 RA PK PP
        obtain ⟨X0, X1, XY, Y1, XZ⟩ := OX.out
        by_cases hk0 : k = 0
        · subst hk0
          have TW := Lib.hid (fun h => told_of (k := 0) (N := x) OX.out x0 (.inl rfl) h)
          have DN := Lib.hid (fun h => d_no (k := 0) (T := X) (S := Y) (x := x) h)
          have DO := Lib.hid (fun W => does (0) X Y (x) W X0 (by omega) (by omega) Y1 (by omega) (by omega))
          obtain ⟨A, hA⟩ : ∃ A, dT (0) X Y (x) = A := ⟨_, rfl⟩
          obtain ⟨B, hB⟩ : ∃ B, dS (0) X Y (x) = B := ⟨_, rfl⟩
          obtain ⟨C, hC⟩ : ∃ C, dN (0) X Y (x) = C := ⟨_, rfl⟩
          obtain ⟨E, hE⟩ : ∃ E, dE (0) X Y (x) = E := ⟨_, rfl⟩
          rw [hA, hB, hC, hE] at DO DN
          rw [hA, hB, hC, hE] at TW
          clear hA hB hC hE
          have cp0 := Pp.cell 0 rfl
          have cp1 := Pp.cell 1 rfl
          have cy0 := Py.cell 0 rfl
          have cy1 := Py.cell 1 rfl
          go_wp2_with fail
          clear cp0 cp1 cy0 cy1
          refine (DO.out _).mono ?_
          rintro e wd4 ⟨rfl, kb⟩
          have Pp := Pp.bel kb
          have Py := Py.bel kb
          have K5 := Lib.hid (KC.out.trans kb)
          clear kb
          go_upto_region 14 with fail
          have Pq : PB ((wd4).alloc (.cells #[.int .u64 A, .int .u64 B] 24)) (wd4).heap.size A B := Kk.Blk.new _ _ _
          obtain ⟨q, hq⟩ : ∃ b, (wd4).heap.size = b := ⟨_, rfl⟩
          obtain ⟨Xq, hXq⟩ : ∃ X, (wd4).alloc (.cells #[.int .u64 A, .int .u64 B] 24) = X := ⟨_, rfl⟩
          have Dq : Bel wd4 Xq := by rw [← hXq]; exact (Bel.refl _).alloc _
          have Zq := Lib.hid (show w.heap.size ≤ q by rw [← hq]; exact Below.size K5.out)
          rw [hXq, hq] at Pq
          rw [hXq, hq]
          have Lpq := Lib.hid (show p < q by rw [← hq]; exact Pp.lt)
          have Lyq := Lib.hid (show y < q by rw [← hq]; exact Py.lt)
          have Pp := Pp.bel Dq
          have Py := Py.bel Dq
          have K6 := Lib.hid (K5.out.trans Dq)
          clear hq hXq Dq
          by_cases hE : E = 0
          · subst hE
            obtain ⟨OQ, TQ⟩ := TW.out rfl
            have CH := Lib.hid (fun W => checkE A B W OQ.1 (by have := OQ.1; have := OQ.2.2.1; omega))
            rw [OQ.chk] at CH
            have OQ := Lib.hid OQ
            have cp0 := Pp.cell 0 rfl
            have cp1 := Pp.cell 1 rfl
            have cy0 := Py.cell 0 rfl
            have cy1 := Py.cell 1 rfl
            have cq0 := Pq.cell 0 rfl
            have cq1 := Pq.cell 1 rfl
            go_wp2_with fail
            clear cp0 cp1 cy0 cy1 cq0 cq1
            refine (CH.out _).mono ?_
            rintro e we7 ⟨rfl, kb⟩
            have Pp := Pp.bel kb
            have Py := Py.bel kb
            have Pq := Pq.bel kb
            have K8 := Lib.hid (K6.out.trans kb)
            clear kb
            rcases TQ with ⟨u0, u1, u2, u3⟩ | ⟨u0, u1, u2, u3, u4, u5, u6⟩ | ⟨u0, u1, u2, u3, u4⟩
            · skip
              obtain ⟨o1, o2, o3, o4, o5⟩ := OQ.out
              have z1 : IntKind.u64.wrap (A - X) = (x) := by rw [IntKind.wrap_u64]; omega
              have z2 : IntKind.u64.wrap (B - Y) = C := by rw [IntKind.wrap_u64]; omega
              clear u1 u2
              have cp0 := Pp.cell 0 rfl
              have cp1 := Pp.cell 1 rfl
              have fp0 := Pp.frozen 0
              have fp1 := Pp.frozen 1
              have cy0 := Py.cell 0 rfl
              have cy1 := Py.cell 1 rfl
              have cq0 := Pq.cell 0 rfl
              have cq1 := Pq.cell 1 rfl
              go_wp2_with fail
              go_roundw
              case rel => exact ⟨i + 1, A, B, by go_num, by omega, Lib.hid ⟨OQ.out, (Pp.set 0 _).set 1 _, (K8.out.set (show w.heap.size ≤ (⟨p, 0, none⟩ : Addr).block from Zp.out) _).set (show w.heap.size ≤ (⟨p, 1, none⟩ : Addr).block from Zp.out) _⟩⟩
              case measure => simp [intOf]; omega
            · skip
              exact absurd u0 (by decide)
            · skip
              exact absurd u0 (by decide)
          · have hE1 : (E != 0) = true := by simpa using hE
            obtain ⟨rfl, rfl, rfl⟩ := DN.out hE
            have cp0 := Pp.cell 0 rfl
            have cp1 := Pp.cell 1 rfl
            have cy0 := Py.cell 0 rfl
            have cy1 := Py.cell 1 rfl
            have cq0 := Pq.cell 0 rfl
            have cq1 := Pq.cell 1 rfl
            go_wp2_with fail
            clear cp0 cp1 cy0 cy1 cq0 cq1
            go_roundw
            case rel => exact ⟨i + 1, X, Y, by go_num, by omega, Lib.hid ⟨OX.out, Pp, K6.out⟩⟩
            case measure => simp [intOf]; omega
        by_cases hk1 : k = 1
        · subst hk1
          by_cases hY : 0 < Y
          · have x5 : x.tmod Y = x % Y := Int.tmod_eq_emod_of_nonneg x0
            obtain ⟨N, hN⟩ : ∃ N, 1 + x % Y = N := ⟨_, rfl⟩
            have y0 : 0 ≤ x % Y := Int.emod_nonneg x (by omega)
            have y1 : x % Y < Y := Int.emod_lt_of_pos x hY
            have y5 : IntKind.u64.wrap (x % Y) = x % Y := by rw [IntKind.wrap_u64]; omega
            have y6 : IntKind.u64.wrap (1 + x % Y) = N := by rw [IntKind.wrap_u64]; omega
            have N0 : 0 ≤ N := by omega
            have N1 : N ≤ 18446744073709551615 := by omega
            have cp0 := Pp.cell 0 rfl
            have cp1 := Pp.cell 1 rfl
            have cy0 := Py.cell 0 rfl
            have cy1 := Py.cell 1 rfl
            have fy0 := Py.frozen 0
            have fy1 := Py.frozen 1
            go_upto_region 13 with fail
            clear cp0 cp1 cy0 cy1 fy0 fy1
            clear hN y0 y1 y5 y6 x5
            have Pp := Pp.other (b' := y) (by have := Lpy.out; omega) 1 (.int .u64 N)
            have Py : AB ((wc).setCell ⟨y, 1, none⟩ (.int .u64 N)) y 1 N := Py.set 1 (.int .u64 N)
            have K4 := Lib.hid (KC.out.set (show w.heap.size ≤ (⟨y, 1, none⟩ : Addr).block from Zy.out) (.int .u64 N))
            obtain ⟨wf, hwf⟩ : ∃ W, (wc).setCell ⟨y, 1, none⟩ (.int .u64 N) = W := ⟨_, rfl⟩
            rw [hwf] at Pp Py K4
            rw [hwf]
            clear hwf
            have TW := Lib.hid (fun h => told_of (k := 1) (N := N) OX.out N0 (.inr (.inl rfl)) h)
            have DN := Lib.hid (fun h => d_no (k := 1) (T := X) (S := Y) (x := N) h)
            have DO := Lib.hid (fun W => does (1) X Y (N) W X0 (by omega) (by omega) Y1 (by omega) (by omega))
            obtain ⟨A, hA⟩ : ∃ A, dT (1) X Y (N) = A := ⟨_, rfl⟩
            obtain ⟨B, hB⟩ : ∃ B, dS (1) X Y (N) = B := ⟨_, rfl⟩
            obtain ⟨C, hC⟩ : ∃ C, dN (1) X Y (N) = C := ⟨_, rfl⟩
            obtain ⟨E, hE⟩ : ∃ E, dE (1) X Y (N) = E := ⟨_, rfl⟩
            rw [hA, hB, hC, hE] at DO DN
            rw [hA, hB, hC, hE] at TW
            clear hA hB hC hE
            have cp0 := Pp.cell 0 rfl
            have cp1 := Pp.cell 1 rfl
            have cy0 := Py.cell 0 rfl
            have cy1 := Py.cell 1 rfl
            go_wp2_with fail
            clear cp0 cp1 cy0 cy1
            refine (DO.out _).mono ?_
            rintro e wd5 ⟨rfl, kb⟩
            have Pp := Pp.bel kb
            have Py := Py.bel kb
            have K6 := Lib.hid (K4.out.trans kb)
            clear kb
            go_upto_region 14 with fail
            have Pq : PB ((wd5).alloc (.cells #[.int .u64 A, .int .u64 B] 24)) (wd5).heap.size A B := Kk.Blk.new _ _ _
            obtain ⟨q, hq⟩ : ∃ b, (wd5).heap.size = b := ⟨_, rfl⟩
            obtain ⟨Xq, hXq⟩ : ∃ X, (wd5).alloc (.cells #[.int .u64 A, .int .u64 B] 24) = X := ⟨_, rfl⟩
            have Dq : Bel wd5 Xq := by rw [← hXq]; exact (Bel.refl _).alloc _
            have Zq := Lib.hid (show w.heap.size ≤ q by rw [← hq]; exact Below.size K6.out)
            rw [hXq, hq] at Pq
            rw [hXq, hq]
            have Lpq := Lib.hid (show p < q by rw [← hq]; exact Pp.lt)
            have Lyq := Lib.hid (show y < q by rw [← hq]; exact Py.lt)
            have Pp := Pp.bel Dq
            have Py := Py.bel Dq
            have K7 := Lib.hid (K6.out.trans Dq)
            clear hq hXq Dq
            by_cases hE : E = 0
            · subst hE
              obtain ⟨OQ, TQ⟩ := TW.out rfl
              have CH := Lib.hid (fun W => checkE A B W OQ.1 (by have := OQ.1; have := OQ.2.2.1; omega))
              rw [OQ.chk] at CH
              have OQ := Lib.hid OQ
              have cp0 := Pp.cell 0 rfl
              have cp1 := Pp.cell 1 rfl
              have cy0 := Py.cell 0 rfl
              have cy1 := Py.cell 1 rfl
              have cq0 := Pq.cell 0 rfl
              have cq1 := Pq.cell 1 rfl
              go_wp2_with fail
              clear cp0 cp1 cy0 cy1 cq0 cq1
              refine (CH.out _).mono ?_
              rintro e we8 ⟨rfl, kb⟩
              have Pp := Pp.bel kb
              have Py := Py.bel kb
              have Pq := Pq.bel kb
              have K9 := Lib.hid (K7.out.trans kb)
              clear kb
              rcases TQ with ⟨u0, u1, u2, u3⟩ | ⟨u0, u1, u2, u3, u4, u5, u6⟩ | ⟨u0, u1, u2, u3, u4⟩
              · skip
                exact absurd u0 (by decide)
              · skip
                obtain ⟨o1, o2, o3, o4, o5⟩ := OQ.out
                have z1 : IntKind.u64.wrap (X - A) = C := by rw [IntKind.wrap_u64]; omega
                have z2 : IntKind.u64.wrap (Y - B) = (N) := by rw [IntKind.wrap_u64]; omega
                clear u1 u2
                have cp0 := Pp.cell 0 rfl
                have cp1 := Pp.cell 1 rfl
                have fp0 := Pp.frozen 0
                have fp1 := Pp.frozen 1
                have cy0 := Py.cell 0 rfl
                have cy1 := Py.cell 1 rfl
                have cq0 := Pq.cell 0 rfl
                have cq1 := Pq.cell 1 rfl
                go_wp2_with fail
                go_roundw
                case rel => exact ⟨i + 1, A, B, by go_num, by omega, Lib.hid ⟨OQ.out, (Pp.set 0 _).set 1 _, (K9.out.set (show w.heap.size ≤ (⟨p, 0, none⟩ : Addr).block from Zp.out) _).set (show w.heap.size ≤ (⟨p, 1, none⟩ : Addr).block from Zp.out) _⟩⟩
                case measure => simp [intOf]; omega
              · skip
                exact absurd u0 (by decide)
            · have hE1 : (E != 0) = true := by simpa using hE
              obtain ⟨rfl, rfl, rfl⟩ := DN.out hE
              have cp0 := Pp.cell 0 rfl
              have cp1 := Pp.cell 1 rfl
              have cy0 := Py.cell 0 rfl
              have cy1 := Py.cell 1 rfl
              have cq0 := Pq.cell 0 rfl
              have cq1 := Pq.cell 1 rfl
              go_wp2_with fail
              clear cp0 cp1 cy0 cy1 cq0 cq1
              go_roundw
              case rel => exact ⟨i + 1, X, Y, by go_num, by omega, Lib.hid ⟨OX.out, Pp, K7.out⟩⟩
              case measure => simp [intOf]; omega
          · have hY0 : Y = 0 := by omega
            subst hY0
            obtain rfl : X = 0 := by omega
            have cp0 := Pp.cell 0 rfl
            have cp1 := Pp.cell 1 rfl
            have cy0 := Py.cell 0 rfl
            have cy1 := Py.cell 1 rfl
            go_upto_region 13 with fail
            clear cp0 cp1 cy0 cy1
            have TW := Lib.hid (fun h => told_of (k := 1) (N := x) OX.out x0 (.inr (.inl rfl)) h)
            have DN := Lib.hid (fun h => d_no (k := 1) (T := 0) (S := 0) (x := x) h)
            have DO := Lib.hid (fun W => does (1) 0 0 (x) W X0 (by omega) (by omega) Y1 (by omega) (by omega))
            obtain ⟨A, hA⟩ : ∃ A, dT (1) 0 0 (x) = A := ⟨_, rfl⟩
            obtain ⟨B, hB⟩ : ∃ B, dS (1) 0 0 (x) = B := ⟨_, rfl⟩
            obtain ⟨C, hC⟩ : ∃ C, dN (1) 0 0 (x) = C := ⟨_, rfl⟩
            obtain ⟨E, hE⟩ : ∃ E, dE (1) 0 0 (x) = E := ⟨_, rfl⟩
            rw [hA, hB, hC, hE] at DO DN
            rw [hA, hB, hC, hE] at TW
            clear hA hB hC hE
            have cp0 := Pp.cell 0 rfl
            have cp1 := Pp.cell 1 rfl
            have cy0 := Py.cell 0 rfl
            have cy1 := Py.cell 1 rfl
            go_wp2_with fail
            clear cp0 cp1 cy0 cy1
            refine (DO.out _).mono ?_
            rintro e wd4 ⟨rfl, kb⟩
            have Pp := Pp.bel kb
            have Py := Py.bel kb
            have K5 := Lib.hid (KC.out.trans kb)
            clear kb
            go_upto_region 14 with fail
            have Pq : PB ((wd4).alloc (.cells #[.int .u64 A, .int .u64 B] 24)) (wd4).heap.size A B := Kk.Blk.new _ _ _
            obtain ⟨q, hq⟩ : ∃ b, (wd4).heap.size = b := ⟨_, rfl⟩
            obtain ⟨Xq, hXq⟩ : ∃ X, (wd4).alloc (.cells #[.int .u64 A, .int .u64 B] 24) = X := ⟨_, rfl⟩
            have Dq : Bel wd4 Xq := by rw [← hXq]; exact (Bel.refl _).alloc _
            have Zq := Lib.hid (show w.heap.size ≤ q by rw [← hq]; exact Below.size K5.out)
            rw [hXq, hq] at Pq
            rw [hXq, hq]
            have Lpq := Lib.hid (show p < q by rw [← hq]; exact Pp.lt)
            have Lyq := Lib.hid (show y < q by rw [← hq]; exact Py.lt)
            have Pp := Pp.bel Dq
            have Py := Py.bel Dq
            have K6 := Lib.hid (K5.out.trans Dq)
            clear hq hXq Dq
            by_cases hE : E = 0
            · subst hE
              obtain ⟨OQ, TQ⟩ := TW.out rfl
              have CH := Lib.hid (fun W => checkE A B W OQ.1 (by have := OQ.1; have := OQ.2.2.1; omega))
              rw [OQ.chk] at CH
              have OQ := Lib.hid OQ
              have cp0 := Pp.cell 0 rfl
              have cp1 := Pp.cell 1 rfl
              have cy0 := Py.cell 0 rfl
              have cy1 := Py.cell 1 rfl
              have cq0 := Pq.cell 0 rfl
              have cq1 := Pq.cell 1 rfl
              go_wp2_with fail
              clear cp0 cp1 cy0 cy1 cq0 cq1
              refine (CH.out _).mono ?_
              rintro e we7 ⟨rfl, kb⟩
              have Pp := Pp.bel kb
              have Py := Py.bel kb
              have Pq := Pq.bel kb
              have K8 := Lib.hid (K6.out.trans kb)
              clear kb
              rcases TQ with ⟨u0, u1, u2, u3⟩ | ⟨u0, u1, u2, u3, u4, u5, u6⟩ | ⟨u0, u1, u2, u3, u4⟩
              · skip
                exact absurd u0 (by decide)
              · skip
                obtain ⟨o1, o2, o3, o4, o5⟩ := OQ.out
                omega
              · skip
                exact absurd u0 (by decide)
            · have hE1 : (E != 0) = true := by simpa using hE
              obtain ⟨rfl, rfl, rfl⟩ := DN.out hE
              have cp0 := Pp.cell 0 rfl
              have cp1 := Pp.cell 1 rfl
              have cy0 := Py.cell 0 rfl
              have cy1 := Py.cell 1 rfl
              have cq0 := Pq.cell 0 rfl
              have cq1 := Pq.cell 1 rfl
              go_wp2_with fail
              clear cp0 cp1 cy0 cy1 cq0 cq1
              go_roundw
              case rel => exact ⟨i + 1, 0, 0, by go_num, by omega, Lib.hid ⟨OX.out, Pp, K6.out⟩⟩
              case measure => simp [intOf]; omega
        obtain rfl : k = 2 := by omega
        have x5 : x.tmod 1000000001 = x % 1000000001 := Int.tmod_eq_emod_of_nonneg x0
        obtain ⟨N, hN⟩ : ∃ N, x % 1000000001 = N := ⟨_, rfl⟩
        rw [hN] at x5
        have N0 : 0 ≤ N := by omega
        have N1 : N ≤ 1000000000 := by omega
        have y6 : IntKind.u64.wrap N = N := by rw [IntKind.wrap_u64]; omega
        clear hN
        have cp0 := Pp.cell 0 rfl
        have cp1 := Pp.cell 1 rfl
        have cy0 := Py.cell 0 rfl
        have cy1 := Py.cell 1 rfl
        have fy0 := Py.frozen 0
        have fy1 := Py.frozen 1
        go_upto_region 13 with fail
        clear cp0 cp1 cy0 cy1 fy0 fy1
        clear y6 x5
        have Pp := Pp.other (b' := y) (by have := Lpy.out; omega) 1 (.int .u64 N)
        have Py : AB ((wc).setCell ⟨y, 1, none⟩ (.int .u64 N)) y 2 N := Py.set 1 (.int .u64 N)
        have K4 := Lib.hid (KC.out.set (show w.heap.size ≤ (⟨y, 1, none⟩ : Addr).block from Zy.out) (.int .u64 N))
        obtain ⟨wf, hwf⟩ : ∃ W, (wc).setCell ⟨y, 1, none⟩ (.int .u64 N) = W := ⟨_, rfl⟩
        rw [hwf] at Pp Py K4
        rw [hwf]
        clear hwf
        have TW := Lib.hid (fun h => told_of (k := 2) (N := N) OX.out N0 (.inr (.inr ⟨rfl, N1⟩)) h)
        have DN := Lib.hid (fun h => d_no (k := 2) (T := X) (S := Y) (x := N) h)
        have DO := Lib.hid (fun W => does (2) X Y (N) W X0 (by omega) (by omega) Y1 (by omega) (by omega))
        obtain ⟨A, hA⟩ : ∃ A, dT (2) X Y (N) = A := ⟨_, rfl⟩
        obtain ⟨B, hB⟩ : ∃ B, dS (2) X Y (N) = B := ⟨_, rfl⟩
        obtain ⟨C, hC⟩ : ∃ C, dN (2) X Y (N) = C := ⟨_, rfl⟩
        obtain ⟨E, hE⟩ : ∃ E, dE (2) X Y (N) = E := ⟨_, rfl⟩
        rw [hA, hB, hC, hE] at DO DN
        rw [hA, hB, hC, hE] at TW
        clear hA hB hC hE
        have cp0 := Pp.cell 0 rfl
        have cp1 := Pp.cell 1 rfl
        have cy0 := Py.cell 0 rfl
        have cy1 := Py.cell 1 rfl
        go_wp2_with fail
        clear cp0 cp1 cy0 cy1
        refine (DO.out _).mono ?_
        rintro e wd5 ⟨rfl, kb⟩
        have Pp := Pp.bel kb
        have Py := Py.bel kb
        have K6 := Lib.hid (K4.out.trans kb)
        clear kb
        go_upto_region 14 with fail
        have Pq : PB ((wd5).alloc (.cells #[.int .u64 A, .int .u64 B] 24)) (wd5).heap.size A B := Kk.Blk.new _ _ _
        obtain ⟨q, hq⟩ : ∃ b, (wd5).heap.size = b := ⟨_, rfl⟩
        obtain ⟨Xq, hXq⟩ : ∃ X, (wd5).alloc (.cells #[.int .u64 A, .int .u64 B] 24) = X := ⟨_, rfl⟩
        have Dq : Bel wd5 Xq := by rw [← hXq]; exact (Bel.refl _).alloc _
        have Zq := Lib.hid (show w.heap.size ≤ q by rw [← hq]; exact Below.size K6.out)
        rw [hXq, hq] at Pq
        rw [hXq, hq]
        have Lpq := Lib.hid (show p < q by rw [← hq]; exact Pp.lt)
        have Lyq := Lib.hid (show y < q by rw [← hq]; exact Py.lt)
        have Pp := Pp.bel Dq
        have Py := Py.bel Dq
        have K7 := Lib.hid (K6.out.trans Dq)
        clear hq hXq Dq
        by_cases hE : E = 0
        · subst hE
          obtain ⟨OQ, TQ⟩ := TW.out rfl
          have CH := Lib.hid (fun W => checkE A B W OQ.1 (by have := OQ.1; have := OQ.2.2.1; omega))
          rw [OQ.chk] at CH
          have OQ := Lib.hid OQ
          have cp0 := Pp.cell 0 rfl
          have cp1 := Pp.cell 1 rfl
          have cy0 := Py.cell 0 rfl
          have cy1 := Py.cell 1 rfl
          have cq0 := Pq.cell 0 rfl
          have cq1 := Pq.cell 1 rfl
          go_wp2_with fail
          clear cp0 cp1 cy0 cy1 cq0 cq1
          refine (CH.out _).mono ?_
          rintro e we8 ⟨rfl, kb⟩
          have Pp := Pp.bel kb
          have Py := Py.bel kb
          have Pq := Pq.bel kb
          have K9 := Lib.hid (K7.out.trans kb)
          clear kb
          rcases TQ with ⟨u0, u1, u2, u3⟩ | ⟨u0, u1, u2, u3, u4, u5, u6⟩ | ⟨u0, u1, u2, u3, u4⟩
          · skip
            exact absurd u0 (by decide)
          · skip
            exact absurd u0 (by decide)
          · skip
            obtain ⟨o1, o2, o3, o4, o5⟩ := OQ.out
            have z1 : IntKind.u64.wrap (X - A) = C := by rw [IntKind.wrap_u64]; omega
            clear u1
            by_cases hBY : B = Y
            · have hb2 : (B == Y) = true := by simpa using hBY
              clear hBY u4
              have cp0 := Pp.cell 0 rfl
              have cp1 := Pp.cell 1 rfl
              have fp0 := Pp.frozen 0
              have fp1 := Pp.frozen 1
              have cy0 := Py.cell 0 rfl
              have cy1 := Py.cell 1 rfl
              have cq0 := Pq.cell 0 rfl
              have cq1 := Pq.cell 1 rfl
              go_wp2_with fail
              go_roundw
              case rel => exact ⟨i + 1, A, B, by go_num, by omega, Lib.hid ⟨OQ.out, (Pp.set 0 _).set 1 _, (K9.out.set (show w.heap.size ≤ (⟨p, 0, none⟩ : Addr).block from Zp.out) _).set (show w.heap.size ≤ (⟨p, 1, none⟩ : Addr).block from Zp.out) _⟩⟩
              case measure => simp [intOf]; omega
            · have hb2 : (B == Y) = false := by simpa using hBY
              obtain ⟨rfl, rfl, rfl⟩ : A = 0 ∧ B = 0 ∧ C = X := by rcases u4 with h | h; exact absurd h hBY; exact h
              clear hBY u4
              have cp0 := Pp.cell 0 rfl
              have cp1 := Pp.cell 1 rfl
              have fp0 := Pp.frozen 0
              have fp1 := Pp.frozen 1
              have cy0 := Py.cell 0 rfl
              have cy1 := Py.cell 1 rfl
              have cq0 := Pq.cell 0 rfl
              have cq1 := Pq.cell 1 rfl
              go_wp2_with fail
              go_roundw
              case rel => exact ⟨i + 1, 0, 0, by go_num, by omega, Lib.hid ⟨OQ.out, (Pp.set 0 _).set 1 _, (K9.out.set (show w.heap.size ≤ (⟨p, 0, none⟩ : Addr).block from Zp.out) _).set (show w.heap.size ≤ (⟨p, 1, none⟩ : Addr).block from Zp.out) _⟩⟩
              case measure => simp [intOf]; omega
        · have hE1 : (E != 0) = true := by simpa using hE
          obtain ⟨rfl, rfl, rfl⟩ := DN.out hE
          have cp0 := Pp.cell 0 rfl
          have cp1 := Pp.cell 1 rfl
          have cy0 := Py.cell 0 rfl
          have cy1 := Py.cell 1 rfl
          have cq0 := Pq.cell 0 rfl
          have cq1 := Pq.cell 1 rfl
          go_wp2_with fail
          clear cp0 cp1 cy0 cy1 cq0 cq1
          go_roundw
          case rel => exact ⟨i + 1, X, Y, by go_num, by omega, Lib.hid ⟨OX.out, Pp, K7.out⟩⟩
          case measure => simp [intOf]; omega
    · obtain rfl : i = ln := by omega
      go_wp2_with fail
      go_ret
      exact ⟨rfl, KR.out⟩
end Sh
end Go.Proofs.Ytmfajljgcndgfaa
