/-
  What share's pool.check, rate and exchange answer, as plain functions of the numbers. Conditions: the amounts are words.
-/
import Derived.Test.YtmfajljgcndgfaaSh1
namespace Go.Proofs.Ytmfajljgcndgfaa
open Go.RowKit Go.Shelf
set_option linter.unusedVariables false
namespace Sh
open Fix

/-- A pool, as a value. -/
abbrev pV (T S : Int) : Value := .agg #[.int .u64 T, .int .u64 S]
/-- A word. -/
def Wd (x : Int) : Prop := 0 ≤ x ∧ x ≤ 18446744073709551615
/-- The document's Check. -/
def chk (T S : Int) : Int := if S < T then 9 else if 4611686018427387904 < T then 12 else if T = 0 ∧ ¬ S = 0 then 11 else 0
theorem chk_of (T S : Int) (s0 : 0 ≤ S) (b : Bool) (hb : b = (decide (T = 0) && decide (0 < S))) : fE [ife (decide (S < T)) 9, ife (decide (4611686018427387904 < T)) 12, ife b 11] = chk T S := by
  unfold chk fE fE fE fE ife
  subst hb
  by_cases h1 : S < T
  · simp [h1]
  · by_cases h2 : 4611686018427387904 < T
    · simp [h1, h2]
    · by_cases h3 : T = 0
      · by_cases h4 : S = 0
        · simp [h3, h4]
        · have h5 : 0 < S := by omega
          subst h3
          simp [h4, h5, h1]
      · simp [h1, h2, h3]
theorem chk_ok {T S : Int} (h : chk T S = 0) : T ≤ S ∧ T ≤ 4611686018427387904 ∧ (T = 0 → S = 0) := by
  unfold chk at h
  split at h
  · cases h
  · split at h
    · cases h
    · split at h
      · cases h
      · refine ⟨by omega, by omega, fun h0 => ?_⟩
        by_cases h4 : S = 0
        · exact h4
        · rename_i h5; exact absurd ⟨h0, h4⟩ h5

theorem three {w : World} {b : Nat} {v0 v1 v2 : Value} {e0 e1 e2 : Int} (t : TypeId) (h0 : Tells w v0 e0) (h1 : Tells w v1 e1) (h2 : Tells w v2 e2) (hb : w.heap.size = b) :
    ∀ i, i < 3 → ∃ v, (w.alloc (.cells #[v0, v1, v2] t)).cell? ⟨b, i, none⟩ = some v ∧ Tells (w.alloc (.cells #[v0, v1, v2] t)) v ([e0, e1, e2].getD i 0) := by
  subst hb
  have B := (Bel.refl w).alloc (.cells #[v0, v1, v2] t)
  intro i hi
  match i, hi with
  | 0, _ => exact ⟨v0, by simp, h0.bel B⟩
  | 1, _ => exact ⟨v1, by simp, h1.bel B⟩
  | 2, _ => exact ⟨v2, by simp, h2.bel B⟩

set_option maxRecDepth 10000 in
set_option maxHeartbeats 2000000 in
theorem check (T S : Int) (w : World) (t0 : 0 ≤ T) (s0 : 0 ≤ S) :
    Calls Try.prog 33 #[pV T S] w fun r w' => r = .returned (.int .i64 (chk T S)) ∧ Bel w w' := by
  by_cases hT : T = 0
  · subst hT
    have HK := Lib.hid (chk_of 0 S s0 (decide (0 < S)) (by simp))
    go_enter Try.func33, Try.ntmps33
    go_upto_region 1 with fail
    obtain ⟨W, hW⟩ : ∃ W, w.alloc (.cells #[.int .u64 0, .int .u64 S] 53) = W := ⟨_, rfl⟩
    obtain ⟨p, hp⟩ : ∃ p, w.heap.size = p := ⟨_, rfl⟩
    have hc : Bel w W.drew ∧ W.drew.cell? ⟨p, 0, none⟩ = some (.int .u64 0) ∧ W.drew.cell? ⟨p, 1, none⟩ = some (.int .u64 S) := by
      subst hW hp
      exact ⟨((Bel.refl _).alloc _).drew, by simp, by simp⟩
    have KEEP := Lib.hid (show ∀ V V' : World, (Bel w V ∧ V.cell? ⟨p, 0, none⟩ = some (.int .u64 0) ∧ V.cell? ⟨p, 1, none⟩ = some (.int .u64 S)) → Bel V V' → (Bel w V' ∧ V'.cell? ⟨p, 0, none⟩ = some (.int .u64 0) ∧ V'.cell? ⟨p, 1, none⟩ = some (.int .u64 S)) from
      fun V V' h hb => ⟨h.1.trans hb, cell_bel h.2.1 hb, cell_bel h.2.2 hb⟩)
    rw [hp, hW]
    clear hW hp
    go_region_held3 (fun V => Bel w V ∧ V.cell? ⟨p, 0, none⟩ = some (.int .u64 0) ∧ V.cell? ⟨p, 1, none⟩ = some (.int .u64 S)) (first | assumption | exact KEEP.out _ _ (by assumption) (by assumption) | exact KEEP.out _ _ (by assumption) ((Bel.refl _).alloc _))
      (first | (go_at_call 45; refine (unless_ _ _ _).mono ?_; rintro e w1 ⟨q1, q2, rfl, ht, kb⟩) | (go_at_call 44; refine (first _ 3 _ [ife (decide (S < 0)) 9, ife (false) 12, ife (decide (0 < S)) 11] _ rfl (by decide) (three _ (Tells.bel (by assumption) (Bel.trans (by assumption) (by assumption))) (Tells.bel (by assumption) (by assumption)) (by assumption) rfl)).mono ?_; rintro e w1 ⟨rfl, kb⟩))
    rename_i hS
    rw [show fE [ife (decide (S < 0)) 9, ife (false) 12, ife (decide (0 < S)) 11] = chk 0 S from HK.out]
    go_wp2_with fail
    go_ret
    exact ⟨rfl, hS.1⟩
  · have hT1 : (T == 0) = false := by simpa using hT
    have HK := Lib.hid (chk_of T S s0 false (by simp [hT]))
    go_enter Try.func33, Try.ntmps33
    go_upto_region 1 with fail
    obtain ⟨W, hW⟩ : ∃ W, w.alloc (.cells #[.int .u64 T, .int .u64 S] 53) = W := ⟨_, rfl⟩
    obtain ⟨p, hp⟩ : ∃ p, w.heap.size = p := ⟨_, rfl⟩
    have hc : Bel w W.drew ∧ W.drew.cell? ⟨p, 0, none⟩ = some (.int .u64 T) ∧ W.drew.cell? ⟨p, 1, none⟩ = some (.int .u64 S) := by
      subst hW hp
      exact ⟨((Bel.refl _).alloc _).drew, by simp, by simp⟩
    have KEEP := Lib.hid (show ∀ V V' : World, (Bel w V ∧ V.cell? ⟨p, 0, none⟩ = some (.int .u64 T) ∧ V.cell? ⟨p, 1, none⟩ = some (.int .u64 S)) → Bel V V' → (Bel w V' ∧ V'.cell? ⟨p, 0, none⟩ = some (.int .u64 T) ∧ V'.cell? ⟨p, 1, none⟩ = some (.int .u64 S)) from
      fun V V' h hb => ⟨h.1.trans hb, cell_bel h.2.1 hb, cell_bel h.2.2 hb⟩)
    rw [hp, hW]
    clear hW hp
    refine wp_region_held_drew (S := fun V => Bel w V ∧ V.cell? ⟨p, 0, none⟩ = some (.int .u64 T) ∧ V.cell? ⟨p, 1, none⟩ = some (.int .u64 S)) (by kernel_rfl) hc (fun hS0 => ?_)
    obtain ⟨w6, hw6⟩ : ∃ w6, W.drew = w6 := ⟨_, rfl⟩
    rw [hw6] at hS0 ⊢
    clear hw6 hc
    refine wpAnyH_take (i := 0) (oi := { dst := some 3, op := .fieldAddr 53 (.tmp 1) 0, type := 0, pos := "pool.go:14", after := #[], guard := none }) (v := .pointer (some ⟨p, 0, none⟩)) rfl (by kernel_rfl) (by kernel_rfl) (by kernel_rfl) (fun _ _ _ h => h) (Or.inl ⟨by rfl, by intro w hSw; clear hSw; go_simp⟩) hS0 ?_
    try simp only [Act.put, List.setIfInBounds_toArray, List.set_cons_zero, List.set_cons_succ]
    refine wpAnyH_take (i := 1) (oi := { dst := some 4, op := .load 22 (.tmp 3), type := 22, pos := "pool.go:14", after := #[{ on := 0, ground := .data }], guard := none }) (v := .int .u64 T) rfl (by kernel_rfl) (by kernel_rfl) (by kernel_rfl) (fun _ _ _ h => h) (Or.inl ⟨by rfl, by intro w h; have hcell := (h.2.1); clear h; go_simp⟩) hS0 ?_
    try simp only [Act.put, List.setIfInBounds_toArray, List.set_cons_zero, List.set_cons_succ]
    refine wpAnyH_take (i := 2) (oi := { dst := some 5, op := .fieldAddr 53 (.tmp 1) 1, type := 0, pos := "pool.go:14", after := #[], guard := none }) (v := .pointer (some ⟨p, 1, none⟩)) rfl (by kernel_rfl) (by kernel_rfl) (by kernel_rfl) (fun _ _ _ h => h) (Or.inl ⟨by rfl, by intro w hSw; clear hSw; go_simp⟩) hS0 ?_
    try simp only [Act.put, List.setIfInBounds_toArray, List.set_cons_zero, List.set_cons_succ]
    refine wpAnyH_take (i := 3) (oi := { dst := some 6, op := .load 22 (.tmp 5), type := 22, pos := "pool.go:14", after := #[{ on := 2, ground := .data }], guard := none }) (v := .int .u64 S) rfl (by kernel_rfl) (by kernel_rfl) (by kernel_rfl) (fun _ _ _ h => h) (Or.inl ⟨by rfl, by intro w h; have hcell := (h.2.2); clear h; go_simp⟩) hS0 ?_
    try simp only [Act.put, List.setIfInBounds_toArray, List.set_cons_zero, List.set_cons_succ]
    refine wpAnyH_take (i := 4) (oi := { dst := some 7, op := .binOp .gtr 22 (.tmp 4) (.tmp 6) 22, type := 4, pos := "pool.go:14", after := #[{ on := 1, ground := .data }, { on := 3, ground := .data }], guard := none }) (v := .bool (decide (S < T))) rfl (by kernel_rfl) (by kernel_rfl) (by kernel_rfl) (fun _ _ _ h => h) (Or.inl ⟨by rfl, by intro w hSw; clear hSw; go_simp⟩) hS0 ?_
    try simp only [Act.put, List.setIfInBounds_toArray, List.set_cons_zero, List.set_cons_succ]
    refine wpAnyH_take (i := 6) (oi := { dst := some 9, op := .fieldAddr 53 (.tmp 1) 0, type := 0, pos := "pool.go:14", after := #[], guard := none }) (v := .pointer (some ⟨p, 0, none⟩)) rfl (by kernel_rfl) (by kernel_rfl) (by kernel_rfl) (fun _ _ _ h => h) (Or.inl ⟨by rfl, by intro w hSw; clear hSw; go_simp⟩) hS0 ?_
    try simp only [Act.put, List.setIfInBounds_toArray, List.set_cons_zero, List.set_cons_succ]
    refine wpAnyH_take (i := 7) (oi := { dst := some 10, op := .load 22 (.tmp 9), type := 22, pos := "pool.go:14", after := #[{ on := 6, ground := .data }], guard := none }) (v := .int .u64 T) rfl (by kernel_rfl) (by kernel_rfl) (by kernel_rfl) (fun _ _ _ h => h) (Or.inl ⟨by rfl, by intro w h; have hcell := (h.2.1); clear h; go_simp⟩) hS0 ?_
    try simp only [Act.put, List.setIfInBounds_toArray, List.set_cons_zero, List.set_cons_succ]
    refine wpAnyH_take (i := 8) (oi := { dst := some 11, op := .binOp .gtr 22 (.tmp 10) (.const (Value.int IntKind.u64 4611686018427387904)) 22, type := 4, pos := "pool.go:14", after := #[{ on := 7, ground := .data }], guard := none }) (v := .bool (decide (4611686018427387904 < T))) rfl (by kernel_rfl) (by kernel_rfl) (by kernel_rfl) (fun _ _ _ h => h) (Or.inl ⟨by rfl, by intro w hSw; clear hSw; go_simp⟩) hS0 ?_
    try simp only [Act.put, List.setIfInBounds_toArray, List.set_cons_zero, List.set_cons_succ]
    refine wpAnyH_take (i := 10) (oi := { dst := some 13, op := .fieldAddr 53 (.tmp 1) 0, type := 0, pos := "pool.go:14", after := #[], guard := none }) (v := .pointer (some ⟨p, 0, none⟩)) rfl (by kernel_rfl) (by kernel_rfl) (by kernel_rfl) (fun _ _ _ h => h) (Or.inl ⟨by rfl, by intro w hSw; clear hSw; go_simp⟩) hS0 ?_
    try simp only [Act.put, List.setIfInBounds_toArray, List.set_cons_zero, List.set_cons_succ]
    refine wpAnyH_take (i := 11) (oi := { dst := some 14, op := .load 22 (.tmp 13), type := 22, pos := "pool.go:14", after := #[{ on := 10, ground := .data }], guard := none }) (v := .int .u64 T) rfl (by kernel_rfl) (by kernel_rfl) (by kernel_rfl) (fun _ _ _ h => h) (Or.inl ⟨by rfl, by intro w h; have hcell := (h.2.1); clear h; go_simp⟩) hS0 ?_
    try simp only [Act.put, List.setIfInBounds_toArray, List.set_cons_zero, List.set_cons_succ]
    refine wpAnyH_take (i := 12) (oi := { dst := some 15, op := .binOp .eql 22 (.tmp 14) (.const (Value.int IntKind.u64 0)) 22, type := 4, pos := "pool.go:14", after := #[{ on := 11, ground := .data }], guard := none }) (v := .bool false) rfl (by kernel_rfl) (by kernel_rfl) (by kernel_rfl) (fun _ _ _ h => h) (Or.inl ⟨by rfl, by intro w hSw; clear hSw; go_simp⟩) hS0 ?_
    try simp only [Act.put, List.setIfInBounds_toArray, List.set_cons_zero, List.set_cons_succ]
    refine wpAnyH_ready (rs := [5]) (by kernel_rfl) (by simp) ?_
    refine AllReadyH.cons (o := { dst := some 8, op := .call { callee := .value (.func 45), args := #[.tmp 7, .const (Value.int IntKind.i64 9)], argTypes := #[4, 27] }, type := 66, pos := "pool.go:15", after := #[{ on := 4, ground := .data }], guard := none }) rfl (fun K hK => ?_) AllReadyH.nil
    go_simp
    refine (unless_ _ _ _).mono ?_
    rintro e v1 ⟨a0, a1, rfl, ht0, kb0⟩
    go_wp2_with fail
    refine hK.out _ _ (KEEP.out _ _ hS0 kb0) (fun hS1 => ?_)
    clear hK K
    try simp only [Act.put, List.setIfInBounds_toArray, List.set_cons_zero, List.set_cons_succ]
    refine wpAnyH_ready (rs := [9]) (by kernel_rfl) (by simp) ?_
    refine AllReadyH.cons (o := { dst := some 12, op := .call { callee := .value (.func 45), args := #[.tmp 11, .const (Value.int IntKind.i64 12)], argTypes := #[4, 27] }, type := 66, pos := "pool.go:16", after := #[{ on := 8, ground := .data }, { on := 5, ground := .chain }], guard := none }) rfl (fun K hK => ?_) AllReadyH.nil
    go_simp
    refine (unless_ _ _ _).mono ?_
    rintro e v2 ⟨a2, a3, rfl, ht1, kb1⟩
    go_wp2_with fail
    refine hK.out _ _ (KEEP.out _ _ hS1 kb1) (fun hS2 => ?_)
    clear hK K
    try simp only [Act.put, List.setIfInBounds_toArray, List.set_cons_zero, List.set_cons_succ]
    refine wpAnyH_take (i := 13) (oi := { dst := some 16, op := .move (.tmp 15), type := 4, pos := "pool.go:14", after := #[{ on := 12, ground := .data }, { on := 9, ground := .chain }], guard := none }) (v := .bool false) rfl (by kernel_rfl) (by kernel_rfl) (by kernel_rfl) (fun _ _ _ h => h) (Or.inl ⟨by rfl, by intro w hSw; clear hSw; go_simp⟩) hS2 ?_
    try simp only [Act.put, List.setIfInBounds_toArray, List.set_cons_zero, List.set_cons_succ]
    refine wpAnyH_take (i := 14) (oi := { dst := some 17, op := .fieldAddr 53 (.tmp 1) 1, type := 0, pos := "pool.go:14", after := #[{ on := 13, ground := .guard }], guard := some (13, true) }) (v := undef) rfl (by kernel_rfl) (by kernel_rfl) (by kernel_rfl) (fun _ _ _ h => h) (Or.inr ⟨by rfl, rfl⟩) hS2 ?_
    try simp only [Act.put, List.setIfInBounds_toArray, List.set_cons_zero, List.set_cons_succ]
    refine wpAnyH_take (i := 15) (oi := { dst := some 18, op := .load 22 (.tmp 17), type := 22, pos := "pool.go:14", after := #[{ on := 14, ground := .data }, { on := 13, ground := .guard }], guard := some (13, true) }) (v := undef) rfl (by kernel_rfl) (by kernel_rfl) (by kernel_rfl) (fun _ _ _ h => h) (Or.inr ⟨by rfl, rfl⟩) hS2 ?_
    try simp only [Act.put, List.setIfInBounds_toArray, List.set_cons_zero, List.set_cons_succ]
    refine wpAnyH_take (i := 16) (oi := { dst := some 19, op := .binOp .gtr 22 (.tmp 18) (.const (Value.int IntKind.u64 0)) 22, type := 4, pos := "pool.go:14", after := #[{ on := 15, ground := .data }, { on := 13, ground := .guard }], guard := some (13, true) }) (v := undef) rfl (by kernel_rfl) (by kernel_rfl) (by kernel_rfl) (fun _ _ _ h => h) (Or.inr ⟨by rfl, rfl⟩) hS2 ?_
    try simp only [Act.put, List.setIfInBounds_toArray, List.set_cons_zero, List.set_cons_succ]
    refine wpAnyH_take (i := 17) (oi := { dst := some 20, op := .pick (.tmp 16) (.tmp 19) (.const (Value.bool false)), type := 4, pos := "pool.go:14", after := #[{ on := 13, ground := .data }, { on := 16, ground := .data }], guard := none }) (v := .bool false) rfl (by kernel_rfl) (by kernel_rfl) (by kernel_rfl) (fun _ _ _ h => h) (Or.inl ⟨by rfl, by intro w hSw; clear hSw; go_simp⟩) hS2 ?_
    try simp only [Act.put, List.setIfInBounds_toArray, List.set_cons_zero, List.set_cons_succ]
    refine wpAnyH_ready (rs := [18]) (by kernel_rfl) (by simp) ?_
    refine AllReadyH.cons (o := { dst := some 21, op := .call { callee := .value (.func 45), args := #[.tmp 20, .const (Value.int IntKind.i64 11)], argTypes := #[4, 27] }, type := 66, pos := "pool.go:17", after := #[{ on := 17, ground := .data }, { on := 13, ground := .chain }], guard := none }) rfl (fun K hK => ?_) AllReadyH.nil
    go_simp
    refine (unless_ _ _ _).mono ?_
    rintro e v3 ⟨a4, a5, rfl, ht2, kb2⟩
    go_wp2_with fail
    refine hK.out _ _ (KEEP.out _ _ hS2 kb2) (fun hS3 => ?_)
    clear hK K
    try simp only [Act.put, List.setIfInBounds_toArray, List.set_cons_zero, List.set_cons_succ]
    refine wpAnyH_ready (rs := [19]) (by kernel_rfl) (by simp) ?_
    refine AllReadyH.cons (o := { dst := some 22, op := .buildSlice 79 3 #[(0, .tmp 8), (1, .tmp 12), (2, .tmp 21)], type := 79, pos := "pool.go:14", after := #[{ on := 5, ground := .data }, { on := 9, ground := .data }, { on := 18, ground := .data }], guard := none }) rfl (fun K hK => ?_) AllReadyH.nil
    go_simp
    refine hK.out _ _ (KEEP.out _ _ hS3 ((Bel.refl _).alloc _)) (fun hS4 => ?_)
    clear hK K
    try simp only [Act.put, List.setIfInBounds_toArray, List.set_cons_zero, List.set_cons_succ]
    refine wpAnyH_ready (rs := [20]) (by kernel_rfl) (by simp) ?_
    refine AllReadyH.cons (o := { dst := some 23, op := .call { callee := .value (.func 44), args := #[.tmp 22], argTypes := #[79] }, type := 27, pos := "pool.go:14", after := #[{ on := 19, ground := .data }, { on := 18, ground := .chain }], guard := none }) rfl (fun K hK => ?_) AllReadyH.nil
    go_simp
    refine (first _ 3 _ [ife (decide (S < T)) 9, ife (decide (4611686018427387904 < T)) 12, ife false 11] _ rfl (by decide) (three _ (ht0.bel (kb1.trans kb2)) (ht1.bel kb2) ht2 rfl)).mono ?_
    rintro e v5 ⟨rfl, kb3⟩
    go_wp2_with fail
    refine hK.out _ _ (KEEP.out _ _ hS4 kb3) (fun hS5 => ?_)
    clear hK K
    try simp only [Act.put, List.setIfInBounds_toArray, List.set_cons_zero, List.set_cons_succ]
    refine wpAnyH_take (i := 21) (oi := { dst := some 2, op := .assign (.tmp 23), type := 27, pos := "pool.go:14", after := #[{ on := 20, ground := .data }, { on := 20, ground := .chain }, { on := 0, ground := .phase }, { on := 1, ground := .phase }, { on := 2, ground := .phase }, { on := 3, ground := .phase }, { on := 4, ground := .phase }, { on := 5, ground := .phase }, { on := 6, ground := .phase }, { on := 7, ground := .phase }, { on := 8, ground := .phase }, { on := 9, ground := .phase }, { on := 10, ground := .phase }, { on := 11, ground := .phase }, { on := 12, ground := .phase }, { on := 13, ground := .phase }, { on := 14, ground := .phase }, { on := 15, ground := .phase }, { on := 16, ground := .phase }, { on := 17, ground := .phase }, { on := 18, ground := .phase }, { on := 19, ground := .phase }, { on := 20, ground := .phase }], guard := none }) (v := .int .i64 (fE [ife (decide (S < T)) 9, ife (decide (4611686018427387904 < T)) 12, ife false 11])) rfl (by kernel_rfl) (by kernel_rfl) (by kernel_rfl) (fun _ _ _ h => h) (Or.inl ⟨by rfl, by intro w hSw; clear hSw; go_simp⟩) hS5 ?_
    try simp only [Act.put, List.setIfInBounds_toArray, List.set_cons_zero, List.set_cons_succ]
    refine wpAnyH_done (by kernel_rfl) ?_ _
    have hS := hS5
    rw [show fE [ife (decide (S < T)) 9, ife (decide (4611686018427387904 < T)) 12, ife (false) 11] = chk T S from HK.out]
    go_wp2_with fail
    go_ret
    exact ⟨rfl, hS.1⟩
end Sh
end Go.Proofs.Ytmfajljgcndgfaa
