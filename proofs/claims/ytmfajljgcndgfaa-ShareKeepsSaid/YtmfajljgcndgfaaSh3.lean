/-
  What share's value and price answer, as plain functions of the numbers. Conditions: the amounts are words.
-/
import Derived.Test.YtmfajljgcndgfaaSh2
namespace Go.Proofs.Ytmfajljgcndgfaa
open Go.RowKit Go.Shelf
set_option linter.unusedVariables false
namespace Sh
open Fix

def rT (T : Int) : Int := if T = 0 then 1 else T
def rS (T S : Int) : Int := if T = 0 then 1 else S
theorem rate (T S : Int) (w : World) (hv : T = 0 → S = 0) :
    Calls Try.prog 46 #[pV T S] w fun r w' => r = .returned (.tuple #[.int .u64 (rT T), .int .u64 (rS T S)]) ∧ Bel w w' := by
  by_cases hT : T = 0
  · obtain rfl := hv hT
    subst hT
    go_enter Try.func46, Try.ntmps46
    go_wp2
    go_ret2
    exact ⟨rfl, (Bel.refl _).alloc _⟩
  · have hT1 : (T == 0) = false := by simpa using hT
    have E1 := Lib.hid (show rT T = T from if_neg hT)
    have E2 := Lib.hid (show rS T S = S from if_neg hT)
    go_enter Try.func46, Try.ntmps46
    go_upto_region 3 with fail
    go_quiet (fail)

    go_wp2
    go_ret2
    exact ⟨by rw [E1.out, E2.out]; rfl, ((Bel.refl _).alloc _).drewN _⟩
theorem rT0 {T : Int} (h : 0 ≤ T) (h1 : T ≤ 18446744073709551615) : 0 ≤ rT T ∧ rT T ≤ 18446744073709551615 := by unfold rT; split <;> omega
theorem rS0 {T S : Int} (h : 0 ≤ S) (h1 : S ≤ 18446744073709551615) : 0 ≤ rS T S ∧ rS T S ≤ 18446744073709551615 := by unfold rS; split <;> omega

theorem exA (n o h : Int) (w : World) (n0 : 0 ≤ n) (n1 : n ≤ 18446744073709551615) (o0 : 0 ≤ o) (o1 : o ≤ 18446744073709551615) (h0 : 0 ≤ h) (h1 : h ≤ 18446744073709551615) :
    Calls Try.prog 47 #[.int .u64 n, .int .u64 o, .int .u64 h] w fun r w' => r = .returned (.tuple #[.int .u64 (mdN n h o), .int .i64 (mdE n h o)]) ∧ Bel w w' := by
  have MD := Lib.hid (fun W => mulDiv n h o W n0 n1 h0 h1 o0 o1)
  go_enter Try.func47, Try.ntmps47
  go_wp2_with fail
  refine (MD.out _).mono ?_
  rintro e w' ⟨rfl, hb⟩
  have HB := Lib.hid hb
  clear hb
  go_wp2_with fail
  go_ret2
  exact ⟨rfl, HB.out⟩
theorem exB (n o h : Int) (w : World) (n0 : 0 ≤ n) (n1 : n ≤ 18446744073709551615) (o0 : 0 ≤ o) (o1 : o ≤ 18446744073709551615) (h0 : 0 ≤ h) (h1 : h ≤ 18446744073709551615) :
    Calls Try.prog 48 #[.int .u64 n, .int .u64 o, .int .u64 h] w fun r w' => r = .returned (.tuple #[.int .u64 (mdN n h o), .int .i64 (mdE n h o)]) ∧ Bel w w' := by
  have MD := Lib.hid (fun W => mulDiv n h o W n0 n1 h0 h1 o0 o1)
  go_enter Try.func48, Try.ntmps48
  go_wp2_with fail
  refine (MD.out _).mono ?_
  rintro e w' ⟨rfl, hb⟩
  have HB := Lib.hid hb
  clear hb
  go_wp2_with fail
  go_ret2
  exact ⟨rfl, HB.out⟩
/-- The document's Value. -/
def valE (T S x : Int) : Int := if ¬ chk T S = 0 then chk T S else if S < x then 13 else 0
def valN (T S x : Int) : Int := if valE T S x = 0 then x * T / S else 0
theorem valE_of (T S x : Int) : fE [chk T S, ife (decide (S < x)) 13] = valE T S x := by
  unfold valE fE fE fE ife
  by_cases h : chk T S = 0
  · simp only [h, not_true, if_true, if_false]
    by_cases h2 : S < x <;> simp [h2]
  · simp [h]
theorem valE_ok {T S x : Int} (h : valE T S x = 0) : chk T S = 0 ∧ x ≤ S := by
  unfold valE at h
  split at h
  · exact absurd h ‹_›
  · split at h
    · cases h
    · exact ⟨by simpa using ‹¬ ¬ chk T S = 0›, by omega⟩
/-- What the value is, and its bounds. -/
theorem val_of {T S x : Int} (t0 : 0 ≤ T) (x0 : 0 ≤ x) (h : valE T S x = 0) : mdN x (rT T) (rS T S) = valN T S x ∧ mdE x (rT T) (rS T S) = 0 ∧ 0 ≤ valN T S x ∧ valN T S x ≤ T := by
  obtain ⟨hc, hx⟩ := valE_ok h
  obtain ⟨h1, h2, h3⟩ := chk_ok hc
  have e : valN T S x = x * T / S := if_pos h
  rw [e]
  by_cases hT : T = 0
  · obtain rfl := h3 hT
    subst hT
    obtain rfl : x = 0 := by omega
    refine ⟨rfl, rfl, ?_, ?_⟩ <;> decide
  · have hS : 0 < S := by omega
    rw [show rT T = T from if_neg hT, show rS T S = S from if_neg hT]
    have m0 : 0 ≤ x * T := Int.mul_nonneg x0 t0
    have m1 : x * T ≤ S * T := Int.mul_le_mul_of_nonneg_right hx t0
    have d0 : 0 ≤ x * T / S := Int.ediv_nonneg m0 (by omega)
    have d1 : x * T / S ≤ T := Int.ediv_le_of_le_mul hS (by rw [Int.mul_comm T S]; exact m1)
    obtain ⟨a1, a2⟩ := amt_of (P := x * T / S) (by omega)
    unfold mdN mdE
    rw [if_neg (by omega), if_neg (by omega)]
    exact ⟨a1, a2, d0, d1⟩
theorem val_no {T S x : Int} (h : ¬ valE T S x = 0) : valN T S x = 0 := if_neg h

theorem two {w : World} {b : Nat} {v0 v1 : Value} {e0 e1 : Int} (t : TypeId) (h0 : Tells w v0 e0) (h1 : Tells w v1 e1) (hb : w.heap.size = b) :
    ∀ i, i < 2 → ∃ v, (w.alloc (.cells #[v0, v1] t)).cell? ⟨b, i, none⟩ = some v ∧ Tells (w.alloc (.cells #[v0, v1] t)) v ([e0, e1].getD i 0) := by
  subst hb
  have B := (Bel.refl w).alloc (.cells #[v0, v1] t)
  intro i hi
  match i, hi with
  | 0, _ => exact ⟨v0, by simp, h0.bel B⟩
  | 1, _ => exact ⟨v1, by simp, h1.bel B⟩
theorem tells_check (T S : Int) (w : World) (t0 : 0 ≤ T) (s0 : 0 ≤ S) : Tells w (.func (.func 33) #[pV T S] #[]) (chk T S) :=
  ⟨_, _, _, rfl, enter_e, fun w' _ => check T S w' t0 s0⟩

set_option maxRecDepth 10000 in
set_option maxHeartbeats 2000000 in
theorem value (T S x : Int) (w : World) (t0 : 0 ≤ T) (t1 : T ≤ 18446744073709551615) (s0 : 0 ≤ S) (s1 : S ≤ 18446744073709551615) (x0 : 0 ≤ x) (x1 : x ≤ 18446744073709551615) :
    Calls Try.prog 29 #[pV T S, .int .u64 x] w fun r w' => r = .returned (.tuple #[.int .u64 (valN T S x), .int .i64 (valE T S x)]) ∧ Bel w w' := by
  have TC := Lib.hid (fun W => tells_check T S W t0 s0)
  have EX := Lib.hid (fun W => exA x (rS T S) (rT T) W x0 x1 (rS0 s0 s1).1 (rS0 s0 s1).2 (rT0 t0 t1).1 (rT0 t0 t1).2)
  have RA := Lib.hid (fun (h : chk T S = 0) W => rate T S W (chk_ok h).2.2)
  have VO := Lib.hid (fun h => val_of (T := T) (S := S) (x := x) t0 x0 h)
  go_enter Try.func29, Try.ntmps29
  go_upto_region 1 with fail
  obtain ⟨W, hW⟩ : ∃ W, w.alloc (.cells #[.int .u64 T, .int .u64 S] 53) = W := ⟨_, rfl⟩
  obtain ⟨p, hp⟩ : ∃ p, w.heap.size = p := ⟨_, rfl⟩
  have hc : Bel w W.drew ∧ W.drew.cell? ⟨p, 0, none⟩ = some (.int .u64 T) ∧ W.drew.cell? ⟨p, 1, none⟩ = some (.int .u64 S) := by
    subst hW hp
    exact ⟨((Bel.refl _).alloc _).drew, by simp, by simp⟩
  have KEEP := Lib.hid (show ∀ V V' : World, (Bel w V ∧ V.cell? ⟨p, 0, none⟩ = some (.int .u64 T) ∧ V.cell? ⟨p, 1, none⟩ = some (.int .u64 S)) → Bel V V' → (Bel w V' ∧ V'.cell? ⟨p, 0, none⟩ = some (.int .u64 T) ∧ V'.cell? ⟨p, 1, none⟩ = some (.int .u64 S)) from
    fun V V' h hb => ⟨h.1.trans hb, cell_bel h.2.1 hb, cell_bel h.2.2 hb⟩)
  rw [hp, hW]
  clear hW hp
  refine wp_region_held_drew (S := fun V => Bel w V ∧ V.cell? ⟨p, 0, none⟩ = some (.int .u64 T) ∧ V.cell? ⟨p, 1, none⟩ = some (.int .u64 S)) (by kernel_rfl) hc (fun hS0 => ?_)
  obtain ⟨w6, hw6⟩ : ∃ w6, W.drew = w6 := ⟨_, rfl⟩
  rw [hw6] at hS0 ⊢
  clear hw6 hc
  refine wpAnyH_take (i := 0) (oi := { dst := some 9, op := .load 53 (.tmp 2), type := 53, pos := "pool.go:30", after := #[], guard := none }) (v := pV T S) rfl (by kernel_rfl) (by kernel_rfl) (by kernel_rfl) (fun _ _ _ h => h) (Or.inl ⟨by rfl, by intro w h; obtain ⟨hcell, hcell2⟩ := (h.2); clear h; go_simp⟩) hS0 ?_
  try simp only [Act.put, List.setIfInBounds_toArray, List.set_cons_zero, List.set_cons_succ]
  refine wpAnyH_take (i := 1) (oi := { dst := some 10, op := Op.makeFunc (Fn.func 33) #[.tmp 9] #[], type := 60, pos := "pool.go:30", after := #[{ on := 0, ground := .data }], guard := none }) (v := .func (.func 33) #[pV T S] #[]) rfl (by kernel_rfl) (by kernel_rfl) (by kernel_rfl) (fun _ _ _ h => h) (Or.inl ⟨by rfl, by intro w hSw; clear hSw; go_simp⟩) hS0 ?_
  try simp only [Act.put, List.setIfInBounds_toArray, List.set_cons_zero, List.set_cons_succ]
  refine wpAnyH_take (i := 2) (oi := { dst := some 11, op := .move (.tmp 1), type := 55, pos := "pool.go:30", after := #[], guard := none }) (v := .int .u64 x) rfl (by kernel_rfl) (by kernel_rfl) (by kernel_rfl) (fun _ _ _ h => h) (Or.inl ⟨by rfl, by intro w hSw; clear hSw; go_simp⟩) hS0 ?_
  try simp only [Act.put, List.setIfInBounds_toArray, List.set_cons_zero, List.set_cons_succ]
  refine wpAnyH_take (i := 3) (oi := { dst := some 12, op := .fieldAddr 53 (.tmp 2) 1, type := 0, pos := "pool.go:30", after := #[], guard := none }) (v := .pointer (some ⟨p, 1, none⟩)) rfl (by kernel_rfl) (by kernel_rfl) (by kernel_rfl) (fun _ _ _ h => h) (Or.inl ⟨by rfl, by intro w hSw; clear hSw; go_simp⟩) hS0 ?_
  try simp only [Act.put, List.setIfInBounds_toArray, List.set_cons_zero, List.set_cons_succ]
  refine wpAnyH_take (i := 4) (oi := { dst := some 13, op := .load 22 (.tmp 12), type := 22, pos := "pool.go:30", after := #[{ on := 3, ground := .data }], guard := none }) (v := .int .u64 S) rfl (by kernel_rfl) (by kernel_rfl) (by kernel_rfl) (fun _ _ _ h => h) (Or.inl ⟨by rfl, by intro w h; have hcell := (h.2.2); clear h; go_simp⟩) hS0 ?_
  try simp only [Act.put, List.setIfInBounds_toArray, List.set_cons_zero, List.set_cons_succ]
  refine wpAnyH_take (i := 5) (oi := { dst := some 14, op := .binOp .gtr 55 (.tmp 11) (.tmp 13) 55, type := 4, pos := "pool.go:30", after := #[{ on := 2, ground := .data }, { on := 4, ground := .data }], guard := none }) (v := .bool (decide (S < x))) rfl (by kernel_rfl) (by kernel_rfl) (by kernel_rfl) (fun _ _ _ h => h) (Or.inl ⟨by rfl, by intro w hSw; clear hSw; go_simp⟩) hS0 ?_
  try simp only [Act.put, List.setIfInBounds_toArray, List.set_cons_zero, List.set_cons_succ]
  refine wpAnyH_ready (rs := [6]) (by kernel_rfl) (by simp) ?_
  refine AllReadyH.cons (o := { dst := some 15, op := .call { callee := .value (.func 45), args := #[.tmp 14, .const (Value.int IntKind.i64 13)], argTypes := #[4, 27] }, type := 66, pos := "pool.go:30", after := #[{ on := 5, ground := .data }], guard := none }) rfl (fun K hK => ?_) AllReadyH.nil
  go_simp
  refine (unless_ _ _ _).mono ?_
  rintro e v1 ⟨a0, a1, rfl, ht0, kb0⟩
  go_wp2_with fail
  refine hK.out _ _ (KEEP.out _ _ hS0 kb0) (fun hS1 => ?_)
  clear hK K
  try simp only [Act.put, List.setIfInBounds_toArray, List.set_cons_zero, List.set_cons_succ]
  refine wpAnyH_ready (rs := [7]) (by kernel_rfl) (by simp) ?_
  refine AllReadyH.cons (o := { dst := some 16, op := .buildSlice 79 2 #[(0, .tmp 10), (1, .tmp 15)], type := 79, pos := "pool.go:30", after := #[{ on := 1, ground := .data }, { on := 6, ground := .data }], guard := none }) rfl (fun K hK => ?_) AllReadyH.nil
  go_simp
  refine hK.out _ _ (KEEP.out _ _ hS1 ((Bel.refl _).alloc _)) (fun hS2 => ?_)
  clear hK K
  try simp only [Act.put, List.setIfInBounds_toArray, List.set_cons_zero, List.set_cons_succ]
  refine wpAnyH_ready (rs := [8]) (by kernel_rfl) (by simp) ?_
  refine AllReadyH.cons (o := { dst := some 17, op := .call { callee := .value (.func 44), args := #[.tmp 16], argTypes := #[79] }, type := 27, pos := "pool.go:30", after := #[{ on := 7, ground := .data }, { on := 6, ground := .chain }], guard := none }) rfl (fun K hK => ?_) AllReadyH.nil
  go_simp
  refine (first _ 2 _ [chk T S, ife (decide (S < x)) 13] _ rfl (by decide) (two _ (TC.out _) ht0 rfl)).mono ?_
  rintro e v3 ⟨rfl, kb1⟩
  go_wp2_with fail
  refine hK.out _ _ (KEEP.out _ _ hS2 kb1) (fun hS3 => ?_)
  clear hK K
  try simp only [Act.put, List.setIfInBounds_toArray, List.set_cons_zero, List.set_cons_succ]
  refine wpAnyH_take (i := 9) (oi := { dst := some 6, op := .assign (.tmp 17), type := 27, pos := "pool.go:30", after := #[{ on := 8, ground := .data }, { on := 8, ground := .chain }, { on := 0, ground := .phase }, { on := 1, ground := .phase }, { on := 2, ground := .phase }, { on := 3, ground := .phase }, { on := 4, ground := .phase }, { on := 5, ground := .phase }, { on := 6, ground := .phase }, { on := 7, ground := .phase }, { on := 8, ground := .phase }], guard := none }) (v := .int .i64 (fE [chk T S, ife (decide (S < x)) 13])) rfl (by kernel_rfl) (by kernel_rfl) (by kernel_rfl) (fun _ _ _ h => h) (Or.inl ⟨by rfl, by intro w hSw; clear hSw; go_simp⟩) hS3 ?_
  try simp only [Act.put, List.setIfInBounds_toArray, List.set_cons_zero, List.set_cons_succ]
  refine wpAnyH_done (by kernel_rfl) ?_ _
  rw [valE_of]
  have hS := hS3
  obtain ⟨V, hV⟩ : ∃ V, V = v3 := ⟨_, rfl⟩
  by_cases hE : valE T S x = 0
  · obtain ⟨m1, m2, m3, m4⟩ := VO.out hE
    have M1 := Lib.hid m1
    have M2 := Lib.hid m2
    clear m1 m2 m3 m4
    have hE1 := Lib.hid hE
    rw [hE]
    go_wp2_with fail
    refine (RA.out (valE_ok hE1.out).1 _).mono ?_
    rintro e w9 ⟨rfl, kb⟩
    have k9 := Lib.hid (hS.1.trans kb)
    clear kb
    go_wp2_with fail
    refine (EX.out _).mono ?_
    rintro e w10 ⟨rfl, kb⟩
    have k10 := Lib.hid (k9.out.trans kb)
    clear kb
    go_wp2_with fail
    go_ret2
    exact ⟨by rw [M1.out, M2.out, hE1.out]; rfl, k10.out⟩
  · have hE1 : (valE T S x != 0) = true := by simpa using hE
    have M1 := Lib.hid (val_no hE)
    go_wp2_with fail
    go_ret2
    exact ⟨by rw [M1.out]; rfl, hS.1⟩

/-- The document's Price. -/
def pri (T S a : Int) : Int := if S = 0 then a else a * S / T
def priE (T S a : Int) : Int := if ¬ chk T S = 0 then chk T S else if 18446744073709551615 < pri T S a then 12 else 0
def priN (T S a : Int) : Int := if priE T S a = 0 then pri T S a else 0
theorem pri0 {T S a : Int} (t0 : 0 ≤ T) (s0 : 0 ≤ S) (a0 : 0 ≤ a) : 0 ≤ pri T S a := by
  unfold pri
  split
  · exact a0
  · exact Int.ediv_nonneg (Int.mul_nonneg a0 s0) t0
theorem pri_of {T S a : Int} (t0 : 0 ≤ T) (s0 : 0 ≤ S) (a0 : 0 ≤ a) (a1 : a ≤ 18446744073709551615) (hc : chk T S = 0) : mdN a (rS T S) (rT T) = priN T S a ∧ mdE a (rS T S) (rT T) = priE T S a := by
  obtain ⟨h1, h2, h3⟩ := chk_ok hc
  have p0 := pri0 t0 s0 a0
  have e : mdN a (rS T S) (rT T) = amt (pri T S a) ∧ mdE a (rS T S) (rT T) = amtE (pri T S a) := by
    by_cases hT : T = 0
    · obtain rfl := h3 hT
      subst hT
      have e1 : pri 0 0 a = a := if_pos rfl
      rw [e1]
      unfold mdN mdE rS rT
      simp
    · unfold mdN mdE rS rT pri
      simp [hT, show ¬ S = 0 by omega]
  rw [e.1, e.2]
  unfold priN priE
  rcases Int.lt_or_le 18446744073709551615 (pri T S a) with h | h
  · obtain ⟨a1, a2⟩ := amt_no h
    rw [a1, a2]
    simp [hc, h]
  · obtain ⟨a1, a2⟩ := amt_of h
    rw [a1, a2]
    simp [hc, show ¬ 18446744073709551615 < pri T S a by omega]
theorem priN_le {T S a : Int} (t0 : 0 ≤ T) (s0 : 0 ≤ S) (a0 : 0 ≤ a) : 0 ≤ priN T S a ∧ priN T S a ≤ 18446744073709551615 := by
  have p0 := pri0 t0 s0 a0
  unfold priN
  split
  · rename_i h
    unfold priE at h
    split at h
    · exact absurd h ‹_›
    · split at h
      · cases h
      · omega
  · omega
theorem pri_no {T S a : Int} (h : ¬ chk T S = 0) : priE T S a = chk T S ∧ priN T S a = 0 := by
  have e : priE T S a = chk T S := if_pos h
  exact ⟨e, if_neg (by rw [e]; exact h)⟩

set_option maxRecDepth 10000 in
set_option maxHeartbeats 2000000 in
theorem price (T S a : Int) (w : World) (t0 : 0 ≤ T) (t1 : T ≤ 18446744073709551615) (s0 : 0 ≤ S) (s1 : S ≤ 18446744073709551615) (a0 : 0 ≤ a) (a1 : a ≤ 18446744073709551615) :
    Calls Try.prog 31 #[pV T S, .int .u64 a] w fun r w' => r = .returned (.tuple #[.int .u64 (priN T S a), .int .i64 (priE T S a)]) ∧ Bel w w' := by
  have CH := Lib.hid (fun W => check T S W t0 s0)
  have EX := Lib.hid (fun W => exB a (rT T) (rS T S) W a0 a1 (rT0 t0 t1).1 (rT0 t0 t1).2 (rS0 s0 s1).1 (rS0 s0 s1).2)
  have RA := Lib.hid (fun (h : chk T S = 0) W => rate T S W (chk_ok h).2.2)
  have PO := Lib.hid (fun h => pri_of (T := T) (S := S) (a := a) t0 s0 a0 a1 h)
  go_enter Try.func31, Try.ntmps31
  go_wp2_with fail
  refine (CH.out _).mono ?_
  rintro e w1 ⟨rfl, kb⟩
  obtain ⟨W, hW⟩ : ∃ W, w.alloc (.cells #[.int .u64 T, .int .u64 S] 53) = W := ⟨_, rfl⟩
  obtain ⟨p, hp⟩ : ∃ p, w.heap.size = p := ⟨_, rfl⟩
  have hc : Bel w w1 ∧ w1.cell? ⟨p, 0, none⟩ = some (.int .u64 T) ∧ w1.cell? ⟨p, 1, none⟩ = some (.int .u64 S) := by
    subst hp
    exact ⟨((Bel.refl _).alloc _).trans kb, cell_bel (by simp) kb, cell_bel (by simp) kb⟩
  obtain ⟨hc1, hc2, hc3⟩ := hc
  rw [hp]
  clear hp kb hW
  have k1 := Lib.hid hc1
  clear hc1
  by_cases hE : chk T S = 0
  · obtain ⟨m1, m2⟩ := PO.out hE
    have M1 := Lib.hid m1
    have M2 := Lib.hid m2
    clear m1 m2
    have hE1 := Lib.hid hE
    rw [hE]
    go_wp2_with fail
    refine (RA.out hE1.out _).mono ?_
    rintro e w9 ⟨rfl, kb⟩
    have k9 := Lib.hid (k1.out.trans kb)
    clear kb
    go_wp2_with fail
    refine (EX.out _).mono ?_
    rintro e w10 ⟨rfl, kb⟩
    have k10 := Lib.hid (k9.out.trans kb)
    clear kb
    go_wp2_with fail
    go_ret2
    exact ⟨by rw [M1.out, M2.out]; rfl, k10.out⟩
  · have hE1 : (chk T S != 0) = true := by simpa using hE
    have M1 := Lib.hid (pri_no (a := a) hE)
    go_wp2_with fail
    go_ret2
    exact ⟨by rw [M1.out.1, M1.out.2]; rfl, k1.out⟩
end Sh
end Go.Proofs.Ytmfajljgcndgfaa
