/-
  StampEnds: a lot that was undelegated backed its Validator till then, and its Prior as ever. Conditions: the height is an int's number.
-/
import Derived.Test.YtagcpphkabkgjaaSm5k
namespace Go.Proofs.Ytagcpphkabkgjaa
open Go.RowKit Go.Shelf
set_option linter.unusedVariables false
namespace Sm
open Cd

theorem ends1 {u : Int} (a b c d v h : Int) (hu : u < 1) : bkB a b c d v h 0 = bkB a b c d v h u := by
  have e : hsL a b c d v 0 = hsL a b c d v u := by unfold hsL; rw [if_pos (show (0 : Int) < 1 by decide), if_pos hu]
  have e2 : hsF a b c d v 0 = hsF a b c d v u := rfl
  unfold bkB
  rw [e, e2]
theorem ends2 {u : Int} (a b c d v h : Int) (hu : ¬ u < 1) (hh : h ≤ 9223372036854775807) : bkB a b c d v h u = (bkB a b c d v h 0 && ((v == c) || decide (h ≤ u))) := by
  unfold bkB
  by_cases h0 : ck a b c d = 0
  · obtain ⟨a0, a1, b0, b1, c0, c1, d0, d1, n1, n2, n3⟩ := ck_ok h0
    rw [decide_eq_true h0, Bool.true_and, Bool.true_and]
    by_cases hva : v = a
    · subst hva
      have hvc : (v == c) = false := beq_eq_false_iff_ne.2 (fun e => n1 e.symm)
      have eb : (b == 0) = false := beq_eq_false_iff_ne.2 (by omega)
      unfold hsF hsL hasB
      rw [if_pos rfl, if_pos rfl, if_pos rfl, if_neg hu, if_pos (show (0 : Int) < 1 by decide), hvc, eb, decide_eq_true hh]
      simp
    · unfold hsF hsL
      rw [if_neg hva, if_neg hva, if_neg hva]
      by_cases hvc : v = c
      · subst hvc
        rw [beq_self_eq_true, Bool.true_or, Bool.and_true]
      · have e : ¬ (v = c ∧ v ≠ -1) := fun h => hvc h.1
        rw [if_neg e, if_neg e]
        rfl
  · rw [decide_eq_false h0]
    rfl

/-- Stamps' blocks. -/
abbrev SB (W : World) (b : Nat) (x1 x2 x3 x4 : Int) : Prop := Blk W b #[.int .i64 x1, .int .i64 x2, .int .i64 x3, .int .i64 x4] 23
theorem SB.rng {W : World} {b : Nat} {x1 x2 x3 x4 : Int} (h : SB W b x1 x2 x3 x4) : W.rangeAt b 0 [.int .i64 x1, .int .i64 x2, .int .i64 x3, .int .i64 x4] := Pm.rngB (C := [.int .i64 x1, .int .i64 x2, .int .i64 x3, .int .i64 x4]) h
/-- One stamp's block, and all that was there. -/
def S1 (w : World) (p : Nat) (a b c d : Int) (V : World) : Prop := Bel w V ∧ SB V p a b c d
theorem S1.up {w V V' : World} {p : Nat} {a b c d : Int} (h : S1 w p a b c d V) (hb : Bel V V') : S1 w p a b c d V' := ⟨h.1.trans hb, h.2.bel hb⟩
theorem info_st4 (x1 x2 x3 x4 : Int) : (Try.prog.info? 23).map (·.size) = some ([.int .i64 x1, .int .i64 x2, .int .i64 x3, .int .i64 x4] : List Value).length := info_st

set_option maxRecDepth 10000 in
set_option maxHeartbeats 1000000 in
theorem endsLaw (a b c d v h u : Int) (w : World) (hh : h ≤ 9223372036854775807) :
    Calls Try.prog 6 #[stV a b c d, .int .i64 v, .int .i64 h, .int .i64 u] w fun r w' => r = .returned (.bool true) ∧ Bel w w' := by
  have KN := Lib.hid (fun W => knownS W)
  have B0 := Lib.hid (fun V => backedC a b c d v h 0 V)
  have BU := Lib.hid (fun V => backedC a b c d v h u V)
  have E1 := Lib.hid (fun hu => ends1 (u := u) a b c d v h hu)
  have E2 := Lib.hid (fun hu => ends2 (u := u) a b c d v h hu hh)
  obtain ⟨X, hX⟩ : ∃ X, bkB a b c d v h 0 = X := ⟨_, rfl⟩
  obtain ⟨Y, hY⟩ : ∃ Y, bkB a b c d v h u = Y := ⟨_, rfl⟩
  obtain ⟨P, hP⟩ : ∃ P, (v == c) = P := ⟨_, rfl⟩
  obtain ⟨Q, hQ⟩ : ∃ Q, decide (h ≤ u) = Q := ⟨_, rfl⟩
  rw [hX] at B0 E1 E2
  rw [hY] at BU E1 E2
  rw [hP, hQ] at E2
  have HP := Lib.hid hP
  have HQ := Lib.hid hQ
  have uS := Try.underlying23
  have P0 := Lib.hid (Blk.new w #[.int .i64 a, .int .i64 b, .int .i64 c, .int .i64 d] 23)
  have K0 := Lib.hid ((Bel.refl w).alloc (.cells #[.int .i64 a, .int .i64 b, .int .i64 c, .int .i64 d] 23))
  clear hX hY hh hP hQ
  go_enter Try.func6, Try.ntmps6
  go_wp2_with fail
  refine (KN.out _).mono ?_
  rintro e w1 ⟨rfl, kb⟩
  have K1 := K0.out.trans kb
  have P1 := P0.out.bel kb
  obtain ⟨p, hp⟩ : ∃ p, w.heap.size = p := ⟨_, rfl⟩
  rw [hp] at P1 ⊢
  clear hp P0 K0 kb
  go_upto_region 2 with fail
  have I0 : S1 w p a b c d w1 := ⟨K1, P1⟩
  clear K1 P1
  refine wp_region_held_drew (S := S1 w p a b c d) (by kernel_rfl) (I0.up (Bel.refl _).drew) (fun hS0 => ?_)
  clear I0
  obtain ⟨w2, hw2⟩ : ∃ w2, World.drew w1 = w2 := ⟨_, rfl⟩
  rw [hw2] at hS0 ⊢
  clear hw2
  refine wpAnyH_take (i := 0) (oi := { dst := some 14, op := .load 23 (.tmp 4), type := 23, pos := "outright.go:74", after := #[], guard := none }) (v := stV a b c d) rfl (by kernel_rfl) (by kernel_rfl) (by kernel_rfl) (fun _ _ _ h => h) (yieldsIf_load_mid (by rfl) _ _ rfl _ _ rfl _ _ (fun w h => h.2.rng) uS rfl (info_st4 a b c d)) hS0 ?_
  try simp only [Act.put, List.setIfInBounds_toArray, List.set_cons_zero, List.set_cons_succ]
  refine wpAnyH_take (i := 1) (oi := { dst := some 15, op := .move (.tmp 1), type := 3, pos := "outright.go:74", after := #[], guard := none }) (v := .int .i64 v) rfl (by kernel_rfl) (by kernel_rfl) (by kernel_rfl) (fun _ _ _ h => h) (Or.inl ⟨by rfl, by intro w hSw; clear hSw; go_simp⟩) hS0 ?_
  try simp only [Act.put, List.setIfInBounds_toArray, List.set_cons_zero, List.set_cons_succ]
  refine wpAnyH_take (i := 2) (oi := { dst := some 16, op := .move (.tmp 2), type := 3, pos := "outright.go:74", after := #[], guard := none }) (v := .int .i64 h) rfl (by kernel_rfl) (by kernel_rfl) (by kernel_rfl) (fun _ _ _ h => h) (Or.inl ⟨by rfl, by intro w hSw; clear hSw; go_simp⟩) hS0 ?_
  try simp only [Act.put, List.setIfInBounds_toArray, List.set_cons_zero, List.set_cons_succ]
  refine wpAnyH_take (i := 4) (oi := { dst := some 18, op := .load 23 (.tmp 4), type := 23, pos := "outright.go:74", after := #[], guard := none }) (v := stV a b c d) rfl (by kernel_rfl) (by kernel_rfl) (by kernel_rfl) (fun _ _ _ h => h) (yieldsIf_load_mid (by rfl) _ _ rfl _ _ rfl _ _ (fun w h => h.2.rng) uS rfl (info_st4 a b c d)) hS0 ?_
  try simp only [Act.put, List.setIfInBounds_toArray, List.set_cons_zero, List.set_cons_succ]
  refine wpAnyH_take (i := 5) (oi := { dst := some 19, op := .move (.tmp 1), type := 3, pos := "outright.go:74", after := #[], guard := none }) (v := .int .i64 v) rfl (by kernel_rfl) (by kernel_rfl) (by kernel_rfl) (fun _ _ _ h => h) (Or.inl ⟨by rfl, by intro w hSw; clear hSw; go_simp⟩) hS0 ?_
  try simp only [Act.put, List.setIfInBounds_toArray, List.set_cons_zero, List.set_cons_succ]
  refine wpAnyH_take (i := 6) (oi := { dst := some 20, op := .move (.tmp 2), type := 3, pos := "outright.go:74", after := #[], guard := none }) (v := .int .i64 h) rfl (by kernel_rfl) (by kernel_rfl) (by kernel_rfl) (fun _ _ _ h => h) (Or.inl ⟨by rfl, by intro w hSw; clear hSw; go_simp⟩) hS0 ?_
  try simp only [Act.put, List.setIfInBounds_toArray, List.set_cons_zero, List.set_cons_succ]
  refine wpAnyH_take (i := 7) (oi := { dst := some 21, op := .move (.tmp 3), type := 3, pos := "outright.go:74", after := #[], guard := none }) (v := .int .i64 u) rfl (by kernel_rfl) (by kernel_rfl) (by kernel_rfl) (fun _ _ _ h => h) (Or.inl ⟨by rfl, by intro w hSw; clear hSw; go_simp⟩) hS0 ?_
  try simp only [Act.put, List.setIfInBounds_toArray, List.set_cons_zero, List.set_cons_succ]
  refine wpAnyH_ready (rs := [3]) (by kernel_rfl) (by simp) ?_
  refine AllReadyH.cons (o := { dst := some 17, op := .call { callee := .value (.func 37), args := #[.tmp 14, .tmp 15, .tmp 16, .const (Value.int IntKind.i64 0)], argTypes := #[23, 3, 3, 3] }, type := 4, pos := "outright.go:74", after := #[{ on := 0, ground := .data }, { on := 1, ground := .data }, { on := 2, ground := .data }], guard := none }) rfl (fun K hK => ?_) AllReadyH.nil
  go_simp
  refine (B0.out _).mono ?_
  rintro e v1 ⟨rfl, kb0⟩
  go_wp2_with fail
  refine hK.out _ _ (hS0.up kb0) (fun hS1 => ?_)
  clear hK K
  try simp only [Act.put, List.setIfInBounds_toArray, List.set_cons_zero, List.set_cons_succ]
  refine wpAnyH_ready (rs := [8]) (by kernel_rfl) (by simp) ?_
  refine AllReadyH.cons (o := { dst := some 22, op := .call { callee := .value (.func 37), args := #[.tmp 18, .tmp 19, .tmp 20, .tmp 21], argTypes := #[23, 3, 3, 3] }, type := 4, pos := "outright.go:74", after := #[{ on := 4, ground := .data }, { on := 5, ground := .data }, { on := 6, ground := .data }, { on := 7, ground := .data }, { on := 3, ground := .chain }], guard := none }) rfl (fun K hK => ?_) AllReadyH.nil
  go_simp
  refine (BU.out _).mono ?_
  rintro e v2 ⟨rfl, kb1⟩
  go_wp2_with fail
  refine hK.out _ _ (hS1.up kb1) (fun hS2 => ?_)
  clear hK K
  try simp only [Act.put, List.setIfInBounds_toArray, List.set_cons_zero, List.set_cons_succ]
  refine wpAnyH_take (i := 9) (oi := { dst := some 10, op := .assign (.tmp 17), type := 4, pos := "outright.go:74", after := #[{ on := 3, ground := .data }, { on := 8, ground := .chain }, { on := 0, ground := .phase }, { on := 1, ground := .phase }, { on := 2, ground := .phase }, { on := 3, ground := .phase }, { on := 4, ground := .textOnly .lateStores }, { on := 5, ground := .textOnly .lateStores }, { on := 6, ground := .textOnly .lateStores }, { on := 7, ground := .textOnly .lateStores }, { on := 8, ground := .textOnly .lateStoresUnsure }], guard := none }) (v := .bool X) rfl (by kernel_rfl) (by kernel_rfl) (by kernel_rfl) (fun _ _ _ h => h) (Or.inl ⟨by rfl, by intro w hSw; clear hSw; go_simp⟩) hS2 ?_
  try simp only [Act.put, List.setIfInBounds_toArray, List.set_cons_zero, List.set_cons_succ]
  refine wpAnyH_take (i := 10) (oi := { dst := some 11, op := .assign (.tmp 22), type := 4, pos := "outright.go:74", after := #[{ on := 8, ground := .data }, { on := 9, ground := .chain }, { on := 0, ground := .phase }, { on := 1, ground := .phase }, { on := 2, ground := .phase }, { on := 3, ground := .phase }, { on := 4, ground := .phase }, { on := 5, ground := .phase }, { on := 6, ground := .phase }, { on := 7, ground := .phase }, { on := 8, ground := .phase }, { on := 9, ground := .phase }], guard := none }) (v := .bool Y) rfl (by kernel_rfl) (by kernel_rfl) (by kernel_rfl) (fun _ _ _ h => h) (Or.inl ⟨by rfl, by intro w hSw; clear hSw; go_simp⟩) hS2 ?_
  try simp only [Act.put, List.setIfInBounds_toArray, List.set_cons_zero, List.set_cons_succ]
  refine wpAnyH_done (by kernel_rfl) ?_ _
  have HA := Lib.hid hS2.1
  have c2 := hS2.2.cell 2 rfl
  clear hS0 hS1 hS2 kb0 kb1
  by_cases hu : u < 1
  · obtain rfl : X = Y := E1.out hu
    have hX : (X == X) = true := beq_self_eq_true X
    go_wp2_with fail
    go_ret
    exact ⟨rfl, HA.out⟩
  · have E := E2.out (by omega)
    have hP := HP.out
    have hQ := HQ.out
    clear E1 E2
    cases X <;> cases P <;> cases Q <;> (obtain rfl := E)
    all_goals
      go_wp2_with fail
      go_ret
      exact ⟨rfl, HA.out⟩
end Sm
end Go.Proofs.Ytagcpphkabkgjaa
