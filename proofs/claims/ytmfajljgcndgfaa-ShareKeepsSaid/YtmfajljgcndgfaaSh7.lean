/-
  What distraintref11's functions answer: the same plain functions of the numbers. Conditions: the amounts are words.
-/
import Derived.Test.YtmfajljgcndgfaaSh6
import Derived.Test.YtmfajljgcndgfaaRefApi
import Derived.Test.YtmfajljgcndgfaaFixSum
namespace Go.Proofs.Ytmfajljgcndgfaa
open Go.RowKit Go.Shelf
set_option linter.unusedVariables false
namespace Sh
open Fix

theorem chk9 {T S : Int} (h : S < T) : chk T S = 9 := if_pos h
theorem chk12 {T S : Int} (h : ¬ S < T) (h2 : 4611686018427387904 < T) : chk T S = 12 := by unfold chk; rw [if_neg h, if_pos h2]
theorem chk11 {T S : Int} (h : ¬ S < T) (h2 : T = 0) (h3 : ¬ S = 0) : chk T S = 11 := by unfold chk; rw [if_neg h, if_neg (by omega), if_pos ⟨h2, h3⟩]
theorem chk00 {T S : Int} (h : ¬ S < T) (h2 : ¬ 4611686018427387904 < T) (h3 : ¬ T = 0 ∨ S = 0) : chk T S = 0 := by unfold chk; rw [if_neg h, if_neg h2, if_neg (by omega)]

theorem checkR (T S : Int) (w : World) (t0 : 0 ≤ T) (s0 : 0 ≤ S) :
    Calls Try.prog 14 #[pV T S] w fun r w' => r = .returned (.int .i64 (chk T S)) ∧ Bel w w' := by
  by_cases h1 : S < T
  · have E := Lib.hid (chk9 h1)
    go_enter Try.func14, Try.ntmps14
    go_wp2_with fail
    go_ret
    exact ⟨by rw [E.out]; rfl, (Bel.refl _).alloc _⟩
  · by_cases h2 : 4611686018427387904 < T
    · have E := Lib.hid (chk12 h1 h2)
      go_enter Try.func14, Try.ntmps14
      go_wp2_with fail
      go_ret
      exact ⟨by rw [E.out]; rfl, (Bel.refl _).alloc _⟩
    · by_cases h3 : T = 0
      · subst h3
        by_cases h4 : S = 0
        · subst h4
          have E := Lib.hid (chk00 h1 h2 (.inr rfl))
          go_enter Try.func14, Try.ntmps14
          go_wp2_with fail
          go_ret
          exact ⟨by rw [E.out]; rfl, (Bel.refl _).alloc _⟩
        · have E := Lib.hid (chk11 h1 rfl h4)
          have h5 : (S != 0) = true := by simpa using h4
          go_enter Try.func14, Try.ntmps14
          go_wp2_with fail
          go_ret
          exact ⟨by rw [E.out]; rfl, (Bel.refl _).alloc _⟩
      · have E := Lib.hid (chk00 h1 h2 (.inl h3))
        have h5 : (T == 0) = false := by simpa using h3
        go_enter Try.func14, Try.ntmps14
        go_wp2_with fail
        go_ret
        exact ⟨by rw [E.out]; rfl, (Bel.refl _).alloc _⟩

theorem val_is {T S x : Int} (h : valE T S x = 0) : valN T S x = x * T / S := if_pos h
theorem worthR (T S x : Int) (w : World) (t0 : 0 ≤ T) (t1 : T ≤ 18446744073709551615) (s0 : 0 ≤ S) (s1 : S ≤ 18446744073709551615) (x0 : 0 ≤ x) (x1 : x ≤ 18446744073709551615) (h : valE T S x = 0) :
    Calls Try.prog 30 #[pV T S, .int .u64 x] w fun r w' => r = .returned (.int .u64 (valN T S x)) ∧ Bel w w' := by
  have VO := Lib.hid (val_of (T := T) (S := S) (x := x) t0 x0 h)
  have VI := Lib.hid (val_is h)
  have MD := Lib.hid (fun W => Ref.mulDiv x T S W x0 x1 t0 t1 s0 s1)
  by_cases hS : S = 0
  · subst hS
    have E := Lib.hid (show valN T 0 x = 0 by rw [VI.out]; exact Int.ediv_zero _)
    go_enter Try.func30, Try.ntmps30
    go_wp2_with fail
    go_ret
    exact ⟨by rw [E.out]; rfl, (Bel.refl _).alloc _⟩
  · have h5 : (S == 0) = false := by simpa using hS
    have E := Lib.hid (show mdN x T S = valN T S x by
      have h1 := VO.out.1
      by_cases hT : T = 0
      · obtain ⟨hc, _⟩ := valE_ok h
        exact absurd ((chk_ok hc).2.2 hT) hS
      · unfold rT rS at h1
        rw [if_neg hT, if_neg hT] at h1
        exact h1)
    go_enter Try.func30, Try.ntmps30
    go_wp2_with fail
    refine (MD.out _).mono ?_
    rintro e w1 ⟨rfl, rfl⟩
    go_wp2_with fail
    go_ret
    exact ⟨by rw [← E.out]; rfl, (Bel.refl _).alloc _⟩

theorem valE_no {T S x : Int} (h : ¬ chk T S = 0) : valE T S x = chk T S := if_pos h
theorem valE_13 {T S x : Int} (h : chk T S = 0) (hx : S < x) : valE T S x = 13 := by unfold valE; rw [if_neg (by simpa using h), if_pos hx]
theorem valE_00 {T S x : Int} (h : chk T S = 0) (hx : ¬ S < x) : valE T S x = 0 := by unfold valE; rw [if_neg (by simpa using h), if_neg hx]
/-- The pool in the block p. -/
def At (w W : World) (p : Nat) (T S : Int) : Prop := Bel w W ∧ W.cell? ⟨p, 0, none⟩ = some (.int .u64 T) ∧ W.cell? ⟨p, 1, none⟩ = some (.int .u64 S)
theorem At.up {w W W' : World} {p : Nat} {T S : Int} (h : At w W p T S) (hb : Bel W W') : At w W' p T S := ⟨h.1.trans hb, cell_bel h.2.1 hb, cell_bel h.2.2 hb⟩
theorem At.start (w : World) (T S : Int) : At w (w.alloc (.cells #[.int .u64 T, .int .u64 S] 24)) w.heap.size T S := ⟨(Bel.refl _).alloc _, by simp, by simp⟩

theorem valueR (T S x : Int) (w : World) (t0 : 0 ≤ T) (t1 : T ≤ 18446744073709551615) (s0 : 0 ≤ S) (s1 : S ≤ 18446744073709551615) (x0 : 0 ≤ x) (x1 : x ≤ 18446744073709551615) :
    Calls Try.prog 10 #[pV T S, .int .u64 x] w fun r w' => r = .returned (.tuple #[.int .u64 (valN T S x), .int .i64 (valE T S x)]) ∧ Bel w w' := by
  have CH := Lib.hid (fun W => checkR T S W t0 s0)
  have WO := Lib.hid (fun W h => worthR T S x W t0 t1 s0 s1 x0 x1 h)
  have A0 := Lib.hid (At.start w T S)
  go_enter Try.func10, Try.ntmps10
  go_wp2_with fail
  obtain ⟨W, hW⟩ : ∃ W, w.alloc (.cells #[.int .u64 T, .int .u64 S] 24) = W := ⟨_, rfl⟩
  obtain ⟨p, hp⟩ : ∃ p, w.heap.size = p := ⟨_, rfl⟩
  rw [hW, hp] at A0
  rw [hW, hp]
  clear hW hp
  refine (CH.out _).mono ?_
  rintro e w1 ⟨rfl, kb⟩
  obtain ⟨k1, c0, c1⟩ := A0.out.up kb
  have K1 := Lib.hid k1
  clear kb k1 A0
  by_cases hc : chk T S = 0
  · have HC := Lib.hid hc
    rw [hc]
    by_cases hx : S < x
    · have E1 := Lib.hid (valE_13 hc hx)
      have E2 := Lib.hid (val_no (T := T) (S := S) (x := x) (by rw [E1.out]; decide))
      clear hc
      go_wp2_with fail
      go_ret2
      exact ⟨by rw [E1.out, E2.out]; rfl, K1.out⟩
    · have E1 := Lib.hid (valE_00 hc hx)
      clear hc
      go_wp2_with fail
      refine (WO.out _ E1.out).mono ?_
      rintro e w2 ⟨rfl, kb⟩
      have K2 := Lib.hid (K1.out.trans kb)
      clear kb
      go_wp2_with fail
      go_ret2
      exact ⟨by rw [E1.out]; rfl, K2.out⟩
  · have E1 := Lib.hid (valE_no (x := x) hc)
    have E2 := Lib.hid (val_no (T := T) (S := S) (x := x) (by rw [E1.out]; exact hc))
    have hc1 : (chk T S != 0) = true := by simpa using hc
    go_wp2_with fail
    go_ret2
    exact ⟨by rw [E1.out, E2.out]; rfl, K1.out⟩

theorem priceR (T S a : Int) (w : World) (t0 : 0 ≤ T) (t1 : T ≤ 18446744073709551615) (s0 : 0 ≤ S) (s1 : S ≤ 18446744073709551615) (a0 : 0 ≤ a) (a1 : a ≤ 18446744073709551615) :
    Calls Try.prog 12 #[pV T S, .int .u64 a] w fun r w' => r = .returned (.tuple #[.int .u64 (priN T S a), .int .i64 (priE T S a)]) ∧ Bel w w' := by
  have CH := Lib.hid (fun W => checkR T S W t0 s0)
  have MD := Lib.hid (fun W => Ref.mulDiv a S T W a0 a1 s0 s1 t0 t1)
  have PO := Lib.hid (fun h => pri_of (T := T) (S := S) (a := a) t0 s0 a0 a1 h)
  have A0 := Lib.hid (At.start w T S)
  go_enter Try.func12, Try.ntmps12
  go_wp2_with fail
  obtain ⟨W, hW⟩ : ∃ W, w.alloc (.cells #[.int .u64 T, .int .u64 S] 24) = W := ⟨_, rfl⟩
  obtain ⟨p, hp⟩ : ∃ p, w.heap.size = p := ⟨_, rfl⟩
  rw [hW, hp] at A0
  rw [hW, hp]
  clear hW hp
  refine (CH.out _).mono ?_
  rintro e w1 ⟨rfl, kb⟩
  obtain ⟨k1, c0, c1⟩ := A0.out.up kb
  have K1 := Lib.hid k1
  clear kb k1 A0
  by_cases hc : chk T S = 0
  · obtain ⟨m1, m2⟩ := PO.out hc
    obtain ⟨g1, g2, g3⟩ := chk_ok hc
    rw [hc]
    by_cases hS : S = 0
    · subst hS
      obtain rfl : T = 0 := by omega
      have E1 := Lib.hid (show priN 0 0 a = a by
        rw [← m1]; unfold mdN rT rS; simp [(amt_of a1).1])
      have E2 := Lib.hid (show priE 0 0 a = 0 by
        rw [← m2]; unfold mdE rT rS; simp [(amt_of a1).2])
      clear m1 m2 g1 g2 g3 hc
      go_wp2_with fail
      go_ret2
      exact ⟨by rw [E1.out, E2.out]; rfl, K1.out⟩
    · have hT : ¬ T = 0 := fun e => hS (g3 e)
      unfold rT rS at m1 m2
      rw [if_neg hT, if_neg hT] at m1 m2
      have E1 := Lib.hid m1
      have E2 := Lib.hid m2
      have h5 : (S == 0) = false := by simpa using hS
      clear m1 m2 g1 g2 g3 hc
      go_wp2_with fail
      refine (MD.out _).mono ?_
      rintro e w2 ⟨rfl, rfl⟩
      go_wp2_with fail
      go_ret2
      exact ⟨by rw [← E1.out, ← E2.out]; rfl, K1.out⟩
  · have E1 := Lib.hid (pri_no (a := a) hc)
    have hc1 : (chk T S != 0) = true := by simpa using hc
    go_wp2_with fail
    go_ret2
    exact ⟨by rw [E1.out.1, E1.out.2]; rfl, K1.out⟩


/-- An operation's world: its pool in the block p, its result in the block q. -/
def Iq (w W : World) (p q : Nat) (T S : Int) : Prop := At w W p T S ∧ Ou w W q
theorem Iq.up {w W W' : World} {p q : Nat} {T S : Int} (h : Iq w W p q T S) (hb : Bel W W') : Iq w W' p q T S := ⟨h.1.up hb, h.2.up hb⟩
theorem Iq.start (w : World) (T S : Int) : Iq w ((w.alloc (.cells #[.int .u64 T, .int .u64 S] 24)).alloc (.cells #[.int .u64 0, .int .u64 0] 24)) w.heap.size (w.heap.size + 1) T S :=
  ⟨(At.start w T S).up ((Bel.refl _).alloc _), Ou.start w T S⟩
theorem priE_12 {T S a : Int} (h : chk T S = 0) (hp : ¬ priE T S a = 0) : priE T S a = 12 := by
  unfold priE at *
  rw [if_neg (by simpa using h)] at *
  split
  · rfl
  · rename_i h1; rw [if_neg h1] at hp; exact absurd rfl hp
/-- Join's error, way by way. -/
theorem joi_ways (T S a : Int) : (¬ chk T S = 0 → joiE T S a = chk T S) ∧ (chk T S = 0 → a = 0 → joiE T S a = 14) ∧ (chk T S = 0 → ¬ a = 0 → ¬ priE T S a = 0 → joiE T S a = 12) ∧
    (chk T S = 0 → ¬ a = 0 → priE T S a = 0 → 18446744073709551615 < S + priN T S a → joiE T S a = 12) ∧ (chk T S = 0 → ¬ a = 0 → priE T S a = 0 → 4611686018427387904 < T + a → joiE T S a = 12) ∧
    (chk T S = 0 → ¬ a = 0 → priE T S a = 0 → ¬ 18446744073709551615 < S + priN T S a → ¬ 4611686018427387904 < T + a → joiE T S a = 0) := by
  have hb : ∀ h : ¬ a = 0, (a == 0) = false := fun h => by simpa using h
  refine ⟨fun h => ?_, fun h h1 => ?_, fun h h1 h2 => ?_, fun h h1 h2 h3 => ?_, fun h h1 h2 h3 => ?_, fun h h1 h2 h3 h4 => ?_⟩
  · unfold joiE fE; rw [if_neg h]
  · subst h1; unfold joiE fE fE ife; simp [h]
  · have := priE_12 h h2
    unfold joiE fE fE fE ife
    simp [h, hb h1, this]
  · unfold joiE fE fE fE fE fE fE ife roomE
    by_cases h5 : 4611686018427387904 < T + a
    · simp [h, hb h1, h2, h5]
    · simp [h, hb h1, h2, h5, h3]
  · unfold joiE fE fE fE fE ife roomE
    simp [h, hb h1, h2, h3]
  · unfold joiE fE fE fE fE fE fE ife roomE
    simp [h, hb h1, h2, h3, h4]
theorem joi_no {T S a : Int} (h : ¬ joiE T S a = 0) : joiT T S a = 0 ∧ joiS T S a = 0 ∧ joiN T S a = 0 := ⟨if_neg h, if_neg h, if_neg h⟩
theorem joi_yes {T S a : Int} (h : joiE T S a = 0) : joiT T S a = T + a ∧ joiS T S a = S + priN T S a ∧ joiN T S a = priN T S a := ⟨if_pos h, if_pos h, if_pos h⟩

set_option maxRecDepth 10000 in
set_option maxHeartbeats 2000000 in
theorem joinR (T S a : Int) (w : World) (t0 : 0 ≤ T) (t1 : T ≤ 18446744073709551615) (s0 : 0 ≤ S) (s1 : S ≤ 18446744073709551615) (a0 : 0 ≤ a) (a1 : a ≤ 18446744073709551615) :
    Calls Try.prog 36 #[pV T S, .int .u64 a] w fun r w' => r = .returned (.tuple #[pV (joiT T S a) (joiS T S a), .int .u64 (joiN T S a), .int .i64 (joiE T S a)]) ∧ Bel w w' := by
  have CH := Lib.hid (fun W => checkR T S W t0 s0)
  have PR := Lib.hid (fun W => priceR T S a W t0 t1 s0 s1 a0 a1)
  have JW := Lib.hid (joi_ways T S a)
  have hP0 := priN_le t0 s0 a0 (a := a) (T := T) (S := S)
  obtain ⟨P, hP⟩ : ∃ P, priN T S a = P := ⟨_, rfl⟩
  obtain ⟨F, hF⟩ : ∃ F, priE T S a = F := ⟨_, rfl⟩
  rw [hP] at hP0
  have AD := Lib.hid (fun W => Ref.add S P W s0 s1 hP0.1 hP0.2)
  rw [hP, hF] at PR JW
  have HP := Lib.hid hP
  have HF := Lib.hid hF
  have B0 := Lib.hid hP0
  clear hP hF hP0
  have JN := Lib.hid (fun h => joi_no (T := T) (S := S) (a := a) h)
  have JY := Lib.hid (fun h => joi_yes (T := T) (S := S) (a := a) h)
  rw [HP.out] at JY
  have CO := Lib.hid (fun h => chk_ok (T := T) (S := S) h)
  have I0 := Lib.hid (Iq.start w T S)
  go_enter Try.func36, Try.ntmps36
  go_wp2_with fail
  obtain ⟨W, hW⟩ : ∃ W, (w.alloc (.cells #[.int .u64 T, .int .u64 S] 24)).alloc (.cells #[.int .u64 0, .int .u64 0] 24) = W := ⟨_, rfl⟩
  obtain ⟨p, hp⟩ : ∃ p, w.heap.size = p := ⟨_, rfl⟩
  obtain ⟨q, hq⟩ : ∃ q, p + 1 = q := ⟨_, rfl⟩
  rw [hW, hp, hq] at I0
  rw [hW, hp, hq]
  clear hW hp hq
  refine (CH.out _).mono ?_
  rintro e w1 ⟨rfl, kb⟩
  have I1 := Lib.hid (I0.out.up kb)
  clear kb I0
  obtain ⟨c0, c1⟩ : w1.cell? ⟨p, 0, none⟩ = some (.int .u64 T) ∧ w1.cell? ⟨p, 1, none⟩ = some (.int .u64 S) := ⟨I1.out.1.2.1, I1.out.1.2.2⟩
  obtain ⟨f0, f1, f2, f3⟩ : w1.cell? ⟨q, 0, none⟩ = some (.int .u64 0) ∧ w1.cell? ⟨q, 1, none⟩ = some (.int .u64 0) ∧ w1.frozen? ⟨q, 0, none⟩ = false ∧ w1.frozen? ⟨q, 1, none⟩ = false := ⟨I1.out.2.2.1.cell 0 rfl, I1.out.2.2.1.cell 1 rfl, I1.out.2.2.1.frozen 0, I1.out.2.2.1.frozen 1⟩
  by_cases hc : chk T S = 0
  · have HC := Lib.hid hc
    rw [hc]
    by_cases ha : a = 0
    · have E1 := Lib.hid (JW.out.2.1 hc ha)
      have E2 := Lib.hid (JN.out (by rw [E1.out]; decide))
      have ha1 : (a == 0) = true := by simpa using ha
      clear hc ha
      go_wp2_with fail
      refine bodyPost_ret (v := .tuple #[pV (0) (0), .int .u64 (0), .int .i64 (14)]) (res_cii rfl _ _ ⟨q, 0, none⟩ _ _ _ rfl rfl rfl (I1.out.2.load0 _ _)) rfl ⟨?_, I1.out.2.end_ _ _⟩
      rw [E1.out, E2.out.1, E2.out.2.1, E2.out.2.2]
    · have HA := Lib.hid ha
      have ha1 : (a == 0) = false := by simpa using ha
      obtain ⟨g1, g2, g3⟩ := CO.out hc
      clear hc c0 c1 f0 f1 f2 f3
      have c0 := I1.out.1.2.1
      have c1 := I1.out.1.2.2
      go_wp2_with fail
      refine (PR.out _).mono ?_
      rintro e w2 ⟨rfl, kb⟩
      have I2 := Lib.hid (I1.out.up kb)
      clear kb c0 c1
      obtain ⟨c0, c1⟩ : w2.cell? ⟨p, 0, none⟩ = some (.int .u64 T) ∧ w2.cell? ⟨p, 1, none⟩ = some (.int .u64 S) := ⟨I2.out.1.2.1, I2.out.1.2.2⟩
      obtain ⟨f0, f1, f2, f3⟩ : w2.cell? ⟨q, 0, none⟩ = some (.int .u64 0) ∧ w2.cell? ⟨q, 1, none⟩ = some (.int .u64 0) ∧ w2.frozen? ⟨q, 0, none⟩ = false ∧ w2.frozen? ⟨q, 1, none⟩ = false := ⟨I2.out.2.2.1.cell 0 rfl, I2.out.2.2.1.cell 1 rfl, I2.out.2.2.1.frozen 0, I2.out.2.2.1.frozen 1⟩
      go_wp2_with fail
      refine (AD.out _).mono ?_
      rintro e w3 ⟨rfl, rfl⟩
      have e1 : IntKind.u64.wrap (4611686018427387904 - T) = 4611686018427387904 - T := by rw [IntKind.wrap_u64]; omega
      by_cases hF : F = 0
      · have HF0 := Lib.hid hF
        subst hF
        by_cases hs : 18446744073709551615 < S + P
        · have E1 := Lib.hid (JW.out.2.2.2.1 HC.out HA.out HF0.out hs)
          have E2 := Lib.hid (JN.out (by rw [E1.out]; decide))
          obtain ⟨m1, m2⟩ := amt_no hs
          rw [m1, m2]
          clear m1 m2 hs
          go_wp2_with fail
          refine bodyPost_ret (v := .tuple #[pV (0) (0), .int .u64 (0), .int .i64 (12)]) (res_cii rfl _ _ ⟨q, 0, none⟩ _ _ _ rfl rfl rfl (I2.out.2.load0 _ _)) rfl ⟨?_, I2.out.2.end_ _ _⟩
          rw [E1.out, E2.out.1, E2.out.2.1, E2.out.2.2]
        · obtain ⟨m1, m2⟩ := amt_of (P := S + P) (by omega)
          rw [m1, m2]
          clear m1 m2
          by_cases ht : 4611686018427387904 < T + a
          · have E1 := Lib.hid (JW.out.2.2.2.2.1 HC.out HA.out HF0.out ht)
            have E2 := Lib.hid (JN.out (by rw [E1.out]; decide))
            have ht1 : 4611686018427387904 - T < a := by omega
            clear hs ht
            go_wp2_with fail
            refine bodyPost_ret (v := .tuple #[pV (0) (0), .int .u64 (0), .int .i64 (12)]) (res_cii rfl _ _ ⟨q, 0, none⟩ _ _ _ rfl rfl rfl (I2.out.2.load0 _ _)) rfl ⟨?_, I2.out.2.end_ _ _⟩
            rw [E1.out, E2.out.1, E2.out.2.1, E2.out.2.2]
          · have E1 := Lib.hid (JW.out.2.2.2.2.2 HC.out HA.out HF0.out (by omega) (by omega))
            have E2 := Lib.hid (JY.out E1.out)
            have ht1 : ¬ 4611686018427387904 - T < a := by omega
            have e2 : IntKind.u64.wrap (T + a) = T + a := by rw [IntKind.wrap_u64]; omega
            clear hs ht
            go_wp2_with fail
            refine bodyPost_ret (v := .tuple #[pV (T + a) (S + P), .int .u64 (P), .int .i64 (0)]) (res_cii rfl _ _ ⟨q, 0, none⟩ _ _ _ rfl rfl rfl (I2.out.2.load0 _ _)) rfl ⟨?_, I2.out.2.end_ _ _⟩
            rw [E1.out, E2.out.1, E2.out.2.1, E2.out.2.2]
      · have E1 := Lib.hid (JW.out.2.2.1 HC.out HA.out hF)
        have E2 := Lib.hid (JN.out (by rw [E1.out]; decide))
        have hF1 : (F != 0) = true := by simpa using hF
        go_wp2_with fail
        refine bodyPost_ret (v := .tuple #[pV (0) (0), .int .u64 (0), .int .i64 (12)]) (res_cii rfl _ _ ⟨q, 0, none⟩ _ _ _ rfl rfl rfl (I2.out.2.load0 _ _)) rfl ⟨?_, I2.out.2.end_ _ _⟩
        rw [E1.out, E2.out.1, E2.out.2.1, E2.out.2.2]
  · have E1 := Lib.hid (JW.out.1 hc)
    have E2 := Lib.hid (JN.out (by rw [E1.out]; exact hc))
    have hc1 : (chk T S != 0) = true := by simpa using hc
    go_wp2_with fail
    refine bodyPost_ret (v := .tuple #[pV (0) (0), .int .u64 (0), .int .i64 (chk T S)]) (res_cii rfl _ _ ⟨q, 0, none⟩ _ _ _ rfl rfl rfl (I1.out.2.load0 _ _)) rfl ⟨?_, I1.out.2.end_ _ _⟩
    rw [E1.out, E2.out.1, E2.out.2.1, E2.out.2.2]


theorem lea_ways (T S x : Int) : (¬ valE T S x = 0 → leaE T S x = valE T S x) ∧ (valE T S x = 0 → valN T S x = 0 → leaE T S x = 14) ∧ (valE T S x = 0 → ¬ valN T S x = 0 → leaE T S x = 0) := by
  refine ⟨fun h => ?_, fun h h1 => ?_, fun h h1 => ?_⟩
  · unfold leaE fE; rw [if_neg h]
  · unfold leaE fE fE ife; simp [h, h1]
  · unfold leaE fE fE fE ife; simp [h, h1]
theorem lea_no {T S a : Int} (h : ¬ leaE T S a = 0) : leaT T S a = 0 ∧ leaS T S a = 0 ∧ leaN T S a = 0 := ⟨if_neg h, if_neg h, if_neg h⟩
theorem lea_yes {T S a : Int} (h : leaE T S a = 0) : leaT T S a = T - valN T S a ∧ leaS T S a = S - a ∧ leaN T S a = valN T S a := ⟨if_pos h, if_pos h, if_pos h⟩

set_option maxRecDepth 10000 in
set_option maxHeartbeats 2000000 in
theorem leaveR (T S x : Int) (w : World) (t0 : 0 ≤ T) (t1 : T ≤ 18446744073709551615) (s0 : 0 ≤ S) (s1 : S ≤ 18446744073709551615) (x0 : 0 ≤ x) (x1 : x ≤ 18446744073709551615) :
    Calls Try.prog 37 #[pV T S, .int .u64 x] w fun r w' => r = .returned (.tuple #[pV (leaT T S x) (leaS T S x), .int .u64 (leaN T S x), .int .i64 (leaE T S x)]) ∧ Bel w w' := by
  have PR := Lib.hid (fun W => valueR T S x W t0 t1 s0 s1 x0 x1)
  have JW := Lib.hid (lea_ways T S x)
  have LO := Lib.hid (fun h => lea_ok (T := T) (S := S) (x := x) t0 x0 h)
  have JN := Lib.hid (fun h => lea_no (T := T) (S := S) (a := x) h)
  have JY := Lib.hid (fun h => lea_yes (T := T) (S := S) (a := x) h)
  obtain ⟨P, hP⟩ : ∃ P, valN T S x = P := ⟨_, rfl⟩
  obtain ⟨F, hF⟩ : ∃ F, valE T S x = F := ⟨_, rfl⟩
  rw [hP, hF] at PR JW LO
  rw [hP] at JY
  clear hP hF
  have I0 := Lib.hid (Iq.start w T S)
  go_enter Try.func37, Try.ntmps37
  go_wp2_with fail
  obtain ⟨W, hW⟩ : ∃ W, (w.alloc (.cells #[.int .u64 T, .int .u64 S] 24)).alloc (.cells #[.int .u64 0, .int .u64 0] 24) = W := ⟨_, rfl⟩
  obtain ⟨p, hp⟩ : ∃ p, w.heap.size = p := ⟨_, rfl⟩
  obtain ⟨q, hq⟩ : ∃ q, p + 1 = q := ⟨_, rfl⟩
  rw [hW, hp, hq] at I0
  rw [hW, hp, hq]
  clear hW hp hq
  refine (PR.out _).mono ?_
  rintro e w1 ⟨rfl, kb⟩
  have I1 := Lib.hid (I0.out.up kb)
  clear kb I0
  obtain ⟨c0, c1⟩ : w1.cell? ⟨p, 0, none⟩ = some (.int .u64 T) ∧ w1.cell? ⟨p, 1, none⟩ = some (.int .u64 S) := ⟨I1.out.1.2.1, I1.out.1.2.2⟩
  obtain ⟨f0, f1, f2, f3⟩ : w1.cell? ⟨q, 0, none⟩ = some (.int .u64 0) ∧ w1.cell? ⟨q, 1, none⟩ = some (.int .u64 0) ∧ w1.frozen? ⟨q, 0, none⟩ = false ∧ w1.frozen? ⟨q, 1, none⟩ = false := ⟨I1.out.2.2.1.cell 0 rfl, I1.out.2.2.1.cell 1 rfl, I1.out.2.2.1.frozen 0, I1.out.2.2.1.frozen 1⟩
  by_cases hF : F = 0
  · have HF0 := Lib.hid hF
    subst hF
    by_cases ha : P = 0
    · have E1 := Lib.hid (JW.out.2.1 HF0.out ha)
      have E2 := Lib.hid (JN.out (by rw [E1.out]; decide))
      subst ha
      go_wp2_with fail
      refine bodyPost_ret (v := .tuple #[pV (0) (0), .int .u64 (0), .int .i64 (14)]) (res_cii rfl _ _ ⟨q, 0, none⟩ _ _ _ rfl rfl rfl (I1.out.2.load0 _ _)) rfl ⟨?_, I1.out.2.end_ _ _⟩
      rw [E1.out, E2.out.1, E2.out.2.1, E2.out.2.2]
    · have E1 := Lib.hid (JW.out.2.2 HF0.out ha)
      have E2 := Lib.hid (JY.out E1.out)
      obtain ⟨_, _, j1, j2, j3⟩ := LO.out E1.out
      have ha1 : (P == 0) = false := by simpa using ha
      have e1 : IntKind.u64.wrap (T - P) = T - P := by rw [IntKind.wrap_u64]; omega
      have e2 : IntKind.u64.wrap (S - x) = S - x := by rw [IntKind.wrap_u64]; omega
      clear j1 j2 j3
      go_wp2_with fail
      refine bodyPost_ret (v := .tuple #[pV (T - P) (S - x), .int .u64 (P), .int .i64 (0)]) (res_cii rfl _ _ ⟨q, 0, none⟩ _ _ _ rfl rfl rfl (I1.out.2.load0 _ _)) rfl ⟨?_, I1.out.2.end_ _ _⟩
      rw [E1.out, E2.out.1, E2.out.2.1, E2.out.2.2]
  · have E1 := Lib.hid (JW.out.1 hF)
    have E2 := Lib.hid (JN.out (by rw [E1.out]; exact hF))
    have hc1 : (F != 0) = true := by simpa using hF
    go_wp2_with fail
    refine bodyPost_ret (v := .tuple #[pV (0) (0), .int .u64 (0), .int .i64 (F)]) (res_cii rfl _ _ ⟨q, 0, none⟩ _ _ _ rfl rfl rfl (I1.out.2.load0 _ _)) rfl ⟨?_, I1.out.2.end_ _ _⟩
    rw [E1.out, E2.out.1, E2.out.2.1, E2.out.2.2]

theorem cut_ways (T S x : Int) : (¬ chk T S = 0 → cutE T S x = chk T S) ∧ (chk T S = 0 → cutE T S x = partE T x) := by
  refine ⟨fun h => ?_, fun h => ?_⟩
  · unfold cutE fE; rw [if_neg h]
  · unfold cutE fE fE fE; simp [h]
    intro h2; exact h2.symm
theorem cut_no {T S a : Int} (h : ¬ cutE T S a = 0) : cutT T S a = 0 ∧ cutS T S a = 0 ∧ cutN T S a = 0 := ⟨if_neg h, if_neg fun k => h k.1, if_neg h⟩
theorem cut_yes {T S a : Int} (h : cutE T S a = 0) : cutT T S a = T - partN T a ∧ cutN T S a = partN T a ∧ (partN T a = T → cutS T S a = 0) ∧ (¬ partN T a = T → cutS T S a = S) := ⟨if_pos h, if_pos h, fun k => if_neg fun j => j.2 k, fun k => if_pos ⟨h, k⟩⟩

set_option maxRecDepth 10000 in
set_option maxHeartbeats 2000000 in
theorem cutR (T S x : Int) (w : World) (t0 : 0 ≤ T) (t1 : T ≤ 18446744073709551615) (s0 : 0 ≤ S) (s1 : S ≤ 18446744073709551615) (x0 : 0 ≤ x) (x1 : x ≤ 18446744073709551615) :
    Calls Try.prog 38 #[pV T S, .int .u64 x] w fun r w' => r = .returned (.tuple #[pV (cutT T S x) (cutS T S x), .int .u64 (cutN T S x), .int .i64 (cutE T S x)]) ∧ Bel w w' := by
  have CH := Lib.hid (fun W => checkR T S W t0 s0)
  have PR := Lib.hid (fun W => Ref.part T x W t0 t1 x0 x1)
  have JW := Lib.hid (cut_ways T S x)
  have JN := Lib.hid (fun h => cut_no (T := T) (S := S) (a := x) h)
  have JY := Lib.hid (fun h => cut_yes (T := T) (S := S) (a := x) h)
  have hb := part_b t0 t1 x0 (p := x)
  obtain ⟨P, hP⟩ : ∃ P, partN T x = P := ⟨_, rfl⟩
  obtain ⟨F, hF⟩ : ∃ F, partE T x = F := ⟨_, rfl⟩
  rw [hP, hF] at PR
  rw [hF] at JW
  rw [hP] at JY hb
  have B0 := Lib.hid hb
  clear hP hF hb
  have I0 := Lib.hid (Iq.start w T S)
  go_enter Try.func38, Try.ntmps38
  go_wp2_with fail
  obtain ⟨W, hW⟩ : ∃ W, (w.alloc (.cells #[.int .u64 T, .int .u64 S] 24)).alloc (.cells #[.int .u64 0, .int .u64 0] 24) = W := ⟨_, rfl⟩
  obtain ⟨p, hp⟩ : ∃ p, w.heap.size = p := ⟨_, rfl⟩
  obtain ⟨q, hq⟩ : ∃ q, p + 1 = q := ⟨_, rfl⟩
  rw [hW, hp, hq] at I0
  rw [hW, hp, hq]
  clear hW hp hq
  refine (CH.out _).mono ?_
  rintro e w1 ⟨rfl, kb⟩
  have I1 := Lib.hid (I0.out.up kb)
  clear kb I0
  obtain ⟨c0, c1⟩ : w1.cell? ⟨p, 0, none⟩ = some (.int .u64 T) ∧ w1.cell? ⟨p, 1, none⟩ = some (.int .u64 S) := ⟨I1.out.1.2.1, I1.out.1.2.2⟩
  obtain ⟨f0, f1, f2, f3⟩ : w1.cell? ⟨q, 0, none⟩ = some (.int .u64 0) ∧ w1.cell? ⟨q, 1, none⟩ = some (.int .u64 0) ∧ w1.frozen? ⟨q, 0, none⟩ = false ∧ w1.frozen? ⟨q, 1, none⟩ = false := ⟨I1.out.2.2.1.cell 0 rfl, I1.out.2.2.1.cell 1 rfl, I1.out.2.2.1.frozen 0, I1.out.2.2.1.frozen 1⟩
  by_cases hc : chk T S = 0
  · have HC := Lib.hid hc
    rw [hc]
    clear hc
    go_wp2_with fail
    refine (PR.out _).mono ?_
    rintro e w2 ⟨rfl, rfl⟩
    by_cases hF : F = 0
    · have E1 := Lib.hid ((JW.out.2 HC.out).trans hF)
      have E2 := Lib.hid (JY.out E1.out)
      subst hF
      by_cases hPT : P = T
      · have E3 := Lib.hid (E2.out.2.2.1 hPT)
        have E4 := Lib.hid (show T - P = 0 by omega)
        have h5 : (P == T) = true := by simpa using hPT
        clear hPT
        go_wp2_with fail
        refine bodyPost_ret (v := .tuple #[pV (0) (0), .int .u64 (P), .int .i64 (0)]) (res_cii rfl _ _ ⟨q, 0, none⟩ _ _ _ rfl rfl rfl (I1.out.2.load0 _ _)) rfl ⟨?_, I1.out.2.end_ _ _⟩
        rw [E1.out, E2.out.1, E2.out.2.1, E3.out, E4.out]
      · have E3 := Lib.hid (E2.out.2.2.2 hPT)
        have h5 : (P == T) = false := by simpa using hPT
        obtain ⟨p0, p1⟩ := B0.out
        have e1 : IntKind.u64.wrap (T - P) = T - P := by rw [IntKind.wrap_u64]; omega
        clear p0 p1
        go_wp2_with fail
        refine bodyPost_ret (v := .tuple #[pV (T - P) (S), .int .u64 (P), .int .i64 (0)]) (res_cii rfl _ _ ⟨q, 0, none⟩ _ _ _ rfl rfl rfl (I1.out.2.load0 _ _)) rfl ⟨?_, I1.out.2.end_ _ _⟩
        rw [E1.out, E2.out.1, E2.out.2.1, E3.out]
    · have E1 := Lib.hid (JW.out.2 HC.out)
      have E2 := Lib.hid (JN.out (by rw [E1.out]; exact hF))
      have hc1 : (F != 0) = true := by simpa using hF
      go_wp2_with fail
      refine bodyPost_ret (v := .tuple #[pV (0) (0), .int .u64 (0), .int .i64 (F)]) (res_cii rfl _ _ ⟨q, 0, none⟩ _ _ _ rfl rfl rfl (I1.out.2.load0 _ _)) rfl ⟨?_, I1.out.2.end_ _ _⟩
      rw [E1.out, E2.out.1, E2.out.2.1, E2.out.2.2]
  · have E1 := Lib.hid (JW.out.1 hc)
    have E2 := Lib.hid (JN.out (by rw [E1.out]; exact hc))
    have hc1 : (chk T S != 0) = true := by simpa using hc
    go_wp2_with fail
    refine bodyPost_ret (v := .tuple #[pV (0) (0), .int .u64 (0), .int .i64 (chk T S)]) (res_cii rfl _ _ ⟨q, 0, none⟩ _ _ _ rfl rfl rfl (I1.out.2.load0 _ _)) rfl ⟨?_, I1.out.2.end_ _ _⟩
    rw [E1.out, E2.out.1, E2.out.2.1, E2.out.2.2]
set_option maxRecDepth 10000 in
set_option maxHeartbeats 2000000 in
theorem should (k T S x : Int) (w : World) (t0 : 0 ≤ T) (t1 : T ≤ 18446744073709551615) (s0 : 0 ≤ S) (s1 : S ≤ 18446744073709551615) (x0 : 0 ≤ x) (x1 : x ≤ 18446744073709551615) :
    Calls Try.prog 16 #[pV T S, aV k x] w fun r w' => r = .returned (.tuple #[pV (dT k T S x) (dS k T S x), .int .u64 (dN k T S x), .int .i64 (dE k T S x)]) ∧ Bel w w' := by
  have I0 := Lib.hid (Ou.start2 w T S k x)
  have C0 := Lib.hid (fun W => joinR T S x W t0 t1 s0 s1 x0 x1)
  have C1 := Lib.hid (fun W => leaveR T S x W t0 t1 s0 s1 x0 x1)
  have C2 := Lib.hid (fun W => cutR T S x W t0 t1 s0 s1 x0 x1)
  clear t0 t1 s0 s1 x0 x1
  go_enter Try.func16, Try.ntmps16
  go_upto_region 1 with fail
  have c0 : (((w.alloc (.cells #[.int .u64 T, .int .u64 S] 24)).alloc (.cells #[.int .i64 k, .int .u64 x] 34)).alloc (.cells #[.int .u64 0, .int .u64 0] 24)).cell? ⟨w.heap.size, 0, none⟩ = some (.int .u64 T) := cell_bel (w := w.alloc (.cells #[.int .u64 T, .int .u64 S] 24)) (by simp) (((Bel.refl _).alloc _).alloc _)
  have c1 : (((w.alloc (.cells #[.int .u64 T, .int .u64 S] 24)).alloc (.cells #[.int .i64 k, .int .u64 x] 34)).alloc (.cells #[.int .u64 0, .int .u64 0] 24)).cell? ⟨w.heap.size, 1, none⟩ = some (.int .u64 S) := cell_bel (w := w.alloc (.cells #[.int .u64 T, .int .u64 S] 24)) (by simp) (((Bel.refl _).alloc _).alloc _)
  have c2 : (((w.alloc (.cells #[.int .u64 T, .int .u64 S] 24)).alloc (.cells #[.int .i64 k, .int .u64 x] 34)).alloc (.cells #[.int .u64 0, .int .u64 0] 24)).cell? ⟨w.heap.size + 1, 0, none⟩ = some (.int .i64 k) := by simp [World.cell?_alloc_old]
  have c3 : (((w.alloc (.cells #[.int .u64 T, .int .u64 S] 24)).alloc (.cells #[.int .i64 k, .int .u64 x] 34)).alloc (.cells #[.int .u64 0, .int .u64 0] 24)).cell? ⟨w.heap.size + 1, 1, none⟩ = some (.int .u64 x) := by simp [World.cell?_alloc_old]
  obtain ⟨W, hW⟩ : ∃ W, ((w.alloc (.cells #[.int .u64 T, .int .u64 S] 24)).alloc (.cells #[.int .i64 k, .int .u64 x] 34)).alloc (.cells #[.int .u64 0, .int .u64 0] 24) = W := ⟨_, rfl⟩
  obtain ⟨p, hp⟩ : ∃ p, w.heap.size = p := ⟨_, rfl⟩
  obtain ⟨p1, hp1⟩ : ∃ p1, p + 1 = p1 := ⟨_, rfl⟩
  obtain ⟨q, hq⟩ : ∃ q, p1 + 1 = q := ⟨_, rfl⟩
  rw [hW, hp, hp1, hq] at I0
  rw [hW, hp] at c0 c1
  rw [hW, hp, hp1] at c2 c3
  rw [hW, hp, hp1, hq]
  clear hW hp hp1 hq
  by_cases hk0 : k = 0
  · subst hk0
    go_wp2_with fail
    refine (C0.out _).mono ?_
    rintro e w1 ⟨rfl, kb⟩
    have hS1 := I0.out.up kb
    have I1 := Lib.hid hS1
    obtain ⟨f0, f1, f2, f3⟩ : w1.cell? ⟨q, 0, none⟩ = some (.int .u64 0) ∧ w1.cell? ⟨q, 1, none⟩ = some (.int .u64 0) ∧ w1.frozen? ⟨q, 0, none⟩ = false ∧ w1.frozen? ⟨q, 1, none⟩ = false := ⟨hS1.2.1.cell 0 rfl, hS1.2.1.cell 1 rfl, hS1.2.1.frozen 0, hS1.2.1.frozen 1⟩
    clear kb hS1
    go_wp2_with fail
    refine bodyPost_ret (res_cii rfl _ _ ⟨q, 0, none⟩ _ _ _ rfl rfl rfl (I1.out.load0 _ _)) rfl ⟨?_, I1.out.end_ _ _⟩
    rfl
  have hb0 : (k == 0) = false := by simpa using hk0
  by_cases hk1 : k = 1
  · subst hk1
    go_wp2_with fail
    refine (C1.out _).mono ?_
    rintro e w1 ⟨rfl, kb⟩
    have hS1 := I0.out.up kb
    have I1 := Lib.hid hS1
    obtain ⟨f0, f1, f2, f3⟩ : w1.cell? ⟨q, 0, none⟩ = some (.int .u64 0) ∧ w1.cell? ⟨q, 1, none⟩ = some (.int .u64 0) ∧ w1.frozen? ⟨q, 0, none⟩ = false ∧ w1.frozen? ⟨q, 1, none⟩ = false := ⟨hS1.2.1.cell 0 rfl, hS1.2.1.cell 1 rfl, hS1.2.1.frozen 0, hS1.2.1.frozen 1⟩
    clear kb hS1
    go_wp2_with fail
    refine bodyPost_ret (res_cii rfl _ _ ⟨q, 0, none⟩ _ _ _ rfl rfl rfl (I1.out.load0 _ _)) rfl ⟨?_, I1.out.end_ _ _⟩
    rfl
  have hb1 : (k == 1) = false := by simpa using hk1
  by_cases hk2 : k = 2
  · subst hk2
    go_wp2_with fail
    refine (C2.out _).mono ?_
    rintro e w1 ⟨rfl, kb⟩
    have hS1 := I0.out.up kb
    have I1 := Lib.hid hS1
    obtain ⟨f0, f1, f2, f3⟩ : w1.cell? ⟨q, 0, none⟩ = some (.int .u64 0) ∧ w1.cell? ⟨q, 1, none⟩ = some (.int .u64 0) ∧ w1.frozen? ⟨q, 0, none⟩ = false ∧ w1.frozen? ⟨q, 1, none⟩ = false := ⟨hS1.2.1.cell 0 rfl, hS1.2.1.cell 1 rfl, hS1.2.1.frozen 0, hS1.2.1.frozen 1⟩
    clear kb hS1
    go_wp2_with fail
    refine bodyPost_ret (res_cii rfl _ _ ⟨q, 0, none⟩ _ _ _ rfl rfl rfl (I1.out.load0 _ _)) rfl ⟨?_, I1.out.end_ _ _⟩
    rfl
  have hb2 : (k == 2) = false := by simpa using hk2
  have HS := I0.out
  have HD := Lib.hid (d3 T S x hk0 hk1 hk2)
  obtain ⟨f0, f1, f2, f3⟩ : W.cell? ⟨q, 0, none⟩ = some (.int .u64 0) ∧ W.cell? ⟨q, 1, none⟩ = some (.int .u64 0) ∧ W.frozen? ⟨q, 0, none⟩ = false ∧ W.frozen? ⟨q, 1, none⟩ = false := ⟨HS.2.1.cell 0 rfl, HS.2.1.cell 1 rfl, HS.2.1.frozen 0, HS.2.1.frozen 1⟩
  clear HS
  go_wp2_with fail
  refine bodyPost_ret (v := .tuple #[pV T S, .int .u64 0, .int .i64 0]) (res_cii rfl _ _ ⟨q, 0, none⟩ _ _ _ rfl rfl rfl (I0.out.load0 _ _)) rfl ⟨by rw [HD.out.1, HD.out.2.1, HD.out.2.2.1, HD.out.2.2.2], I0.out.end_ _ _⟩

end Sh
end Go.Proofs.Ytmfajljgcndgfaa
