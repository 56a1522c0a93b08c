/-
  What distraintref01.Divide answers in this program: the quotient's low word, whether the quotient is above all words, and the rest.
  Conditions: words; the divisor is not 0.
-/
import Derived.Test.YtmfajljgcndgfaaRef
namespace Go.Proofs.Ytmfajljgcndgfaa
open Go.RowKit Go.Shelf
set_option linter.unusedVariables false
namespace Ref
open Fix

/-- Is the quotient above all words? -/
def big (D : Int) : Bool := decide (18446744073709551616 ≤ D)
theorem big_yes {D : Int} (h : 18446744073709551616 ≤ D) : big D = true := decide_eq_true h
theorem big_no {D : Int} (h : D < 18446744073709551616) : big D = false := decide_eq_false (by omega)

/-- The ways through one round: of what is left (M) and of the quotient (D); X: what the doubled rest is as a word. -/
theorem round_cases {M D M' D' c bit : Int} (c1 : c ≤ 18446744073709551615) (M0 : 0 ≤ M) (M1 : M < c) (D0 : 0 ≤ D) (b0 : 0 ≤ bit) (b1 : bit ≤ 1)
    (h : (c ≤ 2 * M + bit ∧ D' = 2 * D + 1 ∧ M' = 2 * M + bit - c) ∨ (2 * M + bit < c ∧ D' = 2 * D ∧ M' = 2 * M + bit)) :
    ∃ X Z : Int, IntKind.u64.wrap (2 * M) = X ∧ 0 ≤ X ∧ X ≤ 18446744073709551614 ∧ IntKind.u64.wrap (2 * lo D) = Z ∧ 0 ≤ Z ∧ Z ≤ 18446744073709551614 ∧
      ((9223372036854775808 ≤ M ∧ IntKind.u64.wrap (X + bit - c) = M' ∧ Z + 1 = lo D') ∨
       (M < 9223372036854775808 ∧ c ≤ X + bit ∧ IntKind.u64.wrap (X + bit - c) = M' ∧ Z + 1 = lo D') ∨
       ((M / 9223372036854775808 == 1) = false ∧ M' < c ∧ X + bit = M' ∧ Z = lo D')) ∧
      ((big D = true ∧ big D' = true) ∨ (big D = false ∧ (lo D / 9223372036854775808 == 1) = true ∧ big D' = true) ∨ (big D = false ∧ (lo D / 9223372036854775808 == 1) = false ∧ big D' = false)) := by
  refine ⟨_, _, rfl, ?_, ?_, rfl, ?_, ?_, ?_, ?_⟩
  · rw [IntKind.wrap_u64]; omega
  · rw [IntKind.wrap_u64]; omega
  · rw [IntKind.wrap_u64]; omega
  · rw [IntKind.wrap_u64]; unfold lo; omega
  · simp only [IntKind.wrap_u64]
    unfold lo
    rcases h with ⟨h1, h2, h3⟩ | ⟨h1, h2, h3⟩
    · rcases Int.lt_or_le M 9223372036854775808 with h | h
      · right; left; refine ⟨h, ?_, ?_, ?_⟩ <;> omega
      · left; refine ⟨h, ?_, ?_⟩ <;> omega
    · right; right; refine ⟨beq_eq_false_iff_ne.2 (by omega), ?_, ?_, ?_⟩ <;> omega
  · rcases Int.lt_or_le D 18446744073709551616 with hd | hd
    · have e : lo D = D := by unfold lo; omega
      rw [e]
      rcases Int.lt_or_le D 9223372036854775808 with he | he
      · right; right
        exact ⟨big_no hd, beq_eq_false_iff_ne.2 (by omega), big_no (by omega)⟩
      · right; left
        exact ⟨big_no hd, beq_iff_eq.2 (by omega), big_yes (by omega)⟩
    · left
      exact ⟨big_yes hd, big_yes (by omega)⟩

set_option maxRecDepth 100000 in
set_option maxHeartbeats 1000000 in
theorem divide (a b c : Int) (w : World) (a0 : 0 ≤ a) (a1 : a ≤ 18446744073709551615) (b0 : 0 ≤ b) (b1 : b ≤ 18446744073709551615) (c0 : 0 < c) (c1 : c ≤ 18446744073709551615) :
    Calls Try.prog 49 #[.int .u64 a, .int .u64 b, .int .u64 c] w fun e w' => e = .returned (.tuple #[.int .u64 (lo (a * b / c)), .bool (big (a * b / c)), .int .u64 (a * b % c)]) ∧ w = w' := by
  obtain ⟨p0, p1⟩ := mul_le a0 a1 b0 b1
  have WIDE := Lib.hid (fun w => Ref.wide a b w a0 a1 b0 b1)
  generalize a * b = P at *
  have start : P / 2 ^ 128 = 0 := by omega
  have K0 := hi0 p0; have K1 := hi1 (P := P) (by omega); have K2 := lo0 P; have K3 := lo1 P
  go_enter Try.func49, Try.ntmps49
  go_wp2_with fail
  refine (WIDE.out _).mono ?_
  rintro e w' ⟨rfl, rfl⟩
  go_wp2_with fail
  go_loop [11, 12, 13, 14] (fun n o l i => ∃ j : Nat, j ≤ 128 ∧ i = .int .i64 ((j : Int) - 1) ∧ n = .int .u64 (lo (P / 2 ^ j / c)) ∧ o = .bool (big (P / 2 ^ j / c)) ∧ l = .int .u64 (P / 2 ^ j % c)) (fun _ _ _ i => (intOf i + 1).toNat)
  case atStart => exact ⟨128, by omega, by go_num, by rw [start]; simp [lo], by rw [start]; simp [big], by rw [start]; simp⟩
  case round =>
    obtain ⟨j, hj, rfl, rfl, rfl, rfl⟩ := hrel
    rcases j with _ | j
    · rw [show ((0 : Nat) : Int) - 1 = -1 from rfl, show P / 2 ^ 0 = P from by rw [Int.pow_zero, Int.ediv_one]]
      go_wp2
      go_ret3
      exact ⟨rfl, rfl⟩
    · have ei : ((j + 1 : Nat) : Int) - 1 = j := by omega
      rw [ei]
      have hp := pre2 P j
      have hq0 : 0 ≤ P / 2 ^ (j + 1) := Int.ediv_nonneg p0 (Int.pow_nonneg (by decide))
      obtain ⟨bit, hbit⟩ : ∃ bit, P / 2 ^ j % 2 = bit := ⟨_, rfl⟩
      have hb0 : 0 ≤ bit := by omega
      have hb1 : bit ≤ 1 := by omega
      rw [hbit] at hp
      have hs := div_step (q := P / 2 ^ (j + 1)) c0 hq0 hb0 hb1
      rw [← hp] at hs
      have M0 := Int.emod_nonneg (P / 2 ^ (j + 1)) (b := c) (by omega)
      have M1 := Int.emod_lt_of_pos (P / 2 ^ (j + 1)) c0
      have D0 : 0 ≤ P / 2 ^ (j + 1) / c := Int.ediv_nonneg hq0 (by omega)
      clear hp hq0
      generalize P / 2 ^ (j + 1) % c = M at *
      generalize P / 2 ^ (j + 1) / c = D at *
      obtain ⟨M', hM'⟩ : ∃ M', P / 2 ^ j % c = M' := ⟨_, rfl⟩
      obtain ⟨D', hD'⟩ : ∃ D', P / 2 ^ j / c = D' := ⟨_, rfl⟩
      rw [hM', hD'] at hs
      obtain ⟨X, Z, eX, X0, X1, eZ, Z0, Z1, hx, hy⟩ := round_cases c1 M0 M1 D0 hb0 hb1 hs
      have HM := Lib.hid hM'
      have HD := Lib.hid hD'
      have L0 := lo0 D; have L1 := lo1 D
      have hbits : ∃ (j0 : Nat) (Y Y0 : Int), ((j : Int) % 64 = j0) ∧ lo P / 2 ^ j0 = Y0 ∧ 0 ≤ Y0 ∧ hi P / 2 ^ j0 = Y ∧ 0 ≤ Y ∧ ((j ≤ 63 ∧ Y0 % 2 = bit) ∨ (63 < j ∧ Y % 2 = bit)) := by
        refine ⟨j % 64, _, _, by omega, rfl, Int.ediv_nonneg K2 (Int.pow_nonneg (by decide)), rfl, Int.ediv_nonneg K0 (Int.pow_nonneg (by decide)), ?_⟩
        rcases Nat.lt_or_ge j 64 with h | h
        · left
          refine ⟨by omega, ?_⟩
          rw [Nat.mod_eq_of_lt h, ← hbit]
          exact lo_bit P j h
        · right
          refine ⟨by omega, ?_⟩
          rw [show j % 64 = j - 64 by omega, ← hbit]
          exact hi_bit P j h
      obtain ⟨j0, Y, Y0, ej, eY0, hY0, eY, hY, hz⟩ := hbits
      clear hs hbit hM' hD' start ei
      rcases hz with ⟨hz1, hz2⟩ | ⟨hz1, hz2⟩
      all_goals
        rcases hx with ⟨x1, x2, x3⟩ | ⟨x1, x4, x2, x3⟩ | ⟨x1, x4, x2, x3⟩
        all_goals
          rcases hy with ⟨y1, y2⟩ | ⟨y1, y3, y2⟩ | ⟨y1, y3, y2⟩
          all_goals
            have X3 := Lib.hid x3
            have Y2 := Lib.hid y2
            clear x3 y2
            try have Y3 := Lib.hid y3
            try clear y3
            go_wp2
            go_round
            case rel => exact ⟨j, by omega, rfl, by rw [HD.out, ← X3.out], by rw [HD.out, Y2.out]; first | done | rw [Y3.out], by rw [HM.out]⟩
            case measure => simp [intOf]
end Ref
end Go.Proofs.Ytmfajljgcndgfaa
