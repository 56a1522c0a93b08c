/-
  What the functions of distraintref01 answer in this program (but Cmp): the same as those of fixnum.
  Conditions: every amount is from 0 to 2^64 - 1; the slice reads as such amounts.
-/
import Derived.Test.YtcefjigbaglmeaaGreatGRefWide
import Derived.Test.YtcefjigbaglmeaaGreatGFixSum
namespace Go.Proofs.YtcefjigbaglmeaaGreat
open Go.RowKit Go.Shelf
set_option linter.unusedVariables false
namespace Ref
open Fix

theorem add (a b : Int) (w : World) (a0 : 0 ≤ a) (a1 : a ≤ 18446744073709551615) (b0 : 0 ≤ b) (b1 : b ≤ 18446744073709551615) :
    Calls Tryz.prog 75 #[.int .u64 a, .int .u64 b] w fun e w' => e = .returned (.tuple #[.int .u64 (amt (a + b)), .int .i64 (amtE (a + b))]) ∧ w = w' := by
  rcases Int.lt_or_le 18446744073709551615 (a + b) with h | h
  · obtain ⟨e1, e2⟩ := amt_no h
    rw [e1, e2]
    clear e1 e2
    go_enter Tryz.func75, Tryz.ntmps75
    go_wp2
    go_ret2
    exact ⟨rfl, rfl⟩
  · obtain ⟨e1, e2⟩ := amt_of h
    rw [e1, e2]
    clear e1 e2
    go_enter Tryz.func75, Tryz.ntmps75
    go_wp2
    go_ret2
    exact ⟨rfl, rfl⟩

/-! ### Divide, bit by bit -/
theorem pre2 (P : Int) (j : Nat) : P / 2 ^ j = 2 * (P / 2 ^ (j + 1)) + P / 2 ^ j % 2 := pre_step P j

/-- One bit more: what becomes of the quotient and of what is left. -/
theorem div_step {q c bit : Int} (c0 : 0 < c) (hq : 0 ≤ q) (b0 : 0 ≤ bit) (b1 : bit ≤ 1) :
    (c ≤ 2 * (q % c) + bit ∧ (2 * q + bit) / c = 2 * (q / c) + 1 ∧ (2 * q + bit) % c = 2 * (q % c) + bit - c) ∨
    (2 * (q % c) + bit < c ∧ (2 * q + bit) / c = 2 * (q / c) ∧ (2 * q + bit) % c = 2 * (q % c) + bit) := by
  have m0 := Int.emod_nonneg q (b := c) (by omega)
  have m1 := Int.emod_lt_of_pos q c0
  have e := Int.emod_add_mul_ediv q c
  have e2 : 2 * q + bit = (2 * (q % c) + bit) + c * (2 * (q / c)) := by
    rw [Int.mul_left_comm]
    generalize c * (q / c) = t at *
    omega
  have ed : (2 * q + bit) / c = (2 * (q % c) + bit) / c + 2 * (q / c) := by
    rw [e2, Int.add_mul_ediv_left _ _ (by omega)]
  have em : (2 * q + bit) % c = (2 * (q % c) + bit) % c := by
    rw [e2, Int.add_mul_emod_self_left]
  generalize hL : 2 * (q % c) + bit = L at *
  rcases Int.lt_or_le L c with h | h
  · right
    refine ⟨h, ?_, ?_⟩
    · rw [ed, Int.ediv_eq_zero_of_lt (by omega) h]; omega
    · rw [em, Int.emod_eq_of_lt (by omega) h]
  · left
    refine ⟨h, ?_, ?_⟩
    · rw [ed, show L = (L - c) + c * 1 by omega, Int.add_mul_ediv_left _ _ (by omega), Int.ediv_eq_zero_of_lt (by omega) (by omega)]; omega
    · rw [em, show L = (L - c) + c * 1 by omega, Int.add_mul_emod_self_left, Int.emod_eq_of_lt (by omega) (by omega)]; omega

theorem hi_bit (P : Int) (i : Nat) (h : 64 ≤ i) : hi P / 2 ^ (i - 64) % 2 = P / 2 ^ i % 2 := by
  unfold hi
  rw [show (18446744073709551616 : Int) = 2 ^ 64 from rfl, Int.ediv_ediv_of_nonneg (by exact Int.pow_nonneg (by decide)), ← Int.pow_add, show 64 + (i - 64) = i by omega]
theorem lo_bit (P : Int) (i : Nat) (h : i < 64) : lo P / 2 ^ i % 2 = P / 2 ^ i % 2 := by
  unfold lo
  have e : (18446744073709551616 : Int) = 2 ^ i * (2 * 2 ^ (63 - i)) := by
    rw [show (18446744073709551616 : Int) = 2 ^ 64 from rfl, show 64 = i + (1 + (63 - i)) by omega, Int.pow_add, Int.pow_add]; rfl
  have hp : (0 : Int) < 2 ^ i := Int.pow_pos (by decide)
  have h1 := Int.emod_add_mul_ediv P 18446744073709551616
  have h2 : P = P % 18446744073709551616 + 2 ^ i * (2 * (2 ^ (63 - i) * (P / 18446744073709551616))) := by
    conv => lhs; rw [← h1]
    congr 1
    conv => lhs; lhs; rw [e]
    rw [Int.mul_assoc, Int.mul_assoc]
  have h3 : P / 2 ^ i = P % 18446744073709551616 / 2 ^ i + 2 * (2 ^ (63 - i) * (P / 18446744073709551616)) := by
    conv => lhs; rw [h2]
    rw [Int.add_mul_ediv_left _ _ (by omega)]
  rw [h3]
  omega
end Ref
end Go.Proofs.YtcefjigbaglmeaaGreat
