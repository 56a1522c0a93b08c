/-
  What distraintref01.Wide answers in this program: the two words of a product.
  Conditions: both factors are from 0 to 2^64 - 1.
-/
import Derived.Test.YtdpompponngmdaaCC
namespace Go.Proofs.Ytdpompponngmdaa
open Go.RowKit Go.Shelf
set_option linter.unusedVariables false
namespace Ref

theorem pre_step (a : Int) (j : Nat) : a / 2 ^ j = 2 * (a / 2 ^ (j + 1)) + a / 2 ^ j % 2 := by
  have h : a / 2 ^ (j + 1) = a / 2 ^ j / 2 := by
    rw [Int.pow_succ, Int.ediv_ediv_of_nonneg (by exact Int.pow_nonneg (by decide))]
  rw [h]; omega

theorem st11 {T b : Int} (T0 : 0 ≤ T) (T1 : 2 * T + b < 340282366920938463463374607431768211456) (b1 : b ≤ 18446744073709551615) (hc : 18446744073709551616 ≤ lo (2 * T) + b) :
    IntKind.u64.wrap (2 * hi T + lo T / 9223372036854775808 + 1) = hi (2 * T + b) := by
  rw [IntKind.wrap_u64]; unfold hi lo at *; omega
theorem st10 {T b : Int} (T0 : 0 ≤ T) (T1 : 2 * T + b < 340282366920938463463374607431768211456) (b0 : 0 ≤ b) (hc : lo (2 * T) + b < 18446744073709551616) :
    2 * hi T + lo T / 9223372036854775808 = hi (2 * T + b) ∧ lo (2 * T) + b = lo (2 * T + b) := by
  unfold hi lo at *; omega
theorem st0 {T : Int} (T0 : 0 ≤ T) : 2 * hi T + lo T / 9223372036854775808 = hi (2 * T) := by
  unfold hi lo at *; omega

set_option maxHeartbeats 400000 in
theorem wide (a b : Int) (w : World) (a0 : 0 ≤ a) (a1 : a ≤ 18446744073709551615) (b0 : 0 ≤ b) (b1 : b ≤ 18446744073709551615) :
    Calls Try.prog 107 #[.int .u64 a, .int .u64 b] w fun e w' => e = .returned (.tuple #[.int .u64 (hi (a * b)), .int .u64 (lo (a * b))]) ∧ w = w' := by
  have start : a / 2 ^ 64 = 0 := by omega
  go_enter Try.func107, Try.ntmps107
  go_wp2_with fail
  go_loop [6, 7, 8] (fun h l i => ∃ j : Nat, j ≤ 64 ∧ i = .int .i64 ((j : Int) - 1) ∧ h = .int .u64 (hi (a / 2 ^ j * b)) ∧ l = .int .u64 (lo (a / 2 ^ j * b))) (fun _ _ i => (intOf i + 1).toNat)
  case atStart => exact ⟨64, by omega, by go_num, by rw [start]; simp [hi], by rw [start]; simp [lo]⟩
  case round =>
    obtain ⟨j, hj, rfl, rfl, rfl⟩ := hrel
    rcases j with _ | j
    · rw [show ((0 : Nat) : Int) - 1 = -1 from rfl, show a / 2 ^ 0 = a from by rw [Int.pow_zero, Int.ediv_one]]
      go_wp2
      go_ret2
      exact ⟨rfl, rfl⟩
    · have ei : ((j + 1 : Nat) : Int) - 1 = j := by omega
      rw [ei]
      have hp := pre_step a j
      have hA0 : 0 ≤ a / 2 ^ j := Int.ediv_nonneg a0 (Int.pow_nonneg (by decide))
      have hA1 : a / 2 ^ j ≤ a := Int.ediv_le_self _ a0
      have hq0 : 0 ≤ a / 2 ^ (j + 1) := Int.ediv_nonneg a0 (Int.pow_nonneg (by decide))
      have hT' : a / 2 ^ j * b = 2 * (a / 2 ^ (j + 1) * b) + a / 2 ^ j % 2 * b := by
        conv => lhs; rw [hp]
        rw [Int.add_mul, Int.mul_assoc]
      have hTT := (mul_le hA0 (by omega) b0 b1).2
      have hm0 : 0 ≤ a / 2 ^ j % 2 := by omega
      have hm1 : a / 2 ^ j % 2 = 0 ∨ a / 2 ^ j % 2 = 1 := by omega
      have hT0 : 0 ≤ a / 2 ^ (j + 1) * b := Int.mul_nonneg hq0 b0
      generalize hT : a / 2 ^ (j + 1) * b = T at *
      obtain ⟨A, hA⟩ : ∃ A, a / 2 ^ j = A := ⟨_, rfl⟩
      rw [hA] at hm1 hT' hTT hA0 hA1
      have h1 := lo0 T; have h2 := lo1 T; have h3 := hi0 hT0
      have e1 : IntKind.u64.wrap (2 * lo T) = lo (2 * T) := by rw [IntKind.wrap_u64]; unfold lo; omega
      have h5 := lo0 (2 * T); have h6 := lo1 (2 * T)
      clear hp hT start ei hm0 hq0
      rcases hm1 with hb | hb
      · rw [hb, Int.zero_mul, Int.add_zero] at hT'
        have h4 : hi T ≤ 9223372036854775807 := by unfold hi; omega
        have hb' : (A % 2 == 1) = false := by rw [hb]; decide
        have G := Lib.hid (st0 hT0)
        have HT := Lib.hid (show a / 2 ^ j * b = 2 * T by rw [hA]; exact hT')
        clear hb hT' hTT
        go_wp2
        go_round
        case rel => exact ⟨j, by omega, rfl, by rw [G.out, HT.out], by rw [HT.out]⟩
        case measure => simp [intOf]
      · rw [hb, Int.one_mul] at hT'
        have h4 : hi T ≤ 9223372036854775807 := by unfold hi; omega
        have hb' : (A % 2 == 1) = true := by rw [hb]; decide
        have HT := Lib.hid (show a / 2 ^ j * b = 2 * T + b by rw [hA]; exact hT')
        rcases Int.lt_or_le (lo (2 * T) + b) 18446744073709551616 with hc | hc
        · have G := Lib.hid (st10 hT0 (by omega) b0 hc)
          clear hb hT' hTT
          go_wp2
          go_round
          case rel => exact ⟨j, by omega, rfl, by rw [G.out.1, HT.out], by rw [G.out.2, HT.out]⟩
          case measure => simp [intOf]
        · have e2 : IntKind.u64.wrap (lo (2 * T) + b) = lo (2 * T + b) := by rw [IntKind.wrap_u64]; unfold lo; omega
          have h7 : lo (2 * T + b) < lo (2 * T) := by revert hc; unfold lo; omega
          have G := Lib.hid (st11 hT0 (by omega) b1 hc)
          clear hb hT' hTT hc
          go_wp2
          go_round
          case rel => exact ⟨j, by omega, rfl, by rw [G.out, HT.out], by rw [HT.out]⟩
          case measure => simp [intOf]
end Ref
end Go.Proofs.Ytdpompponngmdaa
