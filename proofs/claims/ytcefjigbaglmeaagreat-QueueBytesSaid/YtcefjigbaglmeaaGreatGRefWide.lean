/-
  What distraintref01.Wide answers in this program: the two words of a product.
  Conditions: both factors are from 0 to 2^64 - 1.
-/
import Derived.Test.YtcefjigbaglmeaaGreatGFixApi
namespace Go.Proofs.YtcefjigbaglmeaaGreat
open Go.RowKit Go.Shelf
set_option linter.unusedVariables false
namespace Ref

theorem pre_step (a : Int) (j : Nat) : a / 2 ^ j = 2 * (a / 2 ^ (j + 1)) + a / 2 ^ j % 2 := by
  have h : a / 2 ^ (j + 1) = a / 2 ^ j / 2 := by
    rw [Int.pow_succ, Int.ediv_ediv_of_nonneg (by exact Int.pow_nonneg (by decide))]
  rw [h]; omega

theorem st11 {T b : Int} (T0 : 0 ≤ T) (T1 : 2 * T + b < 340282366920938463463374607431768211456) (b1 : b ≤ 18446744073709551615) (hc : 18446744073709551616 ≤ lo (2 * T) + b) :
    IntKind.u64.wrap (2 * hi T + lo T / 9223372036854775808 + 1) = hi (2 * T + b) := by
  rw [IntKind.wrap_u64]; unfold hi lo at *; omega
theorem st10 {T b : Int} (T0 : 0 ≤ T) (T1 : 2 * T + b < 340282366920938463463374607431768211456) (b0 : 0 ≤ b) (hc : lo (2 * T) + b < 18446744073709551616) :
    2 * hi T + lo T / 9223372036854775808 = hi (2 * T + b) ∧ lo (2 * T) + b = lo (2 * T + b) := by
  unfold hi lo at *; omega
theorem st0 {T : Int} (T0 : 0 ≤ T) : 2 * hi T + lo T / 9223372036854775808 = hi (2 * T) := by
  unfold hi lo at *; omega

end Ref
end Go.Proofs.YtcefjigbaglmeaaGreat
