/-
  What math/bits.Mul64, Add64 and Sub64 answer in this program, over Int: two words of a product, a sum and its carry, a difference and its borrow; the world is as it was.
  Conditions: words are from 0 to 2^64 - 1; a carry or borrow that comes in is 0 or 1.
-/
import Derived.Test.YtpfdakkameifkaaDiv
import Derived.Shelf.Spec.BitsCarry
namespace Go.Proofs.Ytpfdakkameifkaa
open Go.RowKit Go.Shelf
set_option linter.unusedVariables false

/-- A number's two words. -/
def hi (P : Int) : Int := P / 18446744073709551616
def lo (P : Int) : Int := P % 18446744073709551616
theorem lo0 (P : Int) : 0 ≤ lo P := by unfold lo; omega
theorem lo1 (P : Int) : lo P ≤ 18446744073709551615 := by unfold lo; omega
theorem hi0 {P : Int} (h : 0 ≤ P) : 0 ≤ hi P := by unfold hi; omega
theorem hi1 {P : Int} (h : P < 340282366920938463463374607431768211456) : hi P ≤ 18446744073709551615 := by unfold hi; omega
theorem hilo (P : Int) : hi P * 18446744073709551616 + lo P = P := by unfold hi lo; omega
theorem hi_eq {P h l : Int} (e : h * 18446744073709551616 + l = P) (l0 : 0 ≤ l) (l1 : l ≤ 18446744073709551615) : hi P = h := by unfold hi; omega
theorem lo_eq {P h l : Int} (e : h * 18446744073709551616 + l = P) (l0 : 0 ≤ l) (l1 : l ≤ 18446744073709551615) : lo P = l := by unfold lo; omega
theorem mul_le {a b : Int} (a0 : 0 ≤ a) (a1 : a ≤ 18446744073709551615) (b0 : 0 ≤ b) (b1 : b ≤ 18446744073709551615) : 0 ≤ a * b ∧ a * b ≤ 340282366920938463426481119284349108225 := by
  refine ⟨Int.mul_nonneg a0 b0, ?_⟩
  have h1 : a * b ≤ 18446744073709551615 * b := Int.mul_le_mul_of_nonneg_right a1 b0
  omega

/-- The borrow of a difference. -/
def bor (x y : Int) : Int := if x < y then 1 else 0
theorem bor0 (x y : Int) : 0 ≤ bor x y := by unfold bor; split <;> decide
theorem bor1 (x y : Int) : bor x y ≤ 1 := by unfold bor; split <;> decide

end Go.Proofs.Ytpfdakkameifkaa
