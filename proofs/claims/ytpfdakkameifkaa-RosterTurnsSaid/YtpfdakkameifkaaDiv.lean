/-
  What math/bits.Div64 answers in this program: for a high word below the divisor, the quotient and the rest of two words by one; the world is as it was, but for draws of an order.
  Conditions: hi < y < 2^64, lo < 2^64.
-/
import Derived.Test.YtpfdakkameifkaaDivWalk
namespace Go.Proofs.Ytpfdakkameifkaa
open Go.RowKit Go.Shelf
namespace Div64
open DivArith
set_option linter.unusedVariables false

theorem tail_of (T y P Q Q2 R R2 un D1 D0 : Nat) (hP : 0 < P) (hy : 0 < y) (e1 : Q * (y * P) + R = un * 4294967296 + D1) (e2 : Q2 * (y * P) + R2 = R * 4294967296 + D0) (e3 : T * P = un * 18446744073709551616 + (D1 * 4294967296 + D0)) (h2 : R2 < y * P) :
    Q * 4294967296 + Q2 = T / y ∧ R2 / P = T % y := by
  have a : (Q * 4294967296 + Q2) * (y * P) + R2 = T * P := by
    rw [Nat.add_mul, Nat.mul_right_comm]
    generalize Q * (y * P) = t at *
    generalize Q2 * (y * P) = t' at *
    omega
  have b : R2 = (T - (Q * 4294967296 + Q2) * y) * P := by
    rw [Nat.sub_mul, Nat.mul_assoc]
    omega
  have c : (Q * 4294967296 + Q2) * y ≤ T := by
    have : (Q * 4294967296 + Q2) * y * P ≤ T * P := by rw [Nat.mul_assoc]; omega
    exact Nat.le_of_mul_le_mul_right this hP
  have d : T - (Q * 4294967296 + Q2) * y < y := by
    have : (T - (Q * 4294967296 + Q2) * y) * P < y * P := by rw [← b]; exact h2
    exact Nat.lt_of_mul_lt_mul_right this
  have e : T = y * (Q * 4294967296 + Q2) + (T - (Q * 4294967296 + Q2) * y) := by rw [Nat.mul_comm y]; omega
  refine ⟨?_, ?_⟩
  · conv => rhs; rw [e]
    rw [Nat.mul_add_div hy, Nat.div_eq_of_lt d, Nat.add_zero]
  · rw [b, Nat.mul_div_cancel _ hP]
    conv => rhs; rw [e]
    rw [Nat.mul_add_mod, Nat.mod_eq_of_lt d]

theorem wrapM (a : Nat) : IntKind.u64.wrap (a : Int) = ((a % 18446744073709551616 : Nat) : Int) := by rw [IntKind.wrap_u64]; omega

end Div64
end Go.Proofs.Ytpfdakkameifkaa
