/-
  What math/bits.Mul64, Add64 and Sub64 answer in this program, over Int: two words of a product, a sum and its carry, a difference and its borrow; the world is as it was.
  Conditions: words are from 0 to 2^64 - 1; a carry or borrow that comes in is 0 or 1.
-/
import Derived.Shelf.Spec.BitsCarry
import Derived.Test.YtcefjigbaglmeaaGreatGDiv
namespace Go.Proofs.YtcefjigbaglmeaaGreat
open Go.RowKit Go.Shelf
set_option linter.unusedVariables false

/-- A number's two words. -/
def hi (P : Int) : Int := P / 18446744073709551616
def lo (P : Int) : Int := P % 18446744073709551616
theorem lo0 (P : Int) : 0 ≤ lo P := by unfold lo; omega
theorem lo1 (P : Int) : lo P ≤ 18446744073709551615 := by unfold lo; omega
theorem hi0 {P : Int} (h : 0 ≤ P) : 0 ≤ hi P := by unfold hi; omega
theorem hi1 {P : Int} (h : P < 340282366920938463463374607431768211456) : hi P ≤ 18446744073709551615 := by unfold hi; omega
theorem hilo (P : Int) : hi P * 18446744073709551616 + lo P = P := by unfold hi lo; omega
theorem hi_eq {P h l : Int} (e : h * 18446744073709551616 + l = P) (l0 : 0 ≤ l) (l1 : l ≤ 18446744073709551615) : hi P = h := by unfold hi; omega
theorem lo_eq {P h l : Int} (e : h * 18446744073709551616 + l = P) (l0 : 0 ≤ l) (l1 : l ≤ 18446744073709551615) : lo P = l := by unfold lo; omega
theorem mul_le {a b : Int} (a0 : 0 ≤ a) (a1 : a ≤ 18446744073709551615) (b0 : 0 ≤ b) (b1 : b ≤ 18446744073709551615) : 0 ≤ a * b ∧ a * b ≤ 340282366920938463426481119284349108225 := by
  refine ⟨Int.mul_nonneg a0 b0, ?_⟩
  have h1 : a * b ≤ 18446744073709551615 * b := Int.mul_le_mul_of_nonneg_right a1 b0
  omega

theorem mul64 (a b : Int) (w : World) (a0 : 0 ≤ a) (a1 : a ≤ 18446744073709551615) (b0 : 0 ≤ b) (b1 : b ≤ 18446744073709551615) :
    Calls Tryz.prog 105 #[.int .u64 a, .int .u64 b] w fun e w' => e = .returned (.tuple #[.int .u64 (hi (a * b)), .int .u64 (lo (a * b))]) ∧ w = w' := by
  obtain ⟨a, rfl⟩ := Int.eq_ofNat_of_zero_le a0
  obtain ⟨b, rfl⟩ := Int.eq_ofNat_of_zero_le b0
  refine (Tryz.bits_Mul64 a b (by omega) (by omega) w).mono fun e w' h => ⟨h.1.trans ?_, h.2.symm⟩
  unfold hi lo
  rw [← Int.natCast_mul, Int.natCast_ediv, Int.natCast_emod]
  rfl

theorem div64 (h l y : Int) (w : World) (h0 : 0 ≤ h) (h1 : h < y) (y1 : y ≤ 18446744073709551615) (l0 : 0 ≤ l) (l1 : l ≤ 18446744073709551615) :
    Calls Tryz.prog 106 #[.int .u64 h, .int .u64 l, .int .u64 y] w fun e w' => e = .returned (.tuple #[.int .u64 ((h * 18446744073709551616 + l) / y), .int .u64 ((h * 18446744073709551616 + l) % y)]) ∧ ∃ n, w.drewN n = w' := by
  obtain ⟨h, rfl⟩ := Int.eq_ofNat_of_zero_le h0
  obtain ⟨l, rfl⟩ := Int.eq_ofNat_of_zero_le l0
  obtain ⟨y, rfl⟩ := Int.eq_ofNat_of_zero_le (a := y) (by omega)
  refine (Div64.any h l y w (by omega) (by omega) (by omega)).mono fun e w' h => ⟨h.1.trans ?_, h.2⟩
  simp [Int.natCast_mul]

def Tryz.lays25_ren : Go.Shelf.Ren := ⟨fun | 25 => 101 | n => n, fun | 22 => 39 | n => n, fun | n => n⟩
theorem Tryz.lays25 : Go.Proofs.Lays7.n25 Tryz.prog Tryz.lays25_ren := {
  mixed := by kernel_rfl
  f25 := Tryz.func101.trans (congrArg some (by kernel_rfl))
  t22 := Tryz.underlying39
  a22 := Tryz.isAgg39
  z22 := Tryz.sizeOf39
  v22 := Tryz.zeroValue39
  i22 := by kernel_rfl }
/-- The borrow of a difference. -/
def bor (x y : Int) : Int := if x < y then 1 else 0
theorem bor0 (x y : Int) : 0 ≤ bor x y := by unfold bor; split <;> decide
theorem bor1 (x y : Int) : bor x y ≤ 1 := by unfold bor; split <;> decide

theorem add64_0 (x y : Int) (hx : 0 ≤ x) (hy : 0 ≤ y) (w : World) : (callFunc 101 #[.int .u64 x, .int .u64 y, .int .u64 0]).run Tryz.prog w =
    .ok (.value (.tuple #[.int .u64 (lo (x + y)), .int .u64 (hi (x + y))])) w := by
  obtain ⟨x, rfl⟩ := Int.eq_ofNat_of_zero_le hx
  obtain ⟨y, rfl⟩ := Int.eq_ofNat_of_zero_le hy
  refine (Any7.bits_Add64 Tryz.lays25 x y 0 (by omega) w).trans ?_
  unfold hi lo
  congr 5 <;> omega
end Go.Proofs.YtcefjigbaglmeaaGreat
