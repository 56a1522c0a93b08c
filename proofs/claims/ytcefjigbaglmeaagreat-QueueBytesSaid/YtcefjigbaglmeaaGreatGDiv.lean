/-
  What math/bits.Div64 answers in this program: for a high word below the divisor, the quotient and the rest of two words by one; the world is as it was, but for draws of an order.
  Conditions: hi < y < 2^64, lo < 2^64.
-/
import Derived.Shelf.Bits.Mul64
import Derived.Test.YtcefjigbaglmeaaGreatGDivWalk
namespace Go.Proofs.YtcefjigbaglmeaaGreat
open Go.RowKit Go.Shelf
namespace Div64
open DivArith
set_option linter.unusedVariables false

theorem tail_of (T y P Q Q2 R R2 un D1 D0 : Nat) (hP : 0 < P) (hy : 0 < y) (e1 : Q * (y * P) + R = un * 4294967296 + D1) (e2 : Q2 * (y * P) + R2 = R * 4294967296 + D0) (e3 : T * P = un * 18446744073709551616 + (D1 * 4294967296 + D0)) (h2 : R2 < y * P) :
    Q * 4294967296 + Q2 = T / y ∧ R2 / P = T % y := by
  have a : (Q * 4294967296 + Q2) * (y * P) + R2 = T * P := by
    rw [Nat.add_mul, Nat.mul_right_comm]
    generalize Q * (y * P) = t at *
    generalize Q2 * (y * P) = t' at *
    omega
  have b : R2 = (T - (Q * 4294967296 + Q2) * y) * P := by
    rw [Nat.sub_mul, Nat.mul_assoc]
    omega
  have c : (Q * 4294967296 + Q2) * y ≤ T := by
    have : (Q * 4294967296 + Q2) * y * P ≤ T * P := by rw [Nat.mul_assoc]; omega
    exact Nat.le_of_mul_le_mul_right this hP
  have d : T - (Q * 4294967296 + Q2) * y < y := by
    have : (T - (Q * 4294967296 + Q2) * y) * P < y * P := by rw [← b]; exact h2
    exact Nat.lt_of_mul_lt_mul_right this
  have e : T = y * (Q * 4294967296 + Q2) + (T - (Q * 4294967296 + Q2) * y) := by rw [Nat.mul_comm y]; omega
  refine ⟨?_, ?_⟩
  · conv => rhs; rw [e]
    rw [Nat.mul_add_div hy, Nat.div_eq_of_lt d, Nat.add_zero]
  · rw [b, Nat.mul_div_cancel _ hP]
    conv => rhs; rw [e]
    rw [Nat.mul_add_mod, Nat.mod_eq_of_lt d]

theorem wrapM (a : Nat) : IntKind.u64.wrap (a : Int) = ((a % 18446744073709551616 : Nat) : Int) := by rw [IntKind.wrap_u64]; omega

theorem great (h l y : Nat) (w : World) (h1 : 0 < h) (h2 : h < y) (h3 : y < 18446744073709551616) (h5 : l < 18446744073709551616) :
    Calls Tryz.prog 106 #[.int .u64 h, .int .u64 l, .int .u64 y] w fun e w' => e = .returned (.tuple #[.int .u64 (((h * 18446744073709551616 + l) / y : Nat) : Int), .int .u64 (((h * 18446744073709551616 + l) % y : Nat) : Int)]) ∧ w = w' := by
  obtain ⟨s, s1, s2, s3, s4⟩ := shift_of y (by omega) (by omega)
  have hP : 0 < 2 ^ s := Nat.two_pow_pos s
  have eW := words_shift h l s s1
  have hmul : h * 2 ^ s + 2 ^ s ≤ y * 2 ^ s := by rw [← Nat.succ_mul]; exact Nat.mul_le_mul_right _ h2
  have hlt : l / 2 ^ (64 - s) < 2 ^ s := by
    rw [Nat.div_lt_iff_lt_mul (Nat.two_pow_pos _), ← Nat.pow_add, show s + (64 - s) = 64 from by omega]
    exact h5
  have hor := or_shift h l s s1 h5
  have hx : l * 2 ^ s % 2 ^ 64 < 18446744073709551616 := Nat.mod_lt _ (by omega)
  generalize hV : y * 2 ^ s = V at *
  generalize hU : h * 2 ^ s + l / 2 ^ (64 - s) = U at *
  generalize hX : l * 2 ^ s % 2 ^ 64 = X at *
  have k1 : ((2 : Int) ^ (s : Int).toNat) = ((2 ^ s : Nat) : Int) := by rw [Int.toNat_natCast]; exact (Int.natCast_pow 2 s).symm
  have k2 : ((2 : Int) ^ (64 - (s : Int)).toNat) = ((2 ^ (64 - s) : Nat) : Int) := by rw [show (64 - (s : Int)).toNat = 64 - s from by omega]; exact (Int.natCast_pow 2 _).symm
  have k3 : ∀ a b : Nat, (a : Int) * (b : Int) = ((a * b : Nat) : Int) := fun a b => (Int.natCast_mul a b).symm
  have hand : ∀ a : Nat, a < 18446744073709551616 → bits .and .u64 (a : Int) 4294967295 = ((a % 4294967296 : Nat) : Int) := fun a ha => Mul64.maskN a ha
  have S : Set_ (V : Int) ((V / 4294967296 : Nat) : Int) ((V % 4294967296 : Nat) : Int) (U : Int) ((X / 4294967296 : Nat) : Int) _ _ :=
    Set_.mk' (by omega) (by omega) (by omega) (by omega) (by omega) (by omega) (by omega) (by omega) (by omega)
  have S2 : Set_ (V : Int) ((V / 4294967296 : Nat) : Int) ((V % 4294967296 : Nat) : Int) (((U : Int) * 4294967296 + ((X / 4294967296 : Nat) : Int)) % (V : Int)) ((X % 4294967296 : Nat) : Int) _ _ :=
    Set_.mk' (by omega) (by omega) (by omega) (by omega) (by omega) S.r0 S.r1 (by omega) (by omega)
  have t := tail_of (h * 18446744073709551616 + l) y (2 ^ s) ((U * 4294967296 + X / 4294967296) / V) ((((U * 4294967296 + X / 4294967296) % V) * 4294967296 + X % 4294967296) / V)
    ((U * 4294967296 + X / 4294967296) % V) ((((U * 4294967296 + X / 4294967296) % V) * 4294967296 + X % 4294967296) % V) U (X / 4294967296) (X % 4294967296) hP (by omega)
    (by rw [hV]; exact Nat.div_add_mod' _ _) (by rw [hV]; exact Nat.div_add_mod' _ _) (by rw [show (18446744073709551616 : Nat) = 2 ^ 64 from rfl]; rw [eW]; omega) (by rw [hV]; exact Nat.mod_lt _ (by omega))
  have := walk (h : Int) (l : Int) (y : Int) (s : Int) V ((V / 4294967296 : Nat) : Int) ((V % 4294967296 : Nat) : Int) U X ((X / 4294967296 : Nat) : Int) ((X % 4294967296 : Nat) : Int) _ _ _ _ w
    (by omega) (by omega) (by omega) (by omega) (by omega) (by show _ = _; rw [Int.toNat_natCast]; omega) (by omega) (by omega)
    (by rw [k1, k3, hV, wrapM]; omega) (by omega) (hand V (by omega))
    (by
      rw [k1, k2, k3, wrapM, Nat.mod_eq_of_lt (by omega), ← Int.natCast_ediv, bits_or_u64_nat _ _ (by omega) (by omega), hor])
    (by rw [k1, k3, wrapM]; exact congrArg _ hX) (by omega) (hand X (by omega)) (by omega) S S2
    (by simp only [IntKind.wrap_u64]; exact S.left (by omega)) (by simp only [IntKind.wrap_u64]; exact S2.left (by omega))
  refine this.mono fun e w' hh => ⟨hh.1.trans ?_, hh.2⟩
  rw [← t.1, ← t.2, k1]
  congr 5 <;> simp

set_option maxHeartbeats 400000 in
theorem small (l y : Int) (w : World) (h0 : 0 < y) (h3 : y < 18446744073709551616) (h4 : 0 ≤ l) (h5 : l < 18446744073709551616) :
    Calls Tryz.prog 106 #[.int .u64 0, .int .u64 l, .int .u64 y] w fun e w' => e = .returned (.tuple #[.int .u64 (l / y), .int .u64 (l % y)]) ∧ ∃ n, w.drewN n = w' := by
  go_enter Tryz.func106, Tryz.ntmps106
  go_wp2
  go_quiet (fail)
  go_wp2
  go_ret2
  exact ⟨rfl, _, rfl⟩

/-- ████ math/bits.Div64. -/
theorem any (h l y : Nat) (w : World) (h2 : h < y) (h3 : y < 18446744073709551616) (h5 : l < 18446744073709551616) :
    Calls Tryz.prog 106 #[.int .u64 h, .int .u64 l, .int .u64 y] w fun e w' => e = .returned (.tuple #[.int .u64 (((h * 18446744073709551616 + l) / y : Nat) : Int), .int .u64 (((h * 18446744073709551616 + l) % y : Nat) : Int)]) ∧ ∃ n, w.drewN n = w' := by
  by_cases h0 : h = 0
  · subst h0
    refine (small l y w (by omega) (by omega) (by omega) (by omega)).mono fun e w' hh => ⟨hh.1.trans ?_, hh.2⟩
    simp
  · exact (great h l y w (by omega) h2 h3 h5).mono fun e w' hh => ⟨hh.1, 0, hh.2⟩
end Div64
end Go.Proofs.YtcefjigbaglmeaaGreat
