/-
  Texts of this claim, put together: DivArith, DivWalk, Div, Bits, Fix, FixApi, FixSum. What each one says, and under which conditions, stands ahead of it.
-/
import Derived.Lib.BitFns
import Derived.Laws.Bits64
import Derived.Laws.Bits64b
import Derived.Below
import Derived.WalkKit
import Derived.WalkSpells
import Derived.RowKit3
import Derived.Lib.Hide
import Derived.Outline
import Derived.BigQuiet
import Derived.Deep.QuietTactic
import Derived.Shelf.Spec.BitsCarry
import Derived.StillTailTactics
import Derived.Deep.RegionHeld3
import Derived.Test.YtpfdakkameifkaaGShelf
import Derived.Test.YtpfdakkameifkaaRows
import Derived.Test.YtpfdakkameifkaaGBel0

section
/-
  Plain arithmetic of dividing two words by one word, as math/bits does it (no Go program in sight): how far a divisor is shifted, and each digit's guess.
  Conditions: numbers below 2^64, the high word below the divisor.
-/
namespace Go.Proofs.Ytpfdakkameifkaa
namespace DivArith

theorem bitLen_bounds (x : Nat) : 0 < x → x < 2 ^ 64 → 1 ≤ Lib.bitLen x ∧ 2 ^ (Lib.bitLen x - 1) ≤ x ∧ x < 2 ^ Lib.bitLen x := by
  induction x using Nat.strongRecOn with
  | ind x ih =>
    intro h0 h1
    rw [Lib.bitLen_half x (by omega) h1]
    by_cases h2 : x / 2 = 0
    · have : x = 1 := by omega
      subst this
      decide
    · obtain ⟨a, b, c⟩ := ih (x / 2) (by omega) (by omega) (by omega)
      obtain ⟨k, hk⟩ : ∃ k, Lib.bitLen (x / 2) = k + 1 := ⟨Lib.bitLen (x / 2) - 1, by omega⟩
      rw [hk] at b c ⊢
      rw [show 1 + (k + 1) - 1 = k + 1 from by omega, show 1 + (k + 1) = k + 1 + 1 from by omega]
      simp only [Nat.pow_succ, Nat.add_sub_cancel] at b c ⊢
      omega

theorem pow_le_of {k : Nat} (x : Nat) (h : 2 ^ k ≤ x) (hx : x < 2 ^ 64) : k < 64 := by
  rcases Nat.lt_or_ge k 64 with h' | h'
  · exact h'
  · have := Nat.pow_le_pow_right (n := 2) (by omega) h'
    omega

/-- How far a divisor is shifted. -/
theorem shift_of (y : Nat) (h0 : 0 < y) (h1 : y < 2 ^ 64) :
    ∃ s : Nat, s < 64 ∧ Lib.bitLen y + s = 64 ∧ 2 ^ 63 ≤ y * 2 ^ s ∧ y * 2 ^ s < 2 ^ 64 := by
  obtain ⟨a, b, c⟩ := bitLen_bounds y h0 h1
  have hk := pow_le_of y b h1
  refine ⟨64 - Lib.bitLen y, by omega, by omega, ?_, ?_⟩
  · calc 2 ^ 63 = 2 ^ (Lib.bitLen y - 1) * 2 ^ (64 - Lib.bitLen y) := by rw [← Nat.pow_add]; congr 1; omega
      _ ≤ _ := Nat.mul_le_mul_right _ b
  · calc y * 2 ^ (64 - Lib.bitLen y) < 2 ^ Lib.bitLen y * 2 ^ (64 - Lib.bitLen y) := Nat.mul_lt_mul_of_pos_right c (Nat.two_pow_pos _)
      _ = 2 ^ 64 := by rw [← Nat.pow_add]; congr 1; omega

theorem or_shift (h l s : Nat) (hs : s < 64) (hl : l < 2 ^ 64) :
    (h * 2 ^ s) ||| (l / 2 ^ (64 - s)) = h * 2 ^ s + l / 2 ^ (64 - s) := by
  have hlt : l / 2 ^ (64 - s) < 2 ^ s := by
    rw [Nat.div_lt_iff_lt_mul (Nat.two_pow_pos _), ← Nat.pow_add, show s + (64 - s) = 64 from by omega]
    exact hl
  rw [Nat.mul_comm h, ← Nat.two_pow_add_eq_or_of_lt hlt h]

/-- The dividend, shifted: its two words. -/
theorem words_shift (h l s : Nat) (hs : s < 64) :
    (h * 2 ^ 64 + l) * 2 ^ s = (h * 2 ^ s + l / 2 ^ (64 - s)) * 2 ^ 64 + l * 2 ^ s % 2 ^ 64 := by
  have e : (2 : Nat) ^ 64 = 2 ^ (64 - s) * 2 ^ s := by rw [← Nat.pow_add]; congr 1; omega
  have h3 : l * 2 ^ s % 2 ^ 64 = l % 2 ^ (64 - s) * 2 ^ s := by rw [e, Nat.mul_mod_mul_right]
  have h4 := Nat.div_add_mod l (2 ^ (64 - s))
  have h5 : l * 2 ^ s = l / 2 ^ (64 - s) * 2 ^ 64 + l % 2 ^ (64 - s) * 2 ^ s := by
    conv => lhs; rw [← h4]
    rw [Nat.add_mul, e, Nat.mul_comm (2 ^ (64 - s)) (l / _), Nat.mul_assoc]
  rw [h3, Nat.add_mul, Nat.add_mul, h5, Nat.mul_right_comm]
  omega

/-! ### A digit's guess (over Int) -/
/-- what holds of the guess q and of what is left, r, while the guess is corrected. -/
structure Inv (A B u d Q q r : Int) : Prop where
  q0 : 0 ≤ q
  r0 : 0 ≤ r
  e : q * A + r = u
  ge : Q ≤ q
  le : q ≤ 4294967297

variable {v A B u d Q q r : Int}

/-- the setting of one digit -/
structure Set_ (v A B u d Q R : Int) : Prop where
  hv : v = A * 4294967296 + B
  a0 : 2147483648 ≤ A
  a1 : A < 4294967296
  b0 : 0 ≤ B
  b1 : B < 4294967296
  u0 : 0 ≤ u
  u1 : u < v
  d0 : 0 ≤ d
  d1 : d < 4294967296
  q0 : 0 ≤ Q
  e : Q * v + R = u * 4294967296 + d
  r0 : 0 ≤ R
  r1 : R < v

theorem Set_.exp {R : Int} (S : Set_ v A B u d Q R) : Q * A * 4294967296 + Q * B + R = u * 4294967296 + d := by
  have := S.e
  rw [S.hv, Int.mul_add, ← Int.mul_assoc] at this
  exact this

theorem Set_.q1 {R : Int} (S : Set_ v A B u d Q R) : Q < 4294967296 := by
  rcases Int.lt_or_le Q 4294967296 with h | h
  · exact h
  · have hv : 0 ≤ v := by have := S.hv; have := S.a0; have := S.b0; omega
    have h1 := Int.mul_le_mul_of_nonneg_right h hv
    have h2 := S.e; have h3 := S.u1; have h4 := S.r0; have h5 := S.d1
    generalize Q * v = t at *
    omega

theorem Set_.start {R : Int} (S : Set_ v A B u d Q R) : Inv A B u d Q (u / A) (u - u / A * A) ∧ u - u / A * A < 4294967296 := by
  have a0 := S.a0; have a1 := S.a1; have b0 := S.b0; have b1 := S.b1; have u0 := S.u0; have u1 := S.u1; have d0 := S.d0; have d1 := S.d1; have q0 := S.q0
  have r0 := S.r0
  have he := S.exp
  have hv := S.hv
  have hm := Int.emod_add_mul_ediv u A
  have m0 := Int.emod_nonneg u (b := A) (by omega)
  have m1 := Int.emod_lt_of_pos u (b := A) (by omega)
  have e1 : u / A * A = A * (u / A) := Int.mul_comm _ _
  have qb : 0 ≤ Q * B := Int.mul_nonneg q0 b0
  have hQ : Q ≤ u / A := by
    rw [Int.le_ediv_iff_mul_le (by omega)]
    generalize Q * A = t at *
    omega
  have hle : u / A ≤ 4294967297 := by
    have : u / A < 4294967298 := by
      rw [Int.ediv_lt_iff_lt_mul (by omega)]
      omega
    omega
  refine ⟨⟨Int.ediv_nonneg u0 (by omega), ?_, ?_, hQ, hle⟩, ?_⟩ <;> omega

/-- The test said yes: the guess is too great. -/
theorem Set_.great {R : Int} (S : Set_ v A B u d Q R) (I : Inv A B u d Q q r) (h : 4294967296 ≤ q ∨ r * 4294967296 + d < q * B) : Q < q := by
  rcases h with h | h
  · have := S.q1; omega
  · rcases Int.lt_or_le Q q with h' | h'
    · exact h'
    · exfalso
      have : q = Q := by have := I.ge; omega
      subst this
      have h1 := S.exp; have h2 := I.e; have h3 := S.r0
      generalize q * A = t at *
      omega

theorem Set_.next {R : Int} (S : Set_ v A B u d Q R) (I : Inv A B u d Q q r) (h : Q < q) : Inv A B u d Q (q - 1) (r + A) := by
  have h1 := S.q0; have h2 := S.a0; have h3 := I.r0; have h4 := I.le
  refine ⟨by omega, by omega, ?_, by omega, by omega⟩
  have := I.e
  rw [Int.sub_mul]
  omega

/-- The guess is not too great: it is the digit. -/
theorem Set_.hit {R : Int} (S : Set_ v A B u d Q R) (I : Inv A B u d Q q r) (h : q * B ≤ r * 4294967296 + d) : q = Q := by
  have hge := I.ge
  rcases Int.lt_or_le Q q with h' | h'
  · exfalso
    have h1 := S.e; have h2 := I.e; have h3 := S.r1; have h4 := S.hv
    have h5 : (Q + 1) * v ≤ q * v := Int.mul_le_mul_of_nonneg_right (by omega) (by have := S.a0; have := S.b0; omega)
    have h6 : q * v = q * A * 4294967296 + q * B := by rw [h4, Int.mul_add, ← Int.mul_assoc]
    rw [Int.add_mul] at h5
    generalize q * A = t at *
    generalize q * B = t' at *
    generalize q * v = t'' at *
    generalize Q * v = s at *
    omega
  · omega

theorem Set_.full {R : Int} (S : Set_ v A B u d Q R) (I : Inv A B u d Q q r) (hr : 4294967296 ≤ r) (hq : q ≤ 4294967296) : q = Q := by
  refine S.hit I ?_
  have h1 : q * B ≤ 4294967296 * B := Int.mul_le_mul_of_nonneg_right hq S.b0
  have := S.b1; have := S.d0
  omega

/-- What is left behind the digit, as the words reckon it. -/
theorem Set_.left {R : Int} (S : Set_ v A B u d Q R) (hv : v ≤ 18446744073709551616) :
    ((u * 4294967296 % 18446744073709551616 + d) % 18446744073709551616 - Q * v % 18446744073709551616) % 18446744073709551616 = R := by
  have h1 := S.e; have h2 := S.r0; have h3 := S.r1
  generalize Q * v = t at *
  omega

theorem Set_.mk' {v A B u d : Int} (hv : v = A * 4294967296 + B) (a0 : 2147483648 ≤ A) (a1 : A < 4294967296) (b0 : 0 ≤ B) (b1 : B < 4294967296) (u0 : 0 ≤ u) (u1 : u < v) (d0 : 0 ≤ d) (d1 : d < 4294967296) :
    Set_ v A B u d ((u * 4294967296 + d) / v) ((u * 4294967296 + d) % v) :=
  ⟨hv, a0, a1, b0, b1, u0, u1, d0, d1, Int.ediv_nonneg (by omega) (by omega), (by have := Int.emod_add_mul_ediv (u * 4294967296 + d) v; rw [Int.mul_comm]; omega), Int.emod_nonneg _ (by omega), Int.emod_lt_of_pos _ (by omega)⟩

end DivArith
end Go.Proofs.Ytpfdakkameifkaa
end

section
/-
  The walk through math/bits.Div64 where the high word is not 0: normalization and two digits, all of its numbers named.
  Conditions: 0 < hi < y < 2^64, 0 <= lo < 2^64; each named number is what the program reckons there.
-/
namespace Go.Proofs.Ytpfdakkameifkaa
open Go.RowKit Go.Shelf
namespace Div64
open DivArith
set_option linter.unusedVariables false

theorem mul_small {q B : Int} (h0 : 0 ≤ q) (h1 : q < 4294967296) (b0 : 0 ≤ B) (b1 : B < 4294967296) : 0 ≤ q * B ∧ q * B ≤ 18446744065119617025 := by
  refine ⟨Int.mul_nonneg h0 b0, ?_⟩
  have a : q * B ≤ 4294967295 * B := Int.mul_le_mul_of_nonneg_right (by omega) b0
  omega

/-- The ways through one round of a digit's correction. -/
theorem cases_of {v A B u d Q R q r : Int} (S : Set_ v A B u d Q R) (I : Inv A B u d Q q r) (hr : r < 4294967296) :
    (Q < q ∧ Inv A B u d Q (q - 1) (r + A) ∧ r + A < 4294967296 ∧ (4294967296 ≤ q ∨ (q < 4294967296 ∧ 4294967296 * r + d < q * B ∧ 0 ≤ q * B ∧ q * B ≤ 18446744065119617025))) ∨
    ((q = Q + 1 ∧ 4294967296 ≤ r + A ∧ 4294967296 ≤ q) ∨
     (q = Q + 1 ∧ 4294967296 ≤ r + A ∧ q < 4294967296 ∧ 4294967296 * r + d < q * B ∧ 0 ≤ q * B ∧ q * B ≤ 18446744065119617025) ∨
     (q = Q ∧ q < 4294967296 ∧ q * B ≤ 4294967296 * r + d ∧ 0 ≤ q * B ∧ q * B ≤ 18446744065119617025)) := by
  have c0 := I.q0; have cl := I.le
  rcases Int.lt_or_le q 4294967296 with hq | hq
  · obtain ⟨m3, m4⟩ := mul_small c0 hq S.b0 S.b1
    rcases Int.lt_or_le (r * 4294967296 + d) (q * B) with c | c
    · have hgt := S.great I (.inr c)
      have I' := S.next I hgt
      rcases Int.lt_or_le (r + A) 4294967296 with hb | hb
      · exact .inl ⟨hgt, I', hb, .inr ⟨hq, by omega, m3, m4⟩⟩
      · have := S.full I' hb (by omega)
        exact .inr (.inr (.inl ⟨by omega, hb, hq, by omega, m3, m4⟩))
    · exact .inr (.inr (.inr ⟨S.hit I c, hq, by omega, m3, m4⟩))
  · have hgt := S.great I (.inl hq)
    have I' := S.next I hgt
    rcases Int.lt_or_le (r + A) 4294967296 with hb | hb
    · exact .inl ⟨hgt, I', hb, .inl hq⟩
    · have := S.full I' hb (by omega)
      exact .inr (.inl ⟨by omega, hb, hq⟩)

end Div64
end Go.Proofs.Ytpfdakkameifkaa
end

section
/-
  What math/bits.Div64 answers in this program: for a high word below the divisor, the quotient and the rest of two words by one; the world is as it was, but for draws of an order.
  Conditions: hi < y < 2^64, lo < 2^64.
-/
namespace Go.Proofs.Ytpfdakkameifkaa
open Go.RowKit Go.Shelf
namespace Div64
open DivArith
set_option linter.unusedVariables false

theorem tail_of (T y P Q Q2 R R2 un D1 D0 : Nat) (hP : 0 < P) (hy : 0 < y) (e1 : Q * (y * P) + R = un * 4294967296 + D1) (e2 : Q2 * (y * P) + R2 = R * 4294967296 + D0) (e3 : T * P = un * 18446744073709551616 + (D1 * 4294967296 + D0)) (h2 : R2 < y * P) :
    Q * 4294967296 + Q2 = T / y ∧ R2 / P = T % y := by
  have a : (Q * 4294967296 + Q2) * (y * P) + R2 = T * P := by
    rw [Nat.add_mul, Nat.mul_right_comm]
    generalize Q * (y * P) = t at *
    generalize Q2 * (y * P) = t' at *
    omega
  have b : R2 = (T - (Q * 4294967296 + Q2) * y) * P := by
    rw [Nat.sub_mul, Nat.mul_assoc]
    omega
  have c : (Q * 4294967296 + Q2) * y ≤ T := by
    have : (Q * 4294967296 + Q2) * y * P ≤ T * P := by rw [Nat.mul_assoc]; omega
    exact Nat.le_of_mul_le_mul_right this hP
  have d : T - (Q * 4294967296 + Q2) * y < y := by
    have : (T - (Q * 4294967296 + Q2) * y) * P < y * P := by rw [← b]; exact h2
    exact Nat.lt_of_mul_lt_mul_right this
  have e : T = y * (Q * 4294967296 + Q2) + (T - (Q * 4294967296 + Q2) * y) := by rw [Nat.mul_comm y]; omega
  refine ⟨?_, ?_⟩
  · conv => rhs; rw [e]
    rw [Nat.mul_add_div hy, Nat.div_eq_of_lt d, Nat.add_zero]
  · rw [b, Nat.mul_div_cancel _ hP]
    conv => rhs; rw [e]
    rw [Nat.mul_add_mod, Nat.mod_eq_of_lt d]

theorem wrapM (a : Nat) : IntKind.u64.wrap (a : Int) = ((a % 18446744073709551616 : Nat) : Int) := by rw [IntKind.wrap_u64]; omega

end Div64
end Go.Proofs.Ytpfdakkameifkaa
end

section
/-
  What math/bits.Mul64, Add64 and Sub64 answer in this program, over Int: two words of a product, a sum and its carry, a difference and its borrow; the world is as it was.
  Conditions: words are from 0 to 2^64 - 1; a carry or borrow that comes in is 0 or 1.
-/
namespace Go.Proofs.Ytpfdakkameifkaa
open Go.RowKit Go.Shelf
set_option linter.unusedVariables false

/-- A number's two words. -/
def hi (P : Int) : Int := P / 18446744073709551616
def lo (P : Int) : Int := P % 18446744073709551616
theorem lo0 (P : Int) : 0 ≤ lo P := by unfold lo; omega
theorem lo1 (P : Int) : lo P ≤ 18446744073709551615 := by unfold lo; omega
theorem hi0 {P : Int} (h : 0 ≤ P) : 0 ≤ hi P := by unfold hi; omega
theorem hi1 {P : Int} (h : P < 340282366920938463463374607431768211456) : hi P ≤ 18446744073709551615 := by unfold hi; omega
theorem hilo (P : Int) : hi P * 18446744073709551616 + lo P = P := by unfold hi lo; omega
theorem hi_eq {P h l : Int} (e : h * 18446744073709551616 + l = P) (l0 : 0 ≤ l) (l1 : l ≤ 18446744073709551615) : hi P = h := by unfold hi; omega
theorem lo_eq {P h l : Int} (e : h * 18446744073709551616 + l = P) (l0 : 0 ≤ l) (l1 : l ≤ 18446744073709551615) : lo P = l := by unfold lo; omega
theorem mul_le {a b : Int} (a0 : 0 ≤ a) (a1 : a ≤ 18446744073709551615) (b0 : 0 ≤ b) (b1 : b ≤ 18446744073709551615) : 0 ≤ a * b ∧ a * b ≤ 340282366920938463426481119284349108225 := by
  refine ⟨Int.mul_nonneg a0 b0, ?_⟩
  have h1 : a * b ≤ 18446744073709551615 * b := Int.mul_le_mul_of_nonneg_right a1 b0
  omega

/-- The borrow of a difference. -/
def bor (x y : Int) : Int := if x < y then 1 else 0
theorem bor0 (x y : Int) : 0 ≤ bor x y := by unfold bor; split <;> decide
theorem bor1 (x y : Int) : bor x y ≤ 1 := by unfold bor; split <;> decide

end Go.Proofs.Ytpfdakkameifkaa
end

section
/-
  What the functions of package fixnum answer in this program: contracts, for any words.
  Conditions: every amount is from 0 to 2^64 - 1.
-/
namespace Go.Proofs.Ytpfdakkameifkaa
open Go.RowKit Go.Shelf
set_option linter.unusedVariables false

theorem Bel.one {a w : World} {t : TypeId} (h : ∃ c, a.alloc (.cells c t) = w) : Bel a w := by obtain ⟨c, rfl⟩ := h; exact (Bel.refl _).alloc _
theorem Bel.two {a w : World} {t : TypeId} (h : ∃ c c', (a.alloc (.cells c t)).alloc (.cells c' t) = w) : Bel a w := by obtain ⟨c, c', rfl⟩ := h; exact ((Bel.refl _).alloc _).alloc _

namespace Fix

/-- A product, as the program keeps it. -/
abbrev PV (P : Int) : Value := .agg #[.int .u64 (hi P), .int .u64 (lo P)]

theorem bor_less {P Q : Int} (h0 : 0 ≤ P) (q0 : 0 ≤ Q) : bor (hi P) (hi Q + bor (lo P) (lo Q)) = if P < Q then 1 else 0 := by
  unfold bor hi lo
  split <;> split <;> split <;> omega

/-- -1, 0 or 1. -/
def cmpI (P Q : Int) : Int := if P = Q then 0 else if P < Q then -1 else 1

theorem hilo_ne {P Q : Int} (h : ¬ P = Q) : ¬ hi P = hi Q ∨ (hi P = hi Q ∧ ¬ lo P = lo Q) := by
  unfold hi lo
  omega

theorem parts_of (P c : Int) (h0 : 0 ≤ P) (c0 : 0 < c) :
    (hi P % c * 18446744073709551616 + lo P) / c = lo (P / c) ∧ (hi P % c * 18446744073709551616 + lo P) % c = P % c ∧ hi P / c = hi (P / c) := by
  have l0 := lo0 P; have l1 := lo1 P
  have m0 := Int.emod_nonneg (hi P) (b := c) (by omega)
  have m1 := Int.emod_lt_of_pos (hi P) c0
  have e1 := hilo P
  have e2 := Int.emod_add_mul_ediv (hi P) c
  have e3 : P = (hi P % c * 18446744073709551616 + lo P) + c * (hi P / c * 18446744073709551616) := by
    rw [← Int.mul_assoc]
    generalize c * (hi P / c) = t at *
    omega
  have e4 : P / c = hi P / c * 18446744073709551616 + (hi P % c * 18446744073709551616 + lo P) / c := by
    conv => lhs; rw [e3]
    rw [Int.add_mul_ediv_left _ _ (by omega)]
    omega
  have q0 : 0 ≤ (hi P % c * 18446744073709551616 + lo P) / c := Int.ediv_nonneg (by omega) (by omega)
  have q1 : (hi P % c * 18446744073709551616 + lo P) / c < 18446744073709551616 := by
    rw [Int.ediv_lt_iff_lt_mul c0]
    omega
  refine ⟨(lo_eq e4.symm q0 (by omega)).symm, ?_, (hi_eq e4.symm q0 (by omega)).symm⟩
  conv => rhs; rw [e3]
  rw [Int.add_mul_emod_self_left]

end Fix
end Go.Proofs.Ytpfdakkameifkaa
end

section
/-
  What the exported functions of package fixnum answer in this program: contracts, for any words.
  Conditions: every amount is from 0 to 2^64 - 1.
-/
namespace Go.Proofs.Ytpfdakkameifkaa
open Go.RowKit Go.Shelf
set_option linter.unusedVariables false
namespace Fix

/-- A number as an amount, or 0 and ErrOver. -/
def amt (P : Int) : Int := if P < 18446744073709551616 then P else 0
def amtE (P : Int) : Int := if P < 18446744073709551616 then 0 else 12
theorem amt_of {P : Int} (h : P ≤ 18446744073709551615) : amt P = P ∧ amtE P = 0 := by unfold amt amtE; rw [if_pos (by omega), if_pos (by omega)]; exact ⟨rfl, rfl⟩
theorem amt_no {P : Int} (h : 18446744073709551615 < P) : amt P = 0 ∧ amtE P = 12 := by unfold amt amtE; rw [if_neg (by omega), if_neg (by omega)]; exact ⟨rfl, rfl⟩
theorem amt0 {P : Int} (h : 0 ≤ P) : 0 ≤ amt P := by unfold amt; split <;> omega
theorem amt1 {P : Int} : amt P ≤ 18446744073709551615 := by unfold amt; split <;> omega

/-- A difference, or 0 and ErrPoor. -/
def dif (a b : Int) : Int := if a < b then 0 else a - b
def difE (a b : Int) : Int := if a < b then 13 else 0
/-- A product's quotient, or 0; its error. -/
def mdN (a b c : Int) : Int := if c = 0 then 0 else amt (a * b / c)
def mdE (a b c : Int) : Int := if c = 0 then 2 else amtE (a * b / c)
/-- A product's quotient, rounded up. -/
def upQ (a b c : Int) : Int := if 0 < a * b % c then a * b / c + 1 else a * b / c
def upN (a b c : Int) : Int := if c = 0 then 0 else amt (upQ a b c)
def upE (a b c : Int) : Int := if c = 0 then 2 else amtE (upQ a b c)
def restN (a b c : Int) : Int := if c = 0 then 0 else a * b % c
def restE (c : Int) : Int := if c = 0 then 2 else 0
theorem hi_small (m : Int) (m0 : 0 ≤ m) (m1 : m ≤ 18446744073709551615) : hi m = 0 ∧ lo m = m := by unfold hi lo; omega
def capN (m a b c : Int) : Int := if c = 0 then 0 else if a * b / c < m then a * b / c else m
def partN (a p : Int) : Int := if 1000000000 < p then 0 else mdN a p 1000000000
def partE (a p : Int) : Int := if 1000000000 < p then 3 else mdE a p 1000000000
end Fix
end Go.Proofs.Ytpfdakkameifkaa
end

section
/-
  What fixnum.Sum answers in this program: the sum of a slice of words, or 0 and ErrOver.
  Conditions: the slice reads as words from 0 to 2^64 - 1.
-/
namespace Go.Proofs.Ytpfdakkameifkaa
open Go.RowKit Go.Shelf
set_option linter.unusedVariables false


/-- The sum of the first k. -/
def sumTo (zs : List Int) : Nat → Int
  | 0 => 0
  | k + 1 => sumTo zs k + zs.getD k 0
/-- Words. -/
def Words (zs : List Int) : Prop := ∀ i, 0 ≤ zs.getD i 0 ∧ zs.getD i 0 ≤ 18446744073709551615
theorem words_of {zs : List Int} (h : ∀ z ∈ zs, 0 ≤ z ∧ z ≤ 18446744073709551615) : Words zs := by
  intro i
  rw [List.getD_eq_getElem?_getD]
  rcases Nat.lt_or_ge i zs.length with hi | hi
  · rw [List.getElem?_eq_getElem hi]
    exact h _ (List.getElem_mem hi)
  · rw [List.getElem?_eq_none hi]
    exact ⟨by decide, by decide⟩
theorem sumTo_le {zs : List Int} (h : Words zs) {k n : Nat} (hk : k ≤ n) : sumTo zs k ≤ sumTo zs n := by
  induction n with
  | zero => obtain rfl : k = 0 := by omega
            exact Int.le_refl _
  | succ n ih =>
    rcases Nat.lt_or_ge n k with hlt | hge
    · obtain rfl : k = n + 1 := by omega
      exact Int.le_refl _
    · exact Int.le_trans (ih hge) (by show _ ≤ sumTo zs n + zs.getD n 0; have := h n; omega)
theorem sumTo0 {zs : List Int} (h : Words zs) (k : Nat) : 0 ≤ sumTo zs k := sumTo_le h (Nat.zero_le k)

namespace Fix
end Fix
end Go.Proofs.Ytpfdakkameifkaa
end
