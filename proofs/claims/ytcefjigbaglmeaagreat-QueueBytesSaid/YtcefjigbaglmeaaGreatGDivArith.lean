/-
  Plain arithmetic of dividing two words by one word, as math/bits does it (no Go program in sight): how far a divisor is shifted, and each digit's guess.
  Conditions: numbers below 2^64, the high word below the divisor.
-/
import Derived.Lib.BitFns
import Derived.Laws.Bits64
import Derived.Laws.Bits64b
import Derived.Below
namespace Go.Proofs.YtcefjigbaglmeaaGreat
namespace DivArith

theorem bitLen_bounds (x : Nat) : 0 < x → x < 2 ^ 64 → 1 ≤ Lib.bitLen x ∧ 2 ^ (Lib.bitLen x - 1) ≤ x ∧ x < 2 ^ Lib.bitLen x := by
  induction x using Nat.strongRecOn with
  | ind x ih =>
    intro h0 h1
    rw [Lib.bitLen_half x (by omega) h1]
    by_cases h2 : x / 2 = 0
    · have : x = 1 := by omega
      subst this
      decide
    · obtain ⟨a, b, c⟩ := ih (x / 2) (by omega) (by omega) (by omega)
      obtain ⟨k, hk⟩ : ∃ k, Lib.bitLen (x / 2) = k + 1 := ⟨Lib.bitLen (x / 2) - 1, by omega⟩
      rw [hk] at b c ⊢
      rw [show 1 + (k + 1) - 1 = k + 1 from by omega, show 1 + (k + 1) = k + 1 + 1 from by omega]
      simp only [Nat.pow_succ, Nat.add_sub_cancel] at b c ⊢
      omega

theorem pow_le_of {k : Nat} (x : Nat) (h : 2 ^ k ≤ x) (hx : x < 2 ^ 64) : k < 64 := by
  rcases Nat.lt_or_ge k 64 with h' | h'
  · exact h'
  · have := Nat.pow_le_pow_right (n := 2) (by omega) h'
    omega

/-- How far a divisor is shifted. -/
theorem shift_of (y : Nat) (h0 : 0 < y) (h1 : y < 2 ^ 64) :
    ∃ s : Nat, s < 64 ∧ Lib.bitLen y + s = 64 ∧ 2 ^ 63 ≤ y * 2 ^ s ∧ y * 2 ^ s < 2 ^ 64 := by
  obtain ⟨a, b, c⟩ := bitLen_bounds y h0 h1
  have hk := pow_le_of y b h1
  refine ⟨64 - Lib.bitLen y, by omega, by omega, ?_, ?_⟩
  · calc 2 ^ 63 = 2 ^ (Lib.bitLen y - 1) * 2 ^ (64 - Lib.bitLen y) := by rw [← Nat.pow_add]; congr 1; omega
      _ ≤ _ := Nat.mul_le_mul_right _ b
  · calc y * 2 ^ (64 - Lib.bitLen y) < 2 ^ Lib.bitLen y * 2 ^ (64 - Lib.bitLen y) := Nat.mul_lt_mul_of_pos_right c (Nat.two_pow_pos _)
      _ = 2 ^ 64 := by rw [← Nat.pow_add]; congr 1; omega

theorem or_shift (h l s : Nat) (hs : s < 64) (hl : l < 2 ^ 64) :
    (h * 2 ^ s) ||| (l / 2 ^ (64 - s)) = h * 2 ^ s + l / 2 ^ (64 - s) := by
  have hlt : l / 2 ^ (64 - s) < 2 ^ s := by
    rw [Nat.div_lt_iff_lt_mul (Nat.two_pow_pos _), ← Nat.pow_add, show s + (64 - s) = 64 from by omega]
    exact hl
  rw [Nat.mul_comm h, ← Nat.two_pow_add_eq_or_of_lt hlt h]

/-- The dividend, shifted: its two words. -/
theorem words_shift (h l s : Nat) (hs : s < 64) :
    (h * 2 ^ 64 + l) * 2 ^ s = (h * 2 ^ s + l / 2 ^ (64 - s)) * 2 ^ 64 + l * 2 ^ s % 2 ^ 64 := by
  have e : (2 : Nat) ^ 64 = 2 ^ (64 - s) * 2 ^ s := by rw [← Nat.pow_add]; congr 1; omega
  have h3 : l * 2 ^ s % 2 ^ 64 = l % 2 ^ (64 - s) * 2 ^ s := by rw [e, Nat.mul_mod_mul_right]
  have h4 := Nat.div_add_mod l (2 ^ (64 - s))
  have h5 : l * 2 ^ s = l / 2 ^ (64 - s) * 2 ^ 64 + l % 2 ^ (64 - s) * 2 ^ s := by
    conv => lhs; rw [← h4]
    rw [Nat.add_mul, e, Nat.mul_comm (2 ^ (64 - s)) (l / _), Nat.mul_assoc]
  rw [h3, Nat.add_mul, Nat.add_mul, h5, Nat.mul_right_comm]
  omega

/-! ### A digit's guess (over Int) -/
/-- what holds of the guess q and of what is left, r, while the guess is corrected. -/
structure Inv (A B u d Q q r : Int) : Prop where
  q0 : 0 ≤ q
  r0 : 0 ≤ r
  e : q * A + r = u
  ge : Q ≤ q
  le : q ≤ 4294967297

variable {v A B u d Q q r : Int}

/-- the setting of one digit -/
structure Set_ (v A B u d Q R : Int) : Prop where
  hv : v = A * 4294967296 + B
  a0 : 2147483648 ≤ A
  a1 : A < 4294967296
  b0 : 0 ≤ B
  b1 : B < 4294967296
  u0 : 0 ≤ u
  u1 : u < v
  d0 : 0 ≤ d
  d1 : d < 4294967296
  q0 : 0 ≤ Q
  e : Q * v + R = u * 4294967296 + d
  r0 : 0 ≤ R
  r1 : R < v

theorem Set_.exp {R : Int} (S : Set_ v A B u d Q R) : Q * A * 4294967296 + Q * B + R = u * 4294967296 + d := by
  have := S.e
  rw [S.hv, Int.mul_add, ← Int.mul_assoc] at this
  exact this

theorem Set_.q1 {R : Int} (S : Set_ v A B u d Q R) : Q < 4294967296 := by
  rcases Int.lt_or_le Q 4294967296 with h | h
  · exact h
  · have hv : 0 ≤ v := by have := S.hv; have := S.a0; have := S.b0; omega
    have h1 := Int.mul_le_mul_of_nonneg_right h hv
    have h2 := S.e; have h3 := S.u1; have h4 := S.r0; have h5 := S.d1
    generalize Q * v = t at *
    omega

theorem Set_.start {R : Int} (S : Set_ v A B u d Q R) : Inv A B u d Q (u / A) (u - u / A * A) ∧ u - u / A * A < 4294967296 := by
  have a0 := S.a0; have a1 := S.a1; have b0 := S.b0; have b1 := S.b1; have u0 := S.u0; have u1 := S.u1; have d0 := S.d0; have d1 := S.d1; have q0 := S.q0
  have r0 := S.r0
  have he := S.exp
  have hv := S.hv
  have hm := Int.emod_add_mul_ediv u A
  have m0 := Int.emod_nonneg u (b := A) (by omega)
  have m1 := Int.emod_lt_of_pos u (b := A) (by omega)
  have e1 : u / A * A = A * (u / A) := Int.mul_comm _ _
  have qb : 0 ≤ Q * B := Int.mul_nonneg q0 b0
  have hQ : Q ≤ u / A := by
    rw [Int.le_ediv_iff_mul_le (by omega)]
    generalize Q * A = t at *
    omega
  have hle : u / A ≤ 4294967297 := by
    have : u / A < 4294967298 := by
      rw [Int.ediv_lt_iff_lt_mul (by omega)]
      omega
    omega
  refine ⟨⟨Int.ediv_nonneg u0 (by omega), ?_, ?_, hQ, hle⟩, ?_⟩ <;> omega

/-- The test said yes: the guess is too great. -/
theorem Set_.great {R : Int} (S : Set_ v A B u d Q R) (I : Inv A B u d Q q r) (h : 4294967296 ≤ q ∨ r * 4294967296 + d < q * B) : Q < q := by
  rcases h with h | h
  · have := S.q1; omega
  · rcases Int.lt_or_le Q q with h' | h'
    · exact h'
    · exfalso
      have : q = Q := by have := I.ge; omega
      subst this
      have h1 := S.exp; have h2 := I.e; have h3 := S.r0
      generalize q * A = t at *
      omega

theorem Set_.next {R : Int} (S : Set_ v A B u d Q R) (I : Inv A B u d Q q r) (h : Q < q) : Inv A B u d Q (q - 1) (r + A) := by
  have h1 := S.q0; have h2 := S.a0; have h3 := I.r0; have h4 := I.le
  refine ⟨by omega, by omega, ?_, by omega, by omega⟩
  have := I.e
  rw [Int.sub_mul]
  omega

/-- The guess is not too great: it is the digit. -/
theorem Set_.hit {R : Int} (S : Set_ v A B u d Q R) (I : Inv A B u d Q q r) (h : q * B ≤ r * 4294967296 + d) : q = Q := by
  have hge := I.ge
  rcases Int.lt_or_le Q q with h' | h'
  · exfalso
    have h1 := S.e; have h2 := I.e; have h3 := S.r1; have h4 := S.hv
    have h5 : (Q + 1) * v ≤ q * v := Int.mul_le_mul_of_nonneg_right (by omega) (by have := S.a0; have := S.b0; omega)
    have h6 : q * v = q * A * 4294967296 + q * B := by rw [h4, Int.mul_add, ← Int.mul_assoc]
    rw [Int.add_mul] at h5
    generalize q * A = t at *
    generalize q * B = t' at *
    generalize q * v = t'' at *
    generalize Q * v = s at *
    omega
  · omega

theorem Set_.full {R : Int} (S : Set_ v A B u d Q R) (I : Inv A B u d Q q r) (hr : 4294967296 ≤ r) (hq : q ≤ 4294967296) : q = Q := by
  refine S.hit I ?_
  have h1 : q * B ≤ 4294967296 * B := Int.mul_le_mul_of_nonneg_right hq S.b0
  have := S.b1; have := S.d0
  omega

/-- What is left behind the digit, as the words reckon it. -/
theorem Set_.left {R : Int} (S : Set_ v A B u d Q R) (hv : v ≤ 18446744073709551616) :
    ((u * 4294967296 % 18446744073709551616 + d) % 18446744073709551616 - Q * v % 18446744073709551616) % 18446744073709551616 = R := by
  have h1 := S.e; have h2 := S.r0; have h3 := S.r1
  generalize Q * v = t at *
  omega

theorem Set_.mk' {v A B u d : Int} (hv : v = A * 4294967296 + B) (a0 : 2147483648 ≤ A) (a1 : A < 4294967296) (b0 : 0 ≤ B) (b1 : B < 4294967296) (u0 : 0 ≤ u) (u1 : u < v) (d0 : 0 ≤ d) (d1 : d < 4294967296) :
    Set_ v A B u d ((u * 4294967296 + d) / v) ((u * 4294967296 + d) % v) :=
  ⟨hv, a0, a1, b0, b1, u0, u1, d0, d1, Int.ediv_nonneg (by omega) (by omega), (by have := Int.emod_add_mul_ediv (u * 4294967296 + d) v; rw [Int.mul_comm]; omega), Int.emod_nonneg _ (by omega), Int.emod_lt_of_pos _ (by omega)⟩

end DivArith
end Go.Proofs.YtcefjigbaglmeaaGreat
