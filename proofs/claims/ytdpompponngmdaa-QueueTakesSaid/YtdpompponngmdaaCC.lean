/-
  Texts of this claim, put together: DivArith, DivWalk, Div, Bits, Fix, FixApi, FixSum. What each one says, and under which conditions, stands ahead of it.
-/
import Derived.Lib.BitFns
import Derived.Laws.Bits64
import Derived.Laws.Bits64b
import Derived.Below
import Derived.WalkKit
import Derived.WalkSpells
import Derived.RowKit3
import Derived.Lib.Hide
import Derived.Outline
import Derived.BigQuiet
import Derived.Deep.QuietTactic
import Derived.Shelf.Bits.Mul64
import Derived.Shelf.Spec.BitsCarry
import Derived.StillTailTactics
import Derived.Deep.RegionHeld3
import Derived.Test.YtdpompponngmdaaGShelf
import Derived.Test.YtdpompponngmdaaRows
import Derived.Test.YtdpompponngmdaaGBel0

section
/-
  Plain arithmetic of dividing two words by one word, as math/bits does it (no Go program in sight): how far a divisor is shifted, and each digit's guess.
  Conditions: numbers below 2^64, the high word below the divisor.
-/
namespace Go.Proofs.Ytdpompponngmdaa
namespace DivArith

theorem bitLen_bounds (x : Nat) : 0 < x → x < 2 ^ 64 → 1 ≤ Lib.bitLen x ∧ 2 ^ (Lib.bitLen x - 1) ≤ x ∧ x < 2 ^ Lib.bitLen x := by
  induction x using Nat.strongRecOn with
  | ind x ih =>
    intro h0 h1
    rw [Lib.bitLen_half x (by omega) h1]
    by_cases h2 : x / 2 = 0
    · have : x = 1 := by omega
      subst this
      decide
    · obtain ⟨a, b, c⟩ := ih (x / 2) (by omega) (by omega) (by omega)
      obtain ⟨k, hk⟩ : ∃ k, Lib.bitLen (x / 2) = k + 1 := ⟨Lib.bitLen (x / 2) - 1, by omega⟩
      rw [hk] at b c ⊢
      rw [show 1 + (k + 1) - 1 = k + 1 from by omega, show 1 + (k + 1) = k + 1 + 1 from by omega]
      simp only [Nat.pow_succ, Nat.add_sub_cancel] at b c ⊢
      omega

theorem pow_le_of {k : Nat} (x : Nat) (h : 2 ^ k ≤ x) (hx : x < 2 ^ 64) : k < 64 := by
  rcases Nat.lt_or_ge k 64 with h' | h'
  · exact h'
  · have := Nat.pow_le_pow_right (n := 2) (by omega) h'
    omega

/-- How far a divisor is shifted. -/
theorem shift_of (y : Nat) (h0 : 0 < y) (h1 : y < 2 ^ 64) :
    ∃ s : Nat, s < 64 ∧ Lib.bitLen y + s = 64 ∧ 2 ^ 63 ≤ y * 2 ^ s ∧ y * 2 ^ s < 2 ^ 64 := by
  obtain ⟨a, b, c⟩ := bitLen_bounds y h0 h1
  have hk := pow_le_of y b h1
  refine ⟨64 - Lib.bitLen y, by omega, by omega, ?_, ?_⟩
  · calc 2 ^ 63 = 2 ^ (Lib.bitLen y - 1) * 2 ^ (64 - Lib.bitLen y) := by rw [← Nat.pow_add]; congr 1; omega
      _ ≤ _ := Nat.mul_le_mul_right _ b
  · calc y * 2 ^ (64 - Lib.bitLen y) < 2 ^ Lib.bitLen y * 2 ^ (64 - Lib.bitLen y) := Nat.mul_lt_mul_of_pos_right c (Nat.two_pow_pos _)
      _ = 2 ^ 64 := by rw [← Nat.pow_add]; congr 1; omega

theorem or_shift (h l s : Nat) (hs : s < 64) (hl : l < 2 ^ 64) :
    (h * 2 ^ s) ||| (l / 2 ^ (64 - s)) = h * 2 ^ s + l / 2 ^ (64 - s) := by
  have hlt : l / 2 ^ (64 - s) < 2 ^ s := by
    rw [Nat.div_lt_iff_lt_mul (Nat.two_pow_pos _), ← Nat.pow_add, show s + (64 - s) = 64 from by omega]
    exact hl
  rw [Nat.mul_comm h, ← Nat.two_pow_add_eq_or_of_lt hlt h]

/-- The dividend, shifted: its two words. -/
theorem words_shift (h l s : Nat) (hs : s < 64) :
    (h * 2 ^ 64 + l) * 2 ^ s = (h * 2 ^ s + l / 2 ^ (64 - s)) * 2 ^ 64 + l * 2 ^ s % 2 ^ 64 := by
  have e : (2 : Nat) ^ 64 = 2 ^ (64 - s) * 2 ^ s := by rw [← Nat.pow_add]; congr 1; omega
  have h3 : l * 2 ^ s % 2 ^ 64 = l % 2 ^ (64 - s) * 2 ^ s := by rw [e, Nat.mul_mod_mul_right]
  have h4 := Nat.div_add_mod l (2 ^ (64 - s))
  have h5 : l * 2 ^ s = l / 2 ^ (64 - s) * 2 ^ 64 + l % 2 ^ (64 - s) * 2 ^ s := by
    conv => lhs; rw [← h4]
    rw [Nat.add_mul, e, Nat.mul_comm (2 ^ (64 - s)) (l / _), Nat.mul_assoc]
  rw [h3, Nat.add_mul, Nat.add_mul, h5, Nat.mul_right_comm]
  omega

/-! ### A digit's guess (over Int) -/
/-- what holds of the guess q and of what is left, r, while the guess is corrected. -/
structure Inv (A B u d Q q r : Int) : Prop where
  q0 : 0 ≤ q
  r0 : 0 ≤ r
  e : q * A + r = u
  ge : Q ≤ q
  le : q ≤ 4294967297

variable {v A B u d Q q r : Int}

/-- the setting of one digit -/
structure Set_ (v A B u d Q R : Int) : Prop where
  hv : v = A * 4294967296 + B
  a0 : 2147483648 ≤ A
  a1 : A < 4294967296
  b0 : 0 ≤ B
  b1 : B < 4294967296
  u0 : 0 ≤ u
  u1 : u < v
  d0 : 0 ≤ d
  d1 : d < 4294967296
  q0 : 0 ≤ Q
  e : Q * v + R = u * 4294967296 + d
  r0 : 0 ≤ R
  r1 : R < v

theorem Set_.exp {R : Int} (S : Set_ v A B u d Q R) : Q * A * 4294967296 + Q * B + R = u * 4294967296 + d := by
  have := S.e
  rw [S.hv, Int.mul_add, ← Int.mul_assoc] at this
  exact this

theorem Set_.q1 {R : Int} (S : Set_ v A B u d Q R) : Q < 4294967296 := by
  rcases Int.lt_or_le Q 4294967296 with h | h
  · exact h
  · have hv : 0 ≤ v := by have := S.hv; have := S.a0; have := S.b0; omega
    have h1 := Int.mul_le_mul_of_nonneg_right h hv
    have h2 := S.e; have h3 := S.u1; have h4 := S.r0; have h5 := S.d1
    generalize Q * v = t at *
    omega

theorem Set_.start {R : Int} (S : Set_ v A B u d Q R) : Inv A B u d Q (u / A) (u - u / A * A) ∧ u - u / A * A < 4294967296 := by
  have a0 := S.a0; have a1 := S.a1; have b0 := S.b0; have b1 := S.b1; have u0 := S.u0; have u1 := S.u1; have d0 := S.d0; have d1 := S.d1; have q0 := S.q0
  have r0 := S.r0
  have he := S.exp
  have hv := S.hv
  have hm := Int.emod_add_mul_ediv u A
  have m0 := Int.emod_nonneg u (b := A) (by omega)
  have m1 := Int.emod_lt_of_pos u (b := A) (by omega)
  have e1 : u / A * A = A * (u / A) := Int.mul_comm _ _
  have qb : 0 ≤ Q * B := Int.mul_nonneg q0 b0
  have hQ : Q ≤ u / A := by
    rw [Int.le_ediv_iff_mul_le (by omega)]
    generalize Q * A = t at *
    omega
  have hle : u / A ≤ 4294967297 := by
    have : u / A < 4294967298 := by
      rw [Int.ediv_lt_iff_lt_mul (by omega)]
      omega
    omega
  refine ⟨⟨Int.ediv_nonneg u0 (by omega), ?_, ?_, hQ, hle⟩, ?_⟩ <;> omega

/-- The test said yes: the guess is too great. -/
theorem Set_.great {R : Int} (S : Set_ v A B u d Q R) (I : Inv A B u d Q q r) (h : 4294967296 ≤ q ∨ r * 4294967296 + d < q * B) : Q < q := by
  rcases h with h | h
  · have := S.q1; omega
  · rcases Int.lt_or_le Q q with h' | h'
    · exact h'
    · exfalso
      have : q = Q := by have := I.ge; omega
      subst this
      have h1 := S.exp; have h2 := I.e; have h3 := S.r0
      generalize q * A = t at *
      omega

theorem Set_.next {R : Int} (S : Set_ v A B u d Q R) (I : Inv A B u d Q q r) (h : Q < q) : Inv A B u d Q (q - 1) (r + A) := by
  have h1 := S.q0; have h2 := S.a0; have h3 := I.r0; have h4 := I.le
  refine ⟨by omega, by omega, ?_, by omega, by omega⟩
  have := I.e
  rw [Int.sub_mul]
  omega

/-- The guess is not too great: it is the digit. -/
theorem Set_.hit {R : Int} (S : Set_ v A B u d Q R) (I : Inv A B u d Q q r) (h : q * B ≤ r * 4294967296 + d) : q = Q := by
  have hge := I.ge
  rcases Int.lt_or_le Q q with h' | h'
  · exfalso
    have h1 := S.e; have h2 := I.e; have h3 := S.r1; have h4 := S.hv
    have h5 : (Q + 1) * v ≤ q * v := Int.mul_le_mul_of_nonneg_right (by omega) (by have := S.a0; have := S.b0; omega)
    have h6 : q * v = q * A * 4294967296 + q * B := by rw [h4, Int.mul_add, ← Int.mul_assoc]
    rw [Int.add_mul] at h5
    generalize q * A = t at *
    generalize q * B = t' at *
    generalize q * v = t'' at *
    generalize Q * v = s at *
    omega
  · omega

theorem Set_.full {R : Int} (S : Set_ v A B u d Q R) (I : Inv A B u d Q q r) (hr : 4294967296 ≤ r) (hq : q ≤ 4294967296) : q = Q := by
  refine S.hit I ?_
  have h1 : q * B ≤ 4294967296 * B := Int.mul_le_mul_of_nonneg_right hq S.b0
  have := S.b1; have := S.d0
  omega

/-- What is left behind the digit, as the words reckon it. -/
theorem Set_.left {R : Int} (S : Set_ v A B u d Q R) (hv : v ≤ 18446744073709551616) :
    ((u * 4294967296 % 18446744073709551616 + d) % 18446744073709551616 - Q * v % 18446744073709551616) % 18446744073709551616 = R := by
  have h1 := S.e; have h2 := S.r0; have h3 := S.r1
  generalize Q * v = t at *
  omega

theorem Set_.mk' {v A B u d : Int} (hv : v = A * 4294967296 + B) (a0 : 2147483648 ≤ A) (a1 : A < 4294967296) (b0 : 0 ≤ B) (b1 : B < 4294967296) (u0 : 0 ≤ u) (u1 : u < v) (d0 : 0 ≤ d) (d1 : d < 4294967296) :
    Set_ v A B u d ((u * 4294967296 + d) / v) ((u * 4294967296 + d) % v) :=
  ⟨hv, a0, a1, b0, b1, u0, u1, d0, d1, Int.ediv_nonneg (by omega) (by omega), (by have := Int.emod_add_mul_ediv (u * 4294967296 + d) v; rw [Int.mul_comm]; omega), Int.emod_nonneg _ (by omega), Int.emod_lt_of_pos _ (by omega)⟩

end DivArith
end Go.Proofs.Ytdpompponngmdaa
end

section
/-
  The walk through math/bits.Div64 where the high word is not 0: normalization and two digits, all of its numbers named.
  Conditions: 0 < hi < y < 2^64, 0 <= lo < 2^64; each named number is what the program reckons there.
-/
namespace Go.Proofs.Ytdpompponngmdaa
open Go.RowKit Go.Shelf
namespace Div64
open DivArith
set_option linter.unusedVariables false

theorem mul_small {q B : Int} (h0 : 0 ≤ q) (h1 : q < 4294967296) (b0 : 0 ≤ B) (b1 : B < 4294967296) : 0 ≤ q * B ∧ q * B ≤ 18446744065119617025 := by
  refine ⟨Int.mul_nonneg h0 b0, ?_⟩
  have a : q * B ≤ 4294967295 * B := Int.mul_le_mul_of_nonneg_right (by omega) b0
  omega

/-- The ways through one round of a digit's correction. -/
theorem cases_of {v A B u d Q R q r : Int} (S : Set_ v A B u d Q R) (I : Inv A B u d Q q r) (hr : r < 4294967296) :
    (Q < q ∧ Inv A B u d Q (q - 1) (r + A) ∧ r + A < 4294967296 ∧ (4294967296 ≤ q ∨ (q < 4294967296 ∧ 4294967296 * r + d < q * B ∧ 0 ≤ q * B ∧ q * B ≤ 18446744065119617025))) ∨
    ((q = Q + 1 ∧ 4294967296 ≤ r + A ∧ 4294967296 ≤ q) ∨
     (q = Q + 1 ∧ 4294967296 ≤ r + A ∧ q < 4294967296 ∧ 4294967296 * r + d < q * B ∧ 0 ≤ q * B ∧ q * B ≤ 18446744065119617025) ∨
     (q = Q ∧ q < 4294967296 ∧ q * B ≤ 4294967296 * r + d ∧ 0 ≤ q * B ∧ q * B ≤ 18446744065119617025)) := by
  have c0 := I.q0; have cl := I.le
  rcases Int.lt_or_le q 4294967296 with hq | hq
  · obtain ⟨m3, m4⟩ := mul_small c0 hq S.b0 S.b1
    rcases Int.lt_or_le (r * 4294967296 + d) (q * B) with c | c
    · have hgt := S.great I (.inr c)
      have I' := S.next I hgt
      rcases Int.lt_or_le (r + A) 4294967296 with hb | hb
      · exact .inl ⟨hgt, I', hb, .inr ⟨hq, by omega, m3, m4⟩⟩
      · have := S.full I' hb (by omega)
        exact .inr (.inr (.inl ⟨by omega, hb, hq, by omega, m3, m4⟩))
    · exact .inr (.inr (.inr ⟨S.hit I c, hq, by omega, m3, m4⟩))
  · have hgt := S.great I (.inl hq)
    have I' := S.next I hgt
    rcases Int.lt_or_le (r + A) 4294967296 with hb | hb
    · exact .inl ⟨hgt, I', hb, .inl hq⟩
    · have := S.full I' hb (by omega)
      exact .inr (.inl ⟨by omega, hb, hq⟩)

set_option maxRecDepth 100000 in
set_option maxHeartbeats 1000000 in
theorem walk (h l y s V A B U X D1 D0 Q R Q2 R2 : Int) (w : World) (h1 : 0 < h) (h2 : h < y) (h3 : y < 18446744073709551616) (h4 : 0 ≤ l) (h5 : l < 18446744073709551616)
   (hs : Hid (Lib.bitLen y.toNat = 64 - s)) (s0 : 0 ≤ s) (s1 : s < 64)
   (e1 : IntKind.u64.wrap (y * 2 ^ s.toNat) = V) (e2 : V / 4294967296 = A) (e3 : bits .and .u64 V 4294967295 = B)
   (e4 : bits .or .u64 (IntKind.u64.wrap (h * 2 ^ s.toNat)) (l / 2 ^ (64 - s).toNat) = U)
   (e5 : IntKind.u64.wrap (l * 2 ^ s.toNat) = X) (e6 : X / 4294967296 = D1) (e7 : bits .and .u64 X 4294967295 = D0)
   (V1 : V ≤ 18446744073709551615) (S : Set_ V A B U D1 Q R) (S2 : Set_ V A B R D0 Q2 R2)
   (e8 : IntKind.u64.wrap (IntKind.u64.wrap (IntKind.u64.wrap (U * 4294967296) + D1) - IntKind.u64.wrap (Q * V)) = R)
   (e9 : IntKind.u64.wrap (IntKind.u64.wrap (IntKind.u64.wrap (R * 4294967296) + D0) - IntKind.u64.wrap (Q2 * V)) = R2) :
    Calls Try.prog 106 #[.int .u64 h, .int .u64 l, .int .u64 y] w fun e w' => e = .returned (.tuple #[.int .u64 (Q * 4294967296 + Q2), .int .u64 (R2 / 2 ^ s.toNat)]) ∧ w = w' := by
  have A0 := S.a0; have A1 := S.a1; have B0 := S.b0; have B1 := S.b1; have U0 := S.u0; have U1 := S.u1
  have D10 := S.d0; have D11 := S.d1; have D20 := S2.d0; have D21 := S2.d1; have R0 := S.r0; have R1 := S.r1; have Q0 := S.q0; have Q1 := S.q1; have Q20 := S2.q0; have Q21 := S2.q1
  have R20 := S2.r0; have R21 := S2.r1
  obtain ⟨I1, J1⟩ := S.start
  obtain ⟨I2, J2⟩ := S2.start
  have q10 := I1.q0; have r10 := I1.r0; have q11 := I1.le
  have q20 := I2.q0; have r20 := I2.r0; have q21 := I2.le
  have m1 : 0 ≤ U / A * A := Int.mul_nonneg q10 (by omega)
  have m2 : 0 ≤ R / A * A := Int.mul_nonneg q20 (by omega)
  go_enter Try.func106, Try.ntmps106
  go_wp2_with fail
  refine (Try.bits_LeadingZeros64 _ _ (by omega) (by omega)).mono ?_
  rintro e w' ⟨rfl, rfl⟩
  rw [show (64 - (Lib.bitLen y.toNat : Int)) = s from by rw [hs.out]; omega]
  go_wp2_with fail
  go_loop [15, 16] (fun q r => ∃ q' r' : Int, q = .int .u64 q' ∧ r = .int .u64 r' ∧ Inv A B U D1 Q q' r' ∧ r' < 4294967296) (fun q _ => (intOf q).toNat)
  case atStart => exact ⟨_, _, rfl, rfl, I1, J1⟩
  case round =>
    obtain ⟨q, r, rfl, rfl, I, hr⟩ := hrel
    clear I1 J1 m1 q10 r10 q11
    have c0 := I.q0; have r0 := I.r0; have cl := I.le
    rcases cases_of S I hr with ⟨hgt, I', hb, c⟩ | hx
    · rcases c with c | ⟨c, c', m3, m4⟩
      · go_wp2
        go_round
        case rel => exact ⟨_, _, rfl, rfl, I', hb⟩
        case measure => simp [intOf]; omega
      · go_wp2
        go_round
        case rel => exact ⟨_, _, rfl, rfl, I', hb⟩
        case measure => simp [intOf]; omega
    · rcases hx with ⟨rfl, hb, c⟩ | ⟨rfl, hb, c, c', m3, m4⟩ | ⟨rfl, c, c', m3, m4⟩
      all_goals
        go_wp2_with fail
        go_loop [18, 16] (fun q r => ∃ q' r' : Int, q = .int .u64 q' ∧ r = .int .u64 r' ∧ Inv A B R D0 Q2 q' r' ∧ r' < 4294967296) (fun q _ => (intOf q).toNat)
        case atStart => exact ⟨_, _, rfl, rfl, I2, J2⟩
        case round =>
          clear I hr c0 r0 cl c
          try clear hb
          try clear c' m3 m4
          obtain ⟨q, r, rfl, rfl, I, hr⟩ := hrel
          clear I2 J2 m2 q20 r20 q21
          have c0 := I.q0; have r0 := I.r0; have cl := I.le
          rcases cases_of S2 I hr with ⟨hgt, I', hb, c⟩ | hx
          · rcases c with c | ⟨c, c', m3, m4⟩
            · go_wp2
              go_round
              case rel => exact ⟨_, _, rfl, rfl, I', hb⟩
              case measure => simp [intOf]; omega
            · go_wp2
              go_round
              case rel => exact ⟨_, _, rfl, rfl, I', hb⟩
              case measure => simp [intOf]; omega
          · rcases hx with ⟨rfl, hb, c⟩ | ⟨rfl, hb, c, c', m3, m4⟩ | ⟨rfl, c, c', m3, m4⟩
            all_goals
              go_wp2
              go_ret2
              exact ⟨rfl, rfl⟩
end Div64
end Go.Proofs.Ytdpompponngmdaa
end

section
/-
  What math/bits.Div64 answers in this program: for a high word below the divisor, the quotient and the rest of two words by one; the world is as it was, but for draws of an order.
  Conditions: hi < y < 2^64, lo < 2^64.
-/
namespace Go.Proofs.Ytdpompponngmdaa
open Go.RowKit Go.Shelf
namespace Div64
open DivArith
set_option linter.unusedVariables false

theorem tail_of (T y P Q Q2 R R2 un D1 D0 : Nat) (hP : 0 < P) (hy : 0 < y) (e1 : Q * (y * P) + R = un * 4294967296 + D1) (e2 : Q2 * (y * P) + R2 = R * 4294967296 + D0) (e3 : T * P = un * 18446744073709551616 + (D1 * 4294967296 + D0)) (h2 : R2 < y * P) :
    Q * 4294967296 + Q2 = T / y ∧ R2 / P = T % y := by
  have a : (Q * 4294967296 + Q2) * (y * P) + R2 = T * P := by
    rw [Nat.add_mul, Nat.mul_right_comm]
    generalize Q * (y * P) = t at *
    generalize Q2 * (y * P) = t' at *
    omega
  have b : R2 = (T - (Q * 4294967296 + Q2) * y) * P := by
    rw [Nat.sub_mul, Nat.mul_assoc]
    omega
  have c : (Q * 4294967296 + Q2) * y ≤ T := by
    have : (Q * 4294967296 + Q2) * y * P ≤ T * P := by rw [Nat.mul_assoc]; omega
    exact Nat.le_of_mul_le_mul_right this hP
  have d : T - (Q * 4294967296 + Q2) * y < y := by
    have : (T - (Q * 4294967296 + Q2) * y) * P < y * P := by rw [← b]; exact h2
    exact Nat.lt_of_mul_lt_mul_right this
  have e : T = y * (Q * 4294967296 + Q2) + (T - (Q * 4294967296 + Q2) * y) := by rw [Nat.mul_comm y]; omega
  refine ⟨?_, ?_⟩
  · conv => rhs; rw [e]
    rw [Nat.mul_add_div hy, Nat.div_eq_of_lt d, Nat.add_zero]
  · rw [b, Nat.mul_div_cancel _ hP]
    conv => rhs; rw [e]
    rw [Nat.mul_add_mod, Nat.mod_eq_of_lt d]

theorem wrapM (a : Nat) : IntKind.u64.wrap (a : Int) = ((a % 18446744073709551616 : Nat) : Int) := by rw [IntKind.wrap_u64]; omega

theorem great (h l y : Nat) (w : World) (h1 : 0 < h) (h2 : h < y) (h3 : y < 18446744073709551616) (h5 : l < 18446744073709551616) :
    Calls Try.prog 106 #[.int .u64 h, .int .u64 l, .int .u64 y] w fun e w' => e = .returned (.tuple #[.int .u64 (((h * 18446744073709551616 + l) / y : Nat) : Int), .int .u64 (((h * 18446744073709551616 + l) % y : Nat) : Int)]) ∧ w = w' := by
  obtain ⟨s, s1, s2, s3, s4⟩ := shift_of y (by omega) (by omega)
  have hP : 0 < 2 ^ s := Nat.two_pow_pos s
  have eW := words_shift h l s s1
  have hmul : h * 2 ^ s + 2 ^ s ≤ y * 2 ^ s := by rw [← Nat.succ_mul]; exact Nat.mul_le_mul_right _ h2
  have hlt : l / 2 ^ (64 - s) < 2 ^ s := by
    rw [Nat.div_lt_iff_lt_mul (Nat.two_pow_pos _), ← Nat.pow_add, show s + (64 - s) = 64 from by omega]
    exact h5
  have hor := or_shift h l s s1 h5
  have hx : l * 2 ^ s % 2 ^ 64 < 18446744073709551616 := Nat.mod_lt _ (by omega)
  generalize hV : y * 2 ^ s = V at *
  generalize hU : h * 2 ^ s + l / 2 ^ (64 - s) = U at *
  generalize hX : l * 2 ^ s % 2 ^ 64 = X at *
  have k1 : ((2 : Int) ^ (s : Int).toNat) = ((2 ^ s : Nat) : Int) := by rw [Int.toNat_natCast]; exact (Int.natCast_pow 2 s).symm
  have k2 : ((2 : Int) ^ (64 - (s : Int)).toNat) = ((2 ^ (64 - s) : Nat) : Int) := by rw [show (64 - (s : Int)).toNat = 64 - s from by omega]; exact (Int.natCast_pow 2 _).symm
  have k3 : ∀ a b : Nat, (a : Int) * (b : Int) = ((a * b : Nat) : Int) := fun a b => (Int.natCast_mul a b).symm
  have hand : ∀ a : Nat, a < 18446744073709551616 → bits .and .u64 (a : Int) 4294967295 = ((a % 4294967296 : Nat) : Int) := fun a ha => Mul64.maskN a ha
  have S : Set_ (V : Int) ((V / 4294967296 : Nat) : Int) ((V % 4294967296 : Nat) : Int) (U : Int) ((X / 4294967296 : Nat) : Int) _ _ :=
    Set_.mk' (by omega) (by omega) (by omega) (by omega) (by omega) (by omega) (by omega) (by omega) (by omega)
  have S2 : Set_ (V : Int) ((V / 4294967296 : Nat) : Int) ((V % 4294967296 : Nat) : Int) (((U : Int) * 4294967296 + ((X / 4294967296 : Nat) : Int)) % (V : Int)) ((X % 4294967296 : Nat) : Int) _ _ :=
    Set_.mk' (by omega) (by omega) (by omega) (by omega) (by omega) S.r0 S.r1 (by omega) (by omega)
  have t := tail_of (h * 18446744073709551616 + l) y (2 ^ s) ((U * 4294967296 + X / 4294967296) / V) ((((U * 4294967296 + X / 4294967296) % V) * 4294967296 + X % 4294967296) / V)
    ((U * 4294967296 + X / 4294967296) % V) ((((U * 4294967296 + X / 4294967296) % V) * 4294967296 + X % 4294967296) % V) U (X / 4294967296) (X % 4294967296) hP (by omega)
    (by rw [hV]; exact Nat.div_add_mod' _ _) (by rw [hV]; exact Nat.div_add_mod' _ _) (by rw [show (18446744073709551616 : Nat) = 2 ^ 64 from rfl]; rw [eW]; omega) (by rw [hV]; exact Nat.mod_lt _ (by omega))
  have := walk (h : Int) (l : Int) (y : Int) (s : Int) V ((V / 4294967296 : Nat) : Int) ((V % 4294967296 : Nat) : Int) U X ((X / 4294967296 : Nat) : Int) ((X % 4294967296 : Nat) : Int) _ _ _ _ w
    (by omega) (by omega) (by omega) (by omega) (by omega) (by show _ = _; rw [Int.toNat_natCast]; omega) (by omega) (by omega)
    (by rw [k1, k3, hV, wrapM]; omega) (by omega) (hand V (by omega))
    (by
      rw [k1, k2, k3, wrapM, Nat.mod_eq_of_lt (by omega), ← Int.natCast_ediv, bits_or_u64_nat _ _ (by omega) (by omega), hor])
    (by rw [k1, k3, wrapM]; exact congrArg _ hX) (by omega) (hand X (by omega)) (by omega) S S2
    (by simp only [IntKind.wrap_u64]; exact S.left (by omega)) (by simp only [IntKind.wrap_u64]; exact S2.left (by omega))
  refine this.mono fun e w' hh => ⟨hh.1.trans ?_, hh.2⟩
  rw [← t.1, ← t.2, k1]
  congr 5 <;> simp

set_option maxHeartbeats 400000 in
theorem small (l y : Int) (w : World) (h0 : 0 < y) (h3 : y < 18446744073709551616) (h4 : 0 ≤ l) (h5 : l < 18446744073709551616) :
    Calls Try.prog 106 #[.int .u64 0, .int .u64 l, .int .u64 y] w fun e w' => e = .returned (.tuple #[.int .u64 (l / y), .int .u64 (l % y)]) ∧ ∃ n, w.drewN n = w' := by
  go_enter Try.func106, Try.ntmps106
  go_wp2
  go_quiet (fail)
  go_wp2
  go_ret2
  exact ⟨rfl, _, rfl⟩

/-- ████ math/bits.Div64. -/
theorem any (h l y : Nat) (w : World) (h2 : h < y) (h3 : y < 18446744073709551616) (h5 : l < 18446744073709551616) :
    Calls Try.prog 106 #[.int .u64 h, .int .u64 l, .int .u64 y] w fun e w' => e = .returned (.tuple #[.int .u64 (((h * 18446744073709551616 + l) / y : Nat) : Int), .int .u64 (((h * 18446744073709551616 + l) % y : Nat) : Int)]) ∧ ∃ n, w.drewN n = w' := by
  by_cases h0 : h = 0
  · subst h0
    refine (small l y w (by omega) (by omega) (by omega) (by omega)).mono fun e w' hh => ⟨hh.1.trans ?_, hh.2⟩
    simp
  · exact (great h l y w (by omega) h2 h3 h5).mono fun e w' hh => ⟨hh.1, 0, hh.2⟩
end Div64
end Go.Proofs.Ytdpompponngmdaa
end

section
/-
  What math/bits.Mul64, Add64 and Sub64 answer in this program, over Int: two words of a product, a sum and its carry, a difference and its borrow; the world is as it was.
  Conditions: words are from 0 to 2^64 - 1; a carry or borrow that comes in is 0 or 1.
-/
namespace Go.Proofs.Ytdpompponngmdaa
open Go.RowKit Go.Shelf
set_option linter.unusedVariables false

/-- A number's two words. -/
def hi (P : Int) : Int := P / 18446744073709551616
def lo (P : Int) : Int := P % 18446744073709551616
theorem lo0 (P : Int) : 0 ≤ lo P := by unfold lo; omega
theorem lo1 (P : Int) : lo P ≤ 18446744073709551615 := by unfold lo; omega
theorem hi0 {P : Int} (h : 0 ≤ P) : 0 ≤ hi P := by unfold hi; omega
theorem hi1 {P : Int} (h : P < 340282366920938463463374607431768211456) : hi P ≤ 18446744073709551615 := by unfold hi; omega
theorem hilo (P : Int) : hi P * 18446744073709551616 + lo P = P := by unfold hi lo; omega
theorem hi_eq {P h l : Int} (e : h * 18446744073709551616 + l = P) (l0 : 0 ≤ l) (l1 : l ≤ 18446744073709551615) : hi P = h := by unfold hi; omega
theorem lo_eq {P h l : Int} (e : h * 18446744073709551616 + l = P) (l0 : 0 ≤ l) (l1 : l ≤ 18446744073709551615) : lo P = l := by unfold lo; omega
theorem mul_le {a b : Int} (a0 : 0 ≤ a) (a1 : a ≤ 18446744073709551615) (b0 : 0 ≤ b) (b1 : b ≤ 18446744073709551615) : 0 ≤ a * b ∧ a * b ≤ 340282366920938463426481119284349108225 := by
  refine ⟨Int.mul_nonneg a0 b0, ?_⟩
  have h1 : a * b ≤ 18446744073709551615 * b := Int.mul_le_mul_of_nonneg_right a1 b0
  omega

theorem mul64 (a b : Int) (w : World) (a0 : 0 ≤ a) (a1 : a ≤ 18446744073709551615) (b0 : 0 ≤ b) (b1 : b ≤ 18446744073709551615) :
    Calls Try.prog 105 #[.int .u64 a, .int .u64 b] w fun e w' => e = .returned (.tuple #[.int .u64 (hi (a * b)), .int .u64 (lo (a * b))]) ∧ w = w' := by
  obtain ⟨a, rfl⟩ := Int.eq_ofNat_of_zero_le a0
  obtain ⟨b, rfl⟩ := Int.eq_ofNat_of_zero_le b0
  refine (Try.bits_Mul64 a b (by omega) (by omega) w).mono fun e w' h => ⟨h.1.trans ?_, h.2.symm⟩
  unfold hi lo
  rw [← Int.natCast_mul, Int.natCast_ediv, Int.natCast_emod]
  rfl

theorem div64 (h l y : Int) (w : World) (h0 : 0 ≤ h) (h1 : h < y) (y1 : y ≤ 18446744073709551615) (l0 : 0 ≤ l) (l1 : l ≤ 18446744073709551615) :
    Calls Try.prog 106 #[.int .u64 h, .int .u64 l, .int .u64 y] w fun e w' => e = .returned (.tuple #[.int .u64 ((h * 18446744073709551616 + l) / y), .int .u64 ((h * 18446744073709551616 + l) % y)]) ∧ ∃ n, w.drewN n = w' := by
  obtain ⟨h, rfl⟩ := Int.eq_ofNat_of_zero_le h0
  obtain ⟨l, rfl⟩ := Int.eq_ofNat_of_zero_le l0
  obtain ⟨y, rfl⟩ := Int.eq_ofNat_of_zero_le (a := y) (by omega)
  refine (Div64.any h l y w (by omega) (by omega) (by omega)).mono fun e w' h => ⟨h.1.trans ?_, h.2⟩
  simp [Int.natCast_mul]

def Try.lays25_ren : Go.Shelf.Ren := ⟨fun | 25 => 97 | n => n, fun | 22 => 25 | n => n, fun | n => n⟩
theorem Try.lays25 : Go.Proofs.Lays7.n25 Try.prog Try.lays25_ren := {
  mixed := by kernel_rfl
  f25 := Try.func97.trans (congrArg some (by kernel_rfl))
  t22 := Try.underlying25
  a22 := Try.isAgg25
  z22 := Try.sizeOf25
  v22 := Try.zeroValue25
  i22 := by kernel_rfl }
/-- The borrow of a difference. -/
def bor (x y : Int) : Int := if x < y then 1 else 0
theorem bor0 (x y : Int) : 0 ≤ bor x y := by unfold bor; split <;> decide
theorem bor1 (x y : Int) : bor x y ≤ 1 := by unfold bor; split <;> decide

theorem add64_0 (x y : Int) (hx : 0 ≤ x) (hy : 0 ≤ y) (w : World) : (callFunc 97 #[.int .u64 x, .int .u64 y, .int .u64 0]).run Try.prog w =
    .ok (.value (.tuple #[.int .u64 (lo (x + y)), .int .u64 (hi (x + y))])) w := by
  obtain ⟨x, rfl⟩ := Int.eq_ofNat_of_zero_le hx
  obtain ⟨y, rfl⟩ := Int.eq_ofNat_of_zero_le hy
  refine (Any7.bits_Add64 Try.lays25 x y 0 (by omega) w).trans ?_
  unfold hi lo
  congr 5 <;> omega
end Go.Proofs.Ytdpompponngmdaa
end

section
/-
  What the functions of package fixnum answer in this program: contracts, for any words.
  Conditions: every amount is from 0 to 2^64 - 1.
-/
namespace Go.Proofs.Ytdpompponngmdaa
open Go.RowKit Go.Shelf
set_option linter.unusedVariables false

theorem Bel.one {a w : World} {t : TypeId} (h : ∃ c, a.alloc (.cells c t) = w) : Bel a w := by obtain ⟨c, rfl⟩ := h; exact (Bel.refl _).alloc _
theorem Bel.two {a w : World} {t : TypeId} (h : ∃ c c', (a.alloc (.cells c t)).alloc (.cells c' t) = w) : Bel a w := by obtain ⟨c, c', rfl⟩ := h; exact ((Bel.refl _).alloc _).alloc _

namespace Fix

/-- A product, as the program keeps it. -/
abbrev PV (P : Int) : Value := .agg #[.int .u64 (hi P), .int .u64 (lo P)]

theorem times (a b : Int) (w : World) (a0 : 0 ≤ a) (a1 : a ≤ 18446744073709551615) (b0 : 0 ≤ b) (b1 : b ≤ 18446744073709551615) :
    Calls Try.prog 94 #[.int .u64 a, .int .u64 b] w fun e w' => e = .returned (PV (a * b)) ∧ ∃ c, w.alloc (.cells c 127) = w' := by
  go_enter Try.func94, Try.ntmps94
  go_wp2_with (go_at_call 105; refine (mul64 _ _ _ a0 a1 b0 b1).mono ?_; rintro e w' ⟨rfl, rfl⟩)
  simp [bodyPost, results, Try.results94, go_sem]

theorem word_small (H L : Int) (w : World) (h : H = 0) :
    Calls Try.prog 96 #[.agg #[.int .u64 H, .int .u64 L]] w fun e w' => e = .returned (.tuple #[.int .u64 L, .int .i64 0]) ∧ ∃ c, w.alloc (.cells c 127) = w' := by
  subst h
  go_enter Try.func96, Try.ntmps96
  go_wp2
  go_ret2
  exact ⟨rfl, _, rfl⟩

theorem word_great (H L : Int) (w : World) (h : (H == 0) = false) :
    Calls Try.prog 96 #[.agg #[.int .u64 H, .int .u64 L]] w fun e w' => e = .returned (.tuple #[.int .u64 0, .int .i64 12]) ∧ ∃ c, w.alloc (.cells c 127) = w' := by
  go_enter Try.func96, Try.ntmps96
  go_wp2
  go_ret2
  exact ⟨rfl, _, rfl⟩

theorem bor_less {P Q : Int} (h0 : 0 ≤ P) (q0 : 0 ≤ Q) : bor (hi P) (hi Q + bor (lo P) (lo Q)) = if P < Q then 1 else 0 := by
  unfold bor hi lo
  split <;> split <;> split <;> omega

/-- -1, 0 or 1. -/
def cmpI (P Q : Int) : Int := if P = Q then 0 else if P < Q then -1 else 1

theorem hilo_ne {P Q : Int} (h : ¬ P = Q) : ¬ hi P = hi Q ∨ (hi P = hi Q ∧ ¬ lo P = lo Q) := by
  unfold hi lo
  omega

theorem divide_none (P : Int) (w : World) :
    Calls Try.prog 95 #[PV P, .int .u64 0] w fun e w' => e = .returned (.tuple #[.agg #[.int .u64 0, .int .u64 0], .int .u64 0, .int .i64 2]) ∧ Bel w w' := by
  go_enter Try.func95, Try.ntmps95
  go_wp2
  refine bodyPost_ret (v := .tuple #[.agg #[.int .u64 0, .int .u64 0], .int .u64 0, .int .i64 2]) (by simp [results, Try.results95, go_sem]) rfl ⟨rfl, ?_⟩
  exact ((Bel.refl _).alloc _).alloc _

theorem parts_of (P c : Int) (h0 : 0 ≤ P) (c0 : 0 < c) :
    (hi P % c * 18446744073709551616 + lo P) / c = lo (P / c) ∧ (hi P % c * 18446744073709551616 + lo P) % c = P % c ∧ hi P / c = hi (P / c) := by
  have l0 := lo0 P; have l1 := lo1 P
  have m0 := Int.emod_nonneg (hi P) (b := c) (by omega)
  have m1 := Int.emod_lt_of_pos (hi P) c0
  have e1 := hilo P
  have e2 := Int.emod_add_mul_ediv (hi P) c
  have e3 : P = (hi P % c * 18446744073709551616 + lo P) + c * (hi P / c * 18446744073709551616) := by
    rw [← Int.mul_assoc]
    generalize c * (hi P / c) = t at *
    omega
  have e4 : P / c = hi P / c * 18446744073709551616 + (hi P % c * 18446744073709551616 + lo P) / c := by
    conv => lhs; rw [e3]
    rw [Int.add_mul_ediv_left _ _ (by omega)]
    omega
  have q0 : 0 ≤ (hi P % c * 18446744073709551616 + lo P) / c := Int.ediv_nonneg (by omega) (by omega)
  have q1 : (hi P % c * 18446744073709551616 + lo P) / c < 18446744073709551616 := by
    rw [Int.ediv_lt_iff_lt_mul c0]
    omega
  refine ⟨(lo_eq e4.symm q0 (by omega)).symm, ?_, (hi_eq e4.symm q0 (by omega)).symm⟩
  conv => rhs; rw [e3]
  rw [Int.add_mul_emod_self_left]

theorem divide (P c : Int) (w : World) (h0 : 0 ≤ P) (h1 : P < 340282366920938463463374607431768211456) (c0 : 0 < c) (c1 : c ≤ 18446744073709551615) :
    Calls Try.prog 95 #[PV P, .int .u64 c] w fun e w' => e = .returned (.tuple #[PV (P / c), .int .u64 (P % c), .int .i64 0]) ∧ Bel w w' := by
  have l0 := lo0 P; have l1 := lo1 P; have k0 := hi0 h0; have k1 := hi1 h1
  have m0 := Int.emod_nonneg (hi P) (b := c) (by omega)
  have m1 := Int.emod_lt_of_pos (hi P) c0
  obtain ⟨e1, e2, e3⟩ := parts_of P c h0 c0
  have D : ∀ w, Calls Try.prog 106 #[.int .u64 (hi P % c), .int .u64 (lo P), .int .u64 c] w fun e w' => e = .returned (.tuple #[.int .u64 (lo (P / c)), .int .u64 (P % c)]) ∧ ∃ n, w.drewN n = w' := by
    intro w
    have := div64 _ (lo P) c w m0 m1 c1 l0 l1
    rw [e1, e2] at this
    exact this
  clear e1 e2
  have D' := Lib.hid D
  clear D
  go_enter Try.func95, Try.ntmps95
  go_wp2
  go_region_with (go_at_call 106; refine (D'.out _).mono ?_; rintro e w' ⟨rfl, n, rfl⟩)
  all_goals
    go_wp2
    refine bodyPost_ret (v := .tuple #[PV (P / c), .int .u64 (P % c), .int .i64 0]) (by simp [results, Try.results95, go_sem]) rfl ⟨rfl, ?_⟩
    exact Bel.set (((Bel.alloc (Bel.alloc (Bel.refl _) _) _).drewN _)) (by simp) _
end Fix
end Go.Proofs.Ytdpompponngmdaa
end

section
/-
  What the exported functions of package fixnum answer in this program: contracts, for any words.
  Conditions: every amount is from 0 to 2^64 - 1.
-/
namespace Go.Proofs.Ytdpompponngmdaa
open Go.RowKit Go.Shelf
set_option linter.unusedVariables false
namespace Fix

/-- A number as an amount, or 0 and ErrOver. -/
def amt (P : Int) : Int := if P < 18446744073709551616 then P else 0
def amtE (P : Int) : Int := if P < 18446744073709551616 then 0 else 12
theorem amt_of {P : Int} (h : P ≤ 18446744073709551615) : amt P = P ∧ amtE P = 0 := by unfold amt amtE; rw [if_pos (by omega), if_pos (by omega)]; exact ⟨rfl, rfl⟩
theorem amt_no {P : Int} (h : 18446744073709551615 < P) : amt P = 0 ∧ amtE P = 12 := by unfold amt amtE; rw [if_neg (by omega), if_neg (by omega)]; exact ⟨rfl, rfl⟩
theorem amt0 {P : Int} (h : 0 ≤ P) : 0 ≤ amt P := by unfold amt; split <;> omega
theorem amt1 {P : Int} : amt P ≤ 18446744073709551615 := by unfold amt; split <;> omega

theorem word (P : Int) (w : World) (h0 : 0 ≤ P) :
    Calls Try.prog 96 #[PV P] w fun e w' => e = .returned (.tuple #[.int .u64 (amt P), .int .i64 (amtE P)]) ∧ ∃ c, w.alloc (.cells c 127) = w' := by
  rcases Int.lt_or_le 18446744073709551615 P with h | h
  · obtain ⟨e1, e2⟩ := amt_no h
    rw [e1, e2]
    exact word_great _ _ _ (by rw [beq_eq_false_iff_ne]; unfold hi; omega)
  · obtain ⟨e1, e2⟩ := amt_of h
    rw [e1, e2, show P = lo P by unfold lo; omega]
    refine word_small _ _ _ (by unfold lo hi; omega) |>.mono fun e w' h => ⟨h.1.trans ?_, h.2⟩
    rw [show lo (lo P) = lo P by unfold lo; omega]

theorem add (a b : Int) (w : World) (a0 : 0 ≤ a) (a1 : a ≤ 18446744073709551615) (b0 : 0 ≤ b) (b1 : b ≤ 18446744073709551615) :
    Calls Try.prog 73 #[.int .u64 a, .int .u64 b] w fun e w' => e = .returned (.tuple #[.int .u64 (amt (a + b)), .int .i64 (amtE (a + b))]) ∧ Bel w w' := by
  go_enter Try.func73, Try.ntmps73
  go_wp2_with (first | simp only [add64_0 a b a0 b0] | (go_at_call 96; refine (word (a + b) _ (by omega)).mono ?_; rintro e w' ⟨rfl, x, rfl⟩))
  go_ret2
  exact ⟨rfl, (Bel.refl _).alloc _⟩

/-- A difference, or 0 and ErrPoor. -/
def dif (a b : Int) : Int := if a < b then 0 else a - b
def difE (a b : Int) : Int := if a < b then 13 else 0
/-- A product's quotient, or 0; its error. -/
def mdN (a b c : Int) : Int := if c = 0 then 0 else amt (a * b / c)
def mdE (a b c : Int) : Int := if c = 0 then 2 else amtE (a * b / c)
theorem mulDiv (a b c : Int) (w : World) (a0 : 0 ≤ a) (a1 : a ≤ 18446744073709551615) (b0 : 0 ≤ b) (b1 : b ≤ 18446744073709551615) (c0 : 0 ≤ c) (c1 : c ≤ 18446744073709551615) :
    Calls Try.prog 71 #[.int .u64 a, .int .u64 b, .int .u64 c] w fun e w' => e = .returned (.tuple #[.int .u64 (mdN a b c), .int .i64 (mdE a b c)]) ∧ Bel w w' := by
  obtain ⟨p0, p1⟩ := mul_le a0 a1 b0 b1
  unfold mdN mdE
  by_cases h : c = 0
  · subst h
    rw [if_pos rfl, if_pos rfl]
    go_enter Try.func71, Try.ntmps71
    go_wp2_with (first | (go_at_call 94; refine (times _ _ _ a0 a1 b0 b1).mono ?_; rintro e w' ⟨rfl, x, rfl⟩) | (go_at_call 95; refine (divide_none _ _).mono ?_; rintro e w' ⟨rfl, hb⟩))
    go_ret2
    exact ⟨rfl, (((Bel.refl _).alloc _).trans hb).alloc _⟩
  · rw [if_neg h, if_neg h]
    have h' : 0 < c := by omega
    clear h
    have h := h'
    clear h'
    have q0 : 0 ≤ a * b / c := Int.ediv_nonneg p0 c0
    go_enter Try.func71, Try.ntmps71
    go_wp2_with (first | (go_at_call 94; refine (times _ _ _ a0 a1 b0 b1).mono ?_; rintro e w' ⟨rfl, x, rfl⟩) | (go_at_call 95; refine (divide (a * b) c _ p0 (by omega) h c1).mono ?_; rintro e w' ⟨rfl, hb⟩) | (go_at_call 96; refine (word (a * b / c) _ q0).mono ?_; rintro e w' ⟨rfl, x, rfl⟩))
    go_ret2
    exact ⟨rfl, ((((Bel.refl _).alloc _).trans hb).alloc _).alloc _⟩

/-- A product's quotient, rounded up. -/
def upQ (a b c : Int) : Int := if 0 < a * b % c then a * b / c + 1 else a * b / c
def upN (a b c : Int) : Int := if c = 0 then 0 else amt (upQ a b c)
def upE (a b c : Int) : Int := if c = 0 then 2 else amtE (upQ a b c)
def restN (a b c : Int) : Int := if c = 0 then 0 else a * b % c
def restE (c : Int) : Int := if c = 0 then 2 else 0
theorem hi_small (m : Int) (m0 : 0 ≤ m) (m1 : m ≤ 18446744073709551615) : hi m = 0 ∧ lo m = m := by unfold hi lo; omega
def capN (m a b c : Int) : Int := if c = 0 then 0 else if a * b / c < m then a * b / c else m
def partN (a p : Int) : Int := if 1000000000 < p then 0 else mdN a p 1000000000
def partE (a p : Int) : Int := if 1000000000 < p then 3 else mdE a p 1000000000
theorem part (a p : Int) (w : World) (a0 : 0 ≤ a) (a1 : a ≤ 18446744073709551615) (p0 : 0 ≤ p) (p1 : p ≤ 18446744073709551615) :
    Calls Try.prog 41 #[.int .u64 a, .int .u64 p] w fun e w' => e = .returned (.tuple #[.int .u64 (partN a p), .int .i64 (partE a p)]) ∧ Bel w w' := by
  unfold partN partE
  by_cases h : 1000000000 < p
  · rw [if_pos h, if_pos h]
    go_enter Try.func41, Try.ntmps41
    go_wp2
    go_ret2
    exact ⟨rfl, Bel.refl _⟩
  · rw [if_neg h, if_neg h]
    go_enter Try.func41, Try.ntmps41
    go_wp2_with (go_at_call 71; refine (mulDiv _ _ _ _ a0 a1 p0 p1 (by decide) (by decide)).mono ?_; rintro e w' ⟨rfl, hb⟩)
    go_ret2
    exact ⟨rfl, hb⟩

end Fix
end Go.Proofs.Ytdpompponngmdaa
end

section
/-
  What fixnum.Sum answers in this program: the sum of a slice of words, or 0 and ErrOver.
  Conditions: the slice reads as words from 0 to 2^64 - 1.
-/
namespace Go.Proofs.Ytdpompponngmdaa
open Go.RowKit Go.Shelf
set_option linter.unusedVariables false


/-- The sum of the first k. -/
def sumTo (zs : List Int) : Nat → Int
  | 0 => 0
  | k + 1 => sumTo zs k + zs.getD k 0
/-- Words. -/
def Words (zs : List Int) : Prop := ∀ i, 0 ≤ zs.getD i 0 ∧ zs.getD i 0 ≤ 18446744073709551615
theorem words_of {zs : List Int} (h : ∀ z ∈ zs, 0 ≤ z ∧ z ≤ 18446744073709551615) : Words zs := by
  intro i
  rw [List.getD_eq_getElem?_getD]
  rcases Nat.lt_or_ge i zs.length with hi | hi
  · rw [List.getElem?_eq_getElem hi]
    exact h _ (List.getElem_mem hi)
  · rw [List.getElem?_eq_none hi]
    exact ⟨by decide, by decide⟩
theorem sumTo_le {zs : List Int} (h : Words zs) {k n : Nat} (hk : k ≤ n) : sumTo zs k ≤ sumTo zs n := by
  induction n with
  | zero => obtain rfl : k = 0 := by omega
            exact Int.le_refl _
  | succ n ih =>
    rcases Nat.lt_or_ge n k with hlt | hge
    · obtain rfl : k = n + 1 := by omega
      exact Int.le_refl _
    · exact Int.le_trans (ih hge) (by show _ ≤ sumTo zs n + zs.getD n 0; have := h n; omega)
theorem sumTo0 {zs : List Int} (h : Words zs) (k : Nat) : 0 ≤ sumTo zs k := sumTo_le h (Nat.zero_le k)

namespace Fix
end Fix
end Go.Proofs.Ytdpompponngmdaa
end
