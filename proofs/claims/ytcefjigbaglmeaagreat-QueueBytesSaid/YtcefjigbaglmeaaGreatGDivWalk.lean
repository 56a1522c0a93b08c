/-
  The walk through math/bits.Div64 where the high word is not 0: normalization and two digits, all of its numbers named.
  Conditions: 0 < hi < y < 2^64, 0 <= lo < 2^64; each named number is what the program reckons there.
-/
import Derived.WalkKit
import Derived.WalkSpells
import Derived.RowKit3
import Derived.Below
import Derived.Lib.Hide
import Derived.Outline
import Derived.BigQuiet
import Derived.Deep.QuietTactic
import Derived.Test.YtcefjigbaglmeaaGreatGShelf
import Derived.Test.YtcefjigbaglmeaaGreatGDivArith
import Derived.Test.YtcefjigbaglmeaaGreatRows
namespace Go.Proofs.YtcefjigbaglmeaaGreat
open Go.RowKit Go.Shelf
namespace Div64
open DivArith
set_option linter.unusedVariables false

theorem mul_small {q B : Int} (h0 : 0 ≤ q) (h1 : q < 4294967296) (b0 : 0 ≤ B) (b1 : B < 4294967296) : 0 ≤ q * B ∧ q * B ≤ 18446744065119617025 := by
  refine ⟨Int.mul_nonneg h0 b0, ?_⟩
  have a : q * B ≤ 4294967295 * B := Int.mul_le_mul_of_nonneg_right (by omega) b0
  omega

/-- The ways through one round of a digit's correction. -/
theorem cases_of {v A B u d Q R q r : Int} (S : Set_ v A B u d Q R) (I : Inv A B u d Q q r) (hr : r < 4294967296) :
    (Q < q ∧ Inv A B u d Q (q - 1) (r + A) ∧ r + A < 4294967296 ∧ (4294967296 ≤ q ∨ (q < 4294967296 ∧ 4294967296 * r + d < q * B ∧ 0 ≤ q * B ∧ q * B ≤ 18446744065119617025))) ∨
    ((q = Q + 1 ∧ 4294967296 ≤ r + A ∧ 4294967296 ≤ q) ∨
     (q = Q + 1 ∧ 4294967296 ≤ r + A ∧ q < 4294967296 ∧ 4294967296 * r + d < q * B ∧ 0 ≤ q * B ∧ q * B ≤ 18446744065119617025) ∨
     (q = Q ∧ q < 4294967296 ∧ q * B ≤ 4294967296 * r + d ∧ 0 ≤ q * B ∧ q * B ≤ 18446744065119617025)) := by
  have c0 := I.q0; have cl := I.le
  rcases Int.lt_or_le q 4294967296 with hq | hq
  · obtain ⟨m3, m4⟩ := mul_small c0 hq S.b0 S.b1
    rcases Int.lt_or_le (r * 4294967296 + d) (q * B) with c | c
    · have hgt := S.great I (.inr c)
      have I' := S.next I hgt
      rcases Int.lt_or_le (r + A) 4294967296 with hb | hb
      · exact .inl ⟨hgt, I', hb, .inr ⟨hq, by omega, m3, m4⟩⟩
      · have := S.full I' hb (by omega)
        exact .inr (.inr (.inl ⟨by omega, hb, hq, by omega, m3, m4⟩))
    · exact .inr (.inr (.inr ⟨S.hit I c, hq, by omega, m3, m4⟩))
  · have hgt := S.great I (.inl hq)
    have I' := S.next I hgt
    rcases Int.lt_or_le (r + A) 4294967296 with hb | hb
    · exact .inl ⟨hgt, I', hb, .inl hq⟩
    · have := S.full I' hb (by omega)
      exact .inr (.inl ⟨by omega, hb, hq⟩)

set_option maxRecDepth 100000 in
set_option maxHeartbeats 1000000 in
theorem walk (h l y s V A B U X D1 D0 Q R Q2 R2 : Int) (w : World) (h1 : 0 < h) (h2 : h < y) (h3 : y < 18446744073709551616) (h4 : 0 ≤ l) (h5 : l < 18446744073709551616)
   (hs : Hid (Lib.bitLen y.toNat = 64 - s)) (s0 : 0 ≤ s) (s1 : s < 64)
   (e1 : IntKind.u64.wrap (y * 2 ^ s.toNat) = V) (e2 : V / 4294967296 = A) (e3 : bits .and .u64 V 4294967295 = B)
   (e4 : bits .or .u64 (IntKind.u64.wrap (h * 2 ^ s.toNat)) (l / 2 ^ (64 - s).toNat) = U)
   (e5 : IntKind.u64.wrap (l * 2 ^ s.toNat) = X) (e6 : X / 4294967296 = D1) (e7 : bits .and .u64 X 4294967295 = D0)
   (V1 : V ≤ 18446744073709551615) (S : Set_ V A B U D1 Q R) (S2 : Set_ V A B R D0 Q2 R2)
   (e8 : IntKind.u64.wrap (IntKind.u64.wrap (IntKind.u64.wrap (U * 4294967296) + D1) - IntKind.u64.wrap (Q * V)) = R)
   (e9 : IntKind.u64.wrap (IntKind.u64.wrap (IntKind.u64.wrap (R * 4294967296) + D0) - IntKind.u64.wrap (Q2 * V)) = R2) :
    Calls Tryz.prog 106 #[.int .u64 h, .int .u64 l, .int .u64 y] w fun e w' => e = .returned (.tuple #[.int .u64 (Q * 4294967296 + Q2), .int .u64 (R2 / 2 ^ s.toNat)]) ∧ w = w' := by
  have A0 := S.a0; have A1 := S.a1; have B0 := S.b0; have B1 := S.b1; have U0 := S.u0; have U1 := S.u1
  have D10 := S.d0; have D11 := S.d1; have D20 := S2.d0; have D21 := S2.d1; have R0 := S.r0; have R1 := S.r1; have Q0 := S.q0; have Q1 := S.q1; have Q20 := S2.q0; have Q21 := S2.q1
  have R20 := S2.r0; have R21 := S2.r1
  obtain ⟨I1, J1⟩ := S.start
  obtain ⟨I2, J2⟩ := S2.start
  have q10 := I1.q0; have r10 := I1.r0; have q11 := I1.le
  have q20 := I2.q0; have r20 := I2.r0; have q21 := I2.le
  have m1 : 0 ≤ U / A * A := Int.mul_nonneg q10 (by omega)
  have m2 : 0 ≤ R / A * A := Int.mul_nonneg q20 (by omega)
  go_enter Tryz.func106, Tryz.ntmps106
  go_wp2_with fail
  refine (Tryz.bits_LeadingZeros64 _ _ (by omega) (by omega)).mono ?_
  rintro e w' ⟨rfl, rfl⟩
  rw [show (64 - (Lib.bitLen y.toNat : Int)) = s from by rw [hs.out]; omega]
  go_wp2_with fail
  go_loop [15, 16] (fun q r => ∃ q' r' : Int, q = .int .u64 q' ∧ r = .int .u64 r' ∧ Inv A B U D1 Q q' r' ∧ r' < 4294967296) (fun q _ => (intOf q).toNat)
  case atStart => exact ⟨_, _, rfl, rfl, I1, J1⟩
  case round =>
    obtain ⟨q, r, rfl, rfl, I, hr⟩ := hrel
    clear I1 J1 m1 q10 r10 q11
    have c0 := I.q0; have r0 := I.r0; have cl := I.le
    rcases cases_of S I hr with ⟨hgt, I', hb, c⟩ | hx
    · rcases c with c | ⟨c, c', m3, m4⟩
      · go_wp2
        go_round
        case rel => exact ⟨_, _, rfl, rfl, I', hb⟩
        case measure => simp [intOf]; omega
      · go_wp2
        go_round
        case rel => exact ⟨_, _, rfl, rfl, I', hb⟩
        case measure => simp [intOf]; omega
    · rcases hx with ⟨rfl, hb, c⟩ | ⟨rfl, hb, c, c', m3, m4⟩ | ⟨rfl, c, c', m3, m4⟩
      all_goals
        go_wp2_with fail
        go_loop [18, 16] (fun q r => ∃ q' r' : Int, q = .int .u64 q' ∧ r = .int .u64 r' ∧ Inv A B R D0 Q2 q' r' ∧ r' < 4294967296) (fun q _ => (intOf q).toNat)
        case atStart => exact ⟨_, _, rfl, rfl, I2, J2⟩
        case round =>
          clear I hr c0 r0 cl c
          try clear hb
          try clear c' m3 m4
          obtain ⟨q, r, rfl, rfl, I, hr⟩ := hrel
          clear I2 J2 m2 q20 r20 q21
          have c0 := I.q0; have r0 := I.r0; have cl := I.le
          rcases cases_of S2 I hr with ⟨hgt, I', hb, c⟩ | hx
          · rcases c with c | ⟨c, c', m3, m4⟩
            · go_wp2
              go_round
              case rel => exact ⟨_, _, rfl, rfl, I', hb⟩
              case measure => simp [intOf]; omega
            · go_wp2
              go_round
              case rel => exact ⟨_, _, rfl, rfl, I', hb⟩
              case measure => simp [intOf]; omega
          · rcases hx with ⟨rfl, hb, c⟩ | ⟨rfl, hb, c, c', m3, m4⟩ | ⟨rfl, c, c', m3, m4⟩
            all_goals
              go_wp2
              go_ret2
              exact ⟨rfl, rfl⟩
end Div64
end Go.Proofs.YtcefjigbaglmeaaGreat
