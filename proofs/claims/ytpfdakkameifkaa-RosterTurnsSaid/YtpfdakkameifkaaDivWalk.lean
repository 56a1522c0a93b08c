/-
  The walk through math/bits.Div64 where the high word is not 0: normalization and two digits, all of its numbers named.
  Conditions: 0 < hi < y < 2^64, 0 <= lo < 2^64; each named number is what the program reckons there.
-/
import Derived.Test.YtpfdakkameifkaaShelf
import Derived.Test.YtpfdakkameifkaaDivArith
import Derived.Test.YtpfdakkameifkaaRows
import Derived.WalkKit
import Derived.WalkSpells
import Derived.RowKit3
import Derived.Below
import Derived.Lib.Hide
import Derived.Outline
import Derived.BigQuiet
import Derived.Deep.QuietTactic
namespace Go.Proofs.Ytpfdakkameifkaa
open Go.RowKit Go.Shelf
namespace Div64
open DivArith
set_option linter.unusedVariables false

theorem mul_small {q B : Int} (h0 : 0 ≤ q) (h1 : q < 4294967296) (b0 : 0 ≤ B) (b1 : B < 4294967296) : 0 ≤ q * B ∧ q * B ≤ 18446744065119617025 := by
  refine ⟨Int.mul_nonneg h0 b0, ?_⟩
  have a : q * B ≤ 4294967295 * B := Int.mul_le_mul_of_nonneg_right (by omega) b0
  omega

/-- The ways through one round of a digit's correction. -/
theorem cases_of {v A B u d Q R q r : Int} (S : Set_ v A B u d Q R) (I : Inv A B u d Q q r) (hr : r < 4294967296) :
    (Q < q ∧ Inv A B u d Q (q - 1) (r + A) ∧ r + A < 4294967296 ∧ (4294967296 ≤ q ∨ (q < 4294967296 ∧ 4294967296 * r + d < q * B ∧ 0 ≤ q * B ∧ q * B ≤ 18446744065119617025))) ∨
    ((q = Q + 1 ∧ 4294967296 ≤ r + A ∧ 4294967296 ≤ q) ∨
     (q = Q + 1 ∧ 4294967296 ≤ r + A ∧ q < 4294967296 ∧ 4294967296 * r + d < q * B ∧ 0 ≤ q * B ∧ q * B ≤ 18446744065119617025) ∨
     (q = Q ∧ q < 4294967296 ∧ q * B ≤ 4294967296 * r + d ∧ 0 ≤ q * B ∧ q * B ≤ 18446744065119617025)) := by
  have c0 := I.q0; have cl := I.le
  rcases Int.lt_or_le q 4294967296 with hq | hq
  · obtain ⟨m3, m4⟩ := mul_small c0 hq S.b0 S.b1
    rcases Int.lt_or_le (r * 4294967296 + d) (q * B) with c | c
    · have hgt := S.great I (.inr c)
      have I' := S.next I hgt
      rcases Int.lt_or_le (r + A) 4294967296 with hb | hb
      · exact .inl ⟨hgt, I', hb, .inr ⟨hq, by omega, m3, m4⟩⟩
      · have := S.full I' hb (by omega)
        exact .inr (.inr (.inl ⟨by omega, hb, hq, by omega, m3, m4⟩))
    · exact .inr (.inr (.inr ⟨S.hit I c, hq, by omega, m3, m4⟩))
  · have hgt := S.great I (.inl hq)
    have I' := S.next I hgt
    rcases Int.lt_or_le (r + A) 4294967296 with hb | hb
    · exact .inl ⟨hgt, I', hb, .inl hq⟩
    · have := S.full I' hb (by omega)
      exact .inr (.inl ⟨by omega, hb, hq⟩)

end Div64
end Go.Proofs.Ytpfdakkameifkaa
