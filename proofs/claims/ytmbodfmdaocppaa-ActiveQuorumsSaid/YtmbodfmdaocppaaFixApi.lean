/-
  What the exported functions of package fixnum answer in this program: contracts, for any words.
  Conditions: every amount is from 0 to 2^64 - 1.
-/
import Derived.Test.YtmbodfmdaocppaaFix
namespace Go.Proofs.Ytmbodfmdaocppaa
open Go.RowKit Go.Shelf
set_option linter.unusedVariables false
namespace Fix

/-- A number as an amount, or 0 and ErrOver. -/
def amt (P : Int) : Int := if P < 18446744073709551616 then P else 0
def amtE (P : Int) : Int := if P < 18446744073709551616 then 0 else 12
theorem amt_of {P : Int} (h : P ≤ 18446744073709551615) : amt P = P ∧ amtE P = 0 := by unfold amt amtE; rw [if_pos (by omega), if_pos (by omega)]; exact ⟨rfl, rfl⟩
theorem amt_no {P : Int} (h : 18446744073709551615 < P) : amt P = 0 ∧ amtE P = 12 := by unfold amt amtE; rw [if_neg (by omega), if_neg (by omega)]; exact ⟨rfl, rfl⟩
theorem amt0 {P : Int} (h : 0 ≤ P) : 0 ≤ amt P := by unfold amt; split <;> omega
theorem amt1 {P : Int} : amt P ≤ 18446744073709551615 := by unfold amt; split <;> omega

/-- A difference, or 0 and ErrPoor. -/
def dif (a b : Int) : Int := if a < b then 0 else a - b
def difE (a b : Int) : Int := if a < b then 13 else 0
/-- A product's quotient, or 0; its error. -/
def mdN (a b c : Int) : Int := if c = 0 then 0 else amt (a * b / c)
def mdE (a b c : Int) : Int := if c = 0 then 2 else amtE (a * b / c)
/-- A product's quotient, rounded up. -/
def upQ (a b c : Int) : Int := if 0 < a * b % c then a * b / c + 1 else a * b / c
def upN (a b c : Int) : Int := if c = 0 then 0 else amt (upQ a b c)
def upE (a b c : Int) : Int := if c = 0 then 2 else amtE (upQ a b c)
def restN (a b c : Int) : Int := if c = 0 then 0 else a * b % c
def restE (c : Int) : Int := if c = 0 then 2 else 0
theorem hi_small (m : Int) (m0 : 0 ≤ m) (m1 : m ≤ 18446744073709551615) : hi m = 0 ∧ lo m = m := by unfold hi lo; omega
def capN (m a b c : Int) : Int := if c = 0 then 0 else if a * b / c < m then a * b / c else m
def partN (a p : Int) : Int := if 1000000000 < p then 0 else mdN a p 1000000000
def partE (a p : Int) : Int := if 1000000000 < p then 3 else mdE a p 1000000000
end Fix
end Go.Proofs.Ytmbodfmdaocppaa
