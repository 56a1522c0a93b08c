/-
  What codec.Get answers in this program, of any bytes at any place: a number and the place behind it, or why there is none.
  Conditions: the slice reads as bytes, of at most 2^47 of them.
-/
import Derived.Test.YtmbodfmdaocppaaBase
namespace Go.Proofs.Ytmbodfmdaocppaa
open Go.RowKit Go.Shelf
set_option linter.unusedVariables false
namespace Cd

/-- The first low byte, or -1. -/
def First (zs : List Int) (n : Nat) (r : Int) : Prop :=
  (r = -1 ∧ ∀ i, i < n → 128 ≤ zs.getD i 0) ∨ (∃ j : Nat, r = j ∧ j < n ∧ (∀ i, i < j → 128 ≤ zs.getD i 0) ∧ zs.getD j 0 < 128)

/-- Is what stands there the shortest form? -/
def shortB (n : Nat) (z : Int) : Bool := if n = 1 then true else if n = 10 then z == 1 else decide (0 < z)

end Cd
end Go.Proofs.Ytmbodfmdaocppaa
