/-
  What fixnum.Sum answers in this program: the sum of a slice of words, or 0 and ErrOver.
  Conditions: the slice reads as words from 0 to 2^64 - 1.
-/
import Derived.Test.YtneajcoiemkfbaaGreatCC
namespace Go.Proofs.YtneajcoiemkfbaaGreat
open Go.RowKit Go.Shelf
set_option linter.unusedVariables false


/-- The sum of the first k. -/
def sumTo (zs : List Int) : Nat → Int
  | 0 => 0
  | k + 1 => sumTo zs k + zs.getD k 0
/-- Words. -/
def Words (zs : List Int) : Prop := ∀ i, 0 ≤ zs.getD i 0 ∧ zs.getD i 0 ≤ 18446744073709551615
namespace Fix
end Fix
end Go.Proofs.YtneajcoiemkfbaaGreat
