/-
  What codec.Get answers in this program, of any bytes at any place: a number and the place behind it, or why there is none.
  Conditions: the slice reads as bytes, of at most 2^47 of them.
-/
import Derived.Test.YtmbodfmdaocppaaGet
namespace Go.Proofs.Ytmbodfmdaocppaa
open Go.RowKit Go.Shelf
set_option linter.unusedVariables false
namespace Cd
/-- A number, the place behind it, a fault. -/
abbrev got (n to e bad : Int) : Value := .tuple #[.int .u64 n, .int .i64 to, .agg #[.int .i64 e, .int .i64 bad]]

end Cd
end Go.Proofs.Ytmbodfmdaocppaa
