/-
  The greater and the lesser of two ints. No condition.
-/
import Derived.Test.YtmbodfmdaocppaaAc4
namespace Go.Proofs.Ytmbodfmdaocppaa
open Go.RowKit Go.Shelf
namespace Ac
theorem max_run (a b : Int) (w : World) : (Builtin.max_ #[3, 3] 3 #[.int .i64 a, .int .i64 b]).run Try.prog w = .ok (.int .i64 (max a b)) w := by
  by_cases h : a < b
  · rw [Int.max_eq_right (by omega)]
    go_simp
  · rw [Int.max_eq_left (by omega)]
    go_simp
theorem min_run (a b : Int) (w : World) : (Builtin.min_ #[3, 3] 3 #[.int .i64 a, .int .i64 b]).run Try.prog w = .ok (.int .i64 (min a b)) w := by
  by_cases h : b < a
  · rw [Int.min_eq_right (by omega)]
    go_simp
  · rw [Int.min_eq_left (by omega)]
    go_simp
end Ac
end Go.Proofs.Ytmbodfmdaocppaa
