/-
  What stamp.Compare answers: any two stamps. No condition.
-/
import Derived.WalkMore
import Derived.Test.YtcefjigbaglmeaaGreatGSm1
namespace Go.Proofs.YtcefjigbaglmeaaGreat
open Go.RowKit Go.Shelf
set_option linter.unusedVariables false
namespace Sm
open Kk

/-- The order of lists of pairs. -/
def cmpL : List (Int × Int) → Int
  | [] => 0
  | (x, y) :: l => if x < y then -1 else if y < x then 1 else cmpL l
def cmp (a b c d e f g h : Int) : Int := cmpL [(a, e), (b, f), (c, g), (d, h)]
def cellsP : List (Int × Int) → List Value
  | [] => []
  | (x, y) :: l => .int .i64 x :: .int .i64 y :: cellsP l
theorem cellsP_at : ∀ (l : List (Int × Int)) (i : Nat) (x y : Int), l[i]? = some (x, y) → (cellsP l)[2 * i]? = some (.int .i64 x) ∧ (cellsP l)[2 * i + 1]? = some (.int .i64 y)
  | [], i, x, y, h => by simp at h
  | (p, q) :: l, 0, x, y, h => by simp at h; obtain ⟨rfl, rfl⟩ := h; exact ⟨rfl, rfl⟩
  | (p, q) :: l, i + 1, x, y, h => by
    have := cellsP_at l i x y (by simpa using h)
    rw [show 2 * (i + 1) = 2 * i + 1 + 1 by omega]
    exact this
theorem cmpL_skip : ∀ (l : List (Int × Int)) (i : Nat), (∀ (j : Nat) (x y : Int), j < i → l[j]? = some (x, y) → x = y) → cmpL l = cmpL (l.drop i)
  | l, 0, _ => rfl
  | [], i + 1, _ => rfl
  | (p, q) :: l, i + 1, hb => by
    obtain rfl : p = q := hb 0 p q (by omega) rfl
    show (if p < p then (-1 : Int) else if p < p then 1 else cmpL l) = cmpL (l.drop i)
    rw [if_neg (by omega), if_neg (by omega)]
    exact cmpL_skip l i (fun j x y hj hl => hb (j + 1) x y (by omega) (by simpa using hl))
theorem cmpL_at (l : List (Int × Int)) (i : Nat) (x y : Int) (h : l[i]? = some (x, y)) : cmpL (l.drop i) = if x < y then -1 else if y < x then 1 else cmpL (l.drop (i + 1)) := by
  obtain ⟨hi, h2⟩ := List.getElem?_eq_some_iff.1 h
  rw [List.drop_eq_getElem_cons hi, h2]
  rfl

end Sm
end Go.Proofs.YtcefjigbaglmeaaGreat
