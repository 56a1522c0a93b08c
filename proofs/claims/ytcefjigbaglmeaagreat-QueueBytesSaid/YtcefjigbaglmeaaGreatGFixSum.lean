/-
  What fixnum.Sum answers in this program: the sum of a slice of words, or 0 and ErrOver.
  Conditions: the slice reads as words from 0 to 2^64 - 1.
-/
import Derived.Test.YtcefjigbaglmeaaGreatGFixApi
namespace Go.Proofs.YtcefjigbaglmeaaGreat
open Go.RowKit Go.Shelf
set_option linter.unusedVariables false


/-- The sum of the first k. -/
def sumTo (zs : List Int) : Nat → Int
  | 0 => 0
  | k + 1 => sumTo zs k + zs.getD k 0
/-- Words. -/
def Words (zs : List Int) : Prop := ∀ i, 0 ≤ zs.getD i 0 ∧ zs.getD i 0 ≤ 18446744073709551615
theorem words_of {zs : List Int} (h : ∀ z ∈ zs, 0 ≤ z ∧ z ≤ 18446744073709551615) : Words zs := by
  intro i
  rw [List.getD_eq_getElem?_getD]
  rcases Nat.lt_or_ge i zs.length with hi | hi
  · rw [List.getElem?_eq_getElem hi]
    exact h _ (List.getElem_mem hi)
  · rw [List.getElem?_eq_none hi]
    exact ⟨by decide, by decide⟩
theorem sumTo_le {zs : List Int} (h : Words zs) {k n : Nat} (hk : k ≤ n) : sumTo zs k ≤ sumTo zs n := by
  induction n with
  | zero => obtain rfl : k = 0 := by omega
            exact Int.le_refl _
  | succ n ih =>
    rcases Nat.lt_or_ge n k with hlt | hge
    · obtain rfl : k = n + 1 := by omega
      exact Int.le_refl _
    · exact Int.le_trans (ih hge) (by show _ ≤ sumTo zs n + zs.getD n 0; have := h n; omega)
theorem sumTo0 {zs : List Int} (h : Words zs) (k : Nat) : 0 ≤ sumTo zs k := sumTo_le h (Nat.zero_le k)

namespace Fix
end Fix
end Go.Proofs.YtcefjigbaglmeaaGreat
