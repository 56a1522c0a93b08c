/-
  What the reference's reader answers: Hash.
  Conditions: the reader is one that the reference's NewReader made of at most 10^6 bytes.
-/
import Derived.Test.YthdcgkikhindiaaGQRead5
namespace Go.Proofs.Ythdcgkikhindiaa
open Go.RowKit Go.Shelf
set_option linter.unusedVariables false
namespace Cd

theorem own_block_ge' {w : World} {base : Nat} {v : Value} {n : Nat} {xs : List Value} (h : w.ownsRow base 5 1 v n xs) : ∀ q, v.ownBlock = some q → base ≤ q := fun q hq => (h.lt q hq).1
theorem kep_past {S T : Nat → Prop} {w w2 w3 : World} (h : Kep S w w2) (h3 : Kep T w2 w3) (hT : ∀ i, T i → w.heap.size ≤ i) : Kep S w w3 :=
  ⟨h3.os.trans h.os, h3.tape.trans h.tape, h3.output.trans h.output, Nat.le_trans h.size h3.size, fun i hi hs => (h3.block i (Nat.lt_of_lt_of_le hi h.size) (fun ht => absurd (hT i ht) (by omega))).trans (h.block i hi hs)⟩
/-- Zeroes, the first j of them written over. -/
def mix (ys : List Int) : Nat → Array Value
  | 0 => Z32
  | j + 1 => (mix ys j).setIfInBounds j (.int .u8 (ys.getD j 0))
theorem mix_size (ys : List Int) : ∀ j, (mix ys j).size = 32
  | 0 => rfl
  | j + 1 => by rw [mix, Array.size_setIfInBounds, mix_size ys j]
theorem mix_get (ys : List Int) (i : Nat) (hi : i < 32) : ∀ j, (mix ys j)[i]? = some (.int .u8 (if i < j then ys.getD i 0 else 0))
  | 0 => by
    show Z32[i]? = _
    rw [z32, List.getElem?_toArray, List.getElem?_map, List.getElem?_replicate]
    simp [hi]
  | j + 1 => by
    rw [mix, Array.getElem?_setIfInBounds, mix_size, mix_get ys i hi j]
    by_cases e : j = i
    · subst e
      simp [hi]
    · rw [if_neg e]
      by_cases h : i < j
      · rw [if_pos h, if_pos (by omega)]
      · rw [if_neg h, if_neg (by omega)]
theorem mix_full (ys : List Int) (h : ys.length = 32) : mix ys 32 = (ys.map (Value.int .u8)).toArray := by
  apply Array.ext_getElem?
  intro i
  rcases Nat.lt_or_ge i 32 with hi | hi
  · rw [mix_get ys i hi 32, if_pos hi, List.getElem?_toArray, List.getElem?_map, List.getElem?_eq_getElem (by omega), getD_eq _ _ (by omega)]
    rfl
  · rw [Array.getElem?_eq_none (by rw [mix_size]; exact hi), Array.getElem?_eq_none (by simp; omega)]

end Cd
end Go.Proofs.Ythdcgkikhindiaa
