/-
  What the statements' Near answers: a record of params that Check likes. Condition: its numbers are ints.
-/
import Derived.Laws.CopyOwn
import Derived.Test.YtpohcdfmkcfonaaGreatDoorGPs2
namespace Go.Proofs.YtpohcdfmkcfonaaGreatDoor
open Go.RowKit Go.Shelf
set_option linter.unusedVariables false
namespace Pm
open Kk

theorem wrapJ (n : Int) (h0 : -9223372036854775808 ≤ n) (h1 : n ≤ 9223372036854775807) : IntKind.i64.wrap n = n := by
  simp [IntKind.wrap, IntKind.bits, IntKind.signed]
  omega
def NearE (w : World) (e : Ending) (w' : World) : Prop := ∃ y, e = .returned (.agg (List.toArray (recC y))) ∧ Kinds y ∧ Chk y 0 0 ∧ Bel w w'
def Z11 : List Int := [0, 0, 0, 0, 0, 0, 0, 0, 0, 0, 0]
abbrev ZRP : Obj := .cells (recC fun _ => 0).toArray 24

theorem row_of {w : World} {g : Nat} {cur : Array Value} {cs : List Value} {t : TypeId} (hl : cs.length ≤ 11) (h : w.heap[g]? = some (.cells (splice cur.toList 0 cs).toArray t (0, 0))) (hc : ∀ j, j < 11 → cur[j]? = some (.int .i64 0)) :
    w.rangeAt g 0 (cs ++ List.replicate (11 - cs.length) (Value.int .i64 0)) := fun j v hv => by
  rw [Nat.zero_add]
  have hb : Blk w g (splice cur.toList 0 cs).toArray t := h
  refine hb.cell j ?_
  rw [List.getElem?_toArray]
  have hj : j < 11 := by
    have := (List.getElem?_eq_some_iff.1 hv).1
    simp at this
    omega
  unfold splice
  rw [List.take_zero, List.nil_append, Nat.zero_add]
  by_cases h1 : j < cs.length
  · rw [List.getElem?_append_left h1] at hv ⊢
    exact hv
  · rw [List.getElem?_append_right (by omega)] at hv ⊢
    rw [List.getElem?_replicate] at hv
    rw [if_pos (by omega)] at hv
    rw [List.getElem?_drop, show cs.length + (j - cs.length) = j by omega, Array.getElem?_toList, hc j hj]
    exact hv

end Pm
end Go.Proofs.YtpohcdfmkcfonaaGreatDoor
