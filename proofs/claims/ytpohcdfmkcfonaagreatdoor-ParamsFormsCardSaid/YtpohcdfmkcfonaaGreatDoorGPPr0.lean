/-
  What Parse makes of the lines of a text, one after the other: no walk. No condition.
-/
import Derived.Test.YtpohcdfmkcfonaaGreatDoorGPPar
import Derived.Test.YtpohcdfmkcfonaaGreatDoorGPSpl2
namespace Go.Proofs.YtpohcdfmkcfonaaGreatDoor
open Go.RowKit Go.Shelf
set_option linter.unusedVariables false
namespace Pm
open Kk

/-- The record, the fault's error and its line, of the lines from the k-th on. -/
def prs : Nat → (Nat → Int) → List (List UInt8) → (Nat → Int) × Int × Int
  | _, x, [] => (x, 0, 0)
  | k, x, l :: r => if k = 11 then (if l = [] then (x, 0, 0) else (zr, 4, 11)) else if lnA k l = 0 then (if lnX x k l 1 ≤ lnX x k l 0 then prs (k + 1) (lnX x k l) r else (zr, 9, k)) else (zr, lnA k l, k)
/-- So far all is well. -/
structure Ran (pre : List (List UInt8)) (x : Nat → Int) : Prop where
  len : pre.length ≤ 11
  kinds : Kinds x
  full : ∀ l ∈ pre, Lib.hasSuffix l [10] = true
  run : ∀ rest, prs 0 zr (pre ++ rest) = prs pre.length x rest
theorem Ran.nil : Ran [] zr := ⟨by simp, fun i hi => ⟨fun _ => by unfold zr; omega, fun _ => by unfold zr; omega⟩, fun l h => (by cases h), fun rest => rfl⟩
theorem lnX_kinds {x : Nat → Int} (h : Kinds x) (i : Nat) (l : List UInt8) : Kinds (lnX x i l) := by
  unfold lnX
  split
  · have hb := lnN_b i l
    have := kinds_upd h i (lnN i l) hb.1 (by omega)
    rwa [sv_num i _ hb.1 hb.2] at this
  · exact h
theorem suffix_of {i : Nat} {l : List UInt8} (h : lnA i l = 0) : Lib.hasSuffix l [10] = true := by
  unfold lnA at h
  by_cases hs : Lib.hasSuffix l [10] = true
  · exact hs
  · rw [if_neg hs] at h; omega
theorem Ran.step {pre : List (List UInt8)} {x : Nat → Int} (h : Ran pre x) (hk : pre.length < 11) {l : List UInt8} (ha : lnA pre.length l = 0) (ho : lnX x pre.length l 1 ≤ lnX x pre.length l 0) : Ran (pre ++ [l]) (lnX x pre.length l) :=
  ⟨by simp; omega, lnX_kinds h.kinds _ _, fun y hy => by
    rcases List.mem_append.1 hy with hy | hy
    · exact h.full y hy
    · simp at hy
      subst hy
      exact suffix_of ha, fun rest => by
    rw [List.append_assoc, h.run]
    show prs pre.length x (l :: rest) = _
    rw [prs, if_neg (by omega), if_pos ha, if_pos ho, List.length_append]
    rfl⟩
theorem Ran.bad {pre : List (List UInt8)} {x : Nat → Int} (h : Ran pre x) (hk : pre.length < 11) {l : List UInt8} (ha : ¬ lnA pre.length l = 0) (rest : List (List UInt8)) : prs 0 zr (pre ++ [l] ++ rest) = (zr, lnA pre.length l, (pre.length : Int)) := by
  rw [List.append_assoc, h.run]
  show prs pre.length x (l :: rest) = _
  rw [prs, if_neg (by omega), if_neg ha]
theorem Ran.order {pre : List (List UInt8)} {x : Nat → Int} (h : Ran pre x) (hk : pre.length < 11) {l : List UInt8} (ha : lnA pre.length l = 0) (ho : ¬ lnX x pre.length l 1 ≤ lnX x pre.length l 0) (rest : List (List UInt8)) : prs 0 zr (pre ++ [l] ++ rest) = (zr, 9, (pre.length : Int)) := by
  rw [List.append_assoc, h.run]
  show prs pre.length x (l :: rest) = _
  rw [prs, if_neg (by omega), if_pos ha, if_neg ho]
theorem Ran.long {pre : List (List UInt8)} {x : Nat → Int} (h : Ran pre x) (hk : pre.length = 11) {l : List UInt8} (hl : l ≠ []) (rest : List (List UInt8)) : prs 0 zr (pre ++ [l] ++ rest) = (zr, 4, 11) := by
  rw [List.append_assoc, h.run]
  show prs pre.length x (l :: rest) = _
  rw [prs, if_pos hk, if_neg hl]
theorem Ran.stop {pre : List (List UInt8)} {x : Nat → Int} (h : Ran pre x) (hk : pre.length = 11) (rest : List (List UInt8)) : prs 0 zr (pre ++ [[]] ++ rest) = (x, 0, 0) := by
  rw [List.append_assoc, h.run]
  show prs pre.length x ([] :: rest) = _
  rw [prs, if_pos hk, if_pos rfl]
theorem pcs_last : ∀ (f : Nat) (l : List UInt8), l.length ≤ f → ∃ z, z ∈ pcs f l ∧ Lib.hasSuffix z [10] = false
  | 0, l, h => by
    have : l = [] := List.length_eq_zero_iff.1 (by omega)
    subst this
    exact ⟨[], by simp [pcs], rfl⟩
  | f + 1, l, h => by
    by_cases hn : Lib.indexByte l 10 < 0
    · refine ⟨l, by rw [pcs, if_pos hn]; simp, ?_⟩
      have hm : Lib.indexByte l 10 = -1 := by have := Lib.indexByte_ge l 10; omega
      cases hs : Lib.hasSuffix l [10] with
      | false => rfl
      | true =>
        obtain ⟨t, ht⟩ := List.isSuffixOf_iff_suffix.1 (show [10].isSuffixOf l = true from hs)
        exact absurd (show l[t.length]? = some 10 by rw [← ht, List.getElem?_append_right (Nat.le_refl _), Nat.sub_self]; rfl) (Lib.indexByte_none hm t.length)
    · obtain ⟨o, ho⟩ : ∃ o : Nat, Lib.indexByte l 10 = (o : Int) := ⟨(Lib.indexByte l 10).toNat, by omega⟩
      have hol := idx_lt ho
      obtain ⟨z, hz, hs⟩ := pcs_last f (l.drop ((Lib.indexByte l 10).toNat + 1)) (by rw [List.length_drop]; omega)
      exact ⟨z, by rw [pcs, if_neg hn]; exact List.mem_cons_of_mem _ hz, hs⟩
end Pm
end Go.Proofs.YtpohcdfmkcfonaaGreatDoor
