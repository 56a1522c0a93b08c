/-
  How the reference's Parse goes through a text, line by line: the mathematics of prs over pcs. No program, no condition.
-/
import Derived.Test.YtpohcdfmkcfonaaGreatDoorGPPr0
import Derived.Test.YtpohcdfmkcfonaaGreatDoorGPs4
namespace Go.Proofs.YtpohcdfmkcfonaaGreatDoor
open Go.RowKit Go.Shelf
set_option linter.unusedVariables false
namespace Pm
open Kk

theorem pcs_no {l : List UInt8} (h : Lib.indexByte l 10 < 0) : ∀ f, pcs f l = [l]
  | 0 => rfl
  | f + 1 => by rw [pcs, if_pos h]
theorem pcs_at {l : List UInt8} {k : Nat} (h : Lib.indexByte l 10 = (k : Int)) {f : Nat} (hf : l.length ≤ f) : ∃ g, pcs f l = l.take (k + 1) :: pcs g (l.drop (k + 1)) ∧ (l.drop (k + 1)).length ≤ g := by
  have h1 := (Lib.indexByte_some h).1
  have hk := (List.getElem?_eq_some_iff.1 h1).1
  obtain ⟨g, rfl⟩ : ∃ g, f = g + 1 := ⟨f - 1, by omega⟩
  refine ⟨g, ?_, by rw [List.length_drop]; omega⟩
  rw [pcs, if_neg (by omega), h, Int.toNat_natCast]
theorem suf_at {l : List UInt8} {k : Nat} (h : Lib.indexByte l 10 = (k : Int)) : Lib.hasSuffix (l.take (k + 1)) [10] = true ∧ (l.take (k + 1)).take ((l.take (k + 1)).length - 1) = l.take k := by
  obtain ⟨h1, _⟩ := Lib.indexByte_some h
  obtain ⟨hk, h3⟩ := List.getElem?_eq_some_iff.1 h1
  have e : l.take (k + 1) = l.take k ++ [10] := by rw [List.take_add_one, h1]; rfl
  constructor
  · rw [e]; exact suf_snoc _
  · rw [List.length_take, Nat.min_eq_left (by omega), List.take_take, Nat.min_eq_left (by omega)]
    rfl
theorem suf_no {l : List UInt8} (h : Lib.indexByte l 10 < 0) : Lib.hasSuffix l [10] = false := by
  rw [Bool.eq_false_iff]
  intro hs
  unfold Lib.hasSuffix at hs
  obtain ⟨t, rfl⟩ := List.isSuffixOf_iff_suffix.1 hs
  have hge := Lib.indexByte_ge (t ++ [10]) 10
  exact Lib.indexByte_none (l := t ++ [10]) (c := 10) (by omega) t.length (by simp)
theorem lnA_no {l : List UInt8} (i : Nat) (h : Lib.indexByte l 10 < 0) : lnA i l = 6 := by
  unfold lnA
  rw [suf_no h]
  rfl
theorem lnA_at {l : List UInt8} {k : Nat} (i : Nat) (h : Lib.indexByte l 10 = (k : Int)) : lnA i (l.take (k + 1)) = (match lnB i (l.take k) with | none => 5 | some n => if okB (lo i) (hi i) n = true then 0 else 3) ∧ lnN i (l.take (k + 1)) = (lnB i (l.take k)).getD 0 := by
  obtain ⟨h1, h2⟩ := suf_at h
  unfold lnA lnN
  rw [h1, h2]
  exact ⟨rfl, rfl⟩
/-- The steps. -/
theorem step_short {l : List UInt8} {i f : Nat} (x : Nat → Int) (hi11 : i < 11) (h : Lib.indexByte l 10 < 0) : prs i x (pcs f l) = (zr, 6, (i : Int)) := by
  rw [pcs_no h f]
  show (if i = 11 then _ else _) = _
  rw [if_neg (by omega), lnA_no i h, if_neg (by decide)]
theorem step_form {l : List UInt8} {i f k : Nat} (x : Nat → Int) (hi11 : i < 11) (hf : l.length ≤ f) (h : Lib.indexByte l 10 = (k : Int)) (hn : lnB i (l.take k) = none) : prs i x (pcs f l) = (zr, 5, (i : Int)) := by
  obtain ⟨g, e, _⟩ := pcs_at h hf
  obtain ⟨a, _⟩ := lnA_at i h
  rw [hn] at a
  have a : lnA i (l.take (k + 1)) = 5 := a
  rw [e]
  show (if i = 11 then _ else _) = _
  rw [if_neg (by omega), a, if_neg (by decide)]
theorem step_range {l : List UInt8} {i f k : Nat} {n : Int} (x : Nat → Int) (hi11 : i < 11) (hf : l.length ≤ f) (h : Lib.indexByte l 10 = (k : Int)) (hn : lnB i (l.take k) = some n) (ho : okB (lo i) (hi i) n = false) : prs i x (pcs f l) = (zr, 3, (i : Int)) := by
  obtain ⟨g, e, _⟩ := pcs_at h hf
  obtain ⟨a, _⟩ := lnA_at i h
  rw [hn] at a
  have a : lnA i (l.take (k + 1)) = if okB (lo i) (hi i) n = true then 0 else 3 := a
  rw [ho, if_neg (by decide)] at a
  rw [e]
  show (if i = 11 then _ else _) = _
  rw [if_neg (by omega), a, if_neg (by decide)]
theorem step_go {l : List UInt8} {i f k : Nat} {n : Int} (x : Nat → Int) (hi11 : i < 11) (hf : l.length ≤ f) (h : Lib.indexByte l 10 = (k : Int)) (hn : lnB i (l.take k) = some n) (ho : okB (lo i) (hi i) n = true) :
    ∃ g, (l.drop (k + 1)).length ≤ g ∧ prs i x (pcs f l) = if upd x i n 1 ≤ upd x i n 0 then prs (i + 1) (upd x i n) (pcs g (l.drop (k + 1))) else (zr, 9, (i : Int)) := by
  obtain ⟨g, e, hg⟩ := pcs_at h hf
  obtain ⟨a, b⟩ := lnA_at i h
  rw [hn] at a b
  have a : lnA i (l.take (k + 1)) = if okB (lo i) (hi i) n = true then 0 else 3 := a
  have b : lnN i (l.take (k + 1)) = n := b
  rw [ho, if_pos rfl] at a
  have c : lnX x i (l.take (k + 1)) = upd x i n := by unfold lnX; rw [a, if_pos rfl, b]
  refine ⟨g, hg, ?_⟩
  rw [e]
  show (if i = 11 then _ else _) = _
  rw [if_neg (by omega), a, if_pos rfl, c]
theorem step_end {l : List UInt8} {f : Nat} (x : Nat → Int) : prs 11 x (pcs f l) = if l.length = 0 then (x, 0, 0) else (zr, 4, 11) := by
  have key : ∀ (p : List UInt8) r, pcs f l = p :: r → (p = [] ↔ l = []) → prs 11 x (pcs f l) = if l.length = 0 then (x, 0, 0) else (zr, 4, 11) := by
    intro p r e hp
    rw [e]
    show (if (11 : Nat) = 11 then (if p = [] then (x, 0, 0) else (zr, 4, 11)) else _) = _
    rw [if_pos rfl]
    by_cases hl : l = []
    · rw [if_pos (hp.2 hl), if_pos (by rw [hl]; rfl)]
    · rw [if_neg (fun h => hl (hp.1 h)), if_neg (fun h => hl (List.length_eq_zero_iff.1 h))]
  cases f with
  | zero => exact key l [] rfl Iff.rfl
  | succ f =>
    by_cases h : Lib.indexByte l 10 < 0
    · exact key l [] (by rw [pcs, if_pos h]) Iff.rfl
    · refine key (l.take ((Lib.indexByte l 10).toNat + 1)) (pcs f (l.drop ((Lib.indexByte l 10).toNat + 1))) (by rw [pcs, if_neg h]) ⟨fun hp => ?_, fun hl => by rw [hl]; rfl⟩
      cases l with
      | nil => rfl
      | cons a r => simp at hp
end Pm
end Go.Proofs.YtpohcdfmkcfonaaGreatDoor
