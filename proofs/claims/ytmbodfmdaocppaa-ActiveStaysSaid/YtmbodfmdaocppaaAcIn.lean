/-
  Lists of words and of bools as they come in. No condition.
-/
import Derived.Test.YtmbodfmdaocppaaAcB
namespace Go.Proofs.Ytmbodfmdaocppaa
open Go.RowKit Go.Shelf
set_option linter.unusedVariables false
namespace Ac
open Kk Pm Ro

/-- Words as they come in. -/
def Wrds (w : World) (A : Option Addr) (n c : Nat) : Prop :=
  n ≤ c ∧ (A = none → c = 0) ∧ (0 < n → ∃ b o, A = some ⟨b, o, none⟩ ∧ b < w.heap.size ∧ ∀ i, i < n → ∃ (z0 : Int), (0 ≤ z0 ∧ z0 ≤ 18446744073709551615) ∧ w.rangeAt b (o + i * 1) [.int .u64 z0])
/-- Bools as they come in. -/
def Bols (w : World) (A : Option Addr) (n c : Nat) : Prop :=
  n ≤ c ∧ (A = none → c = 0) ∧ (0 < n → ∃ b o, A = some ⟨b, o, none⟩ ∧ b < w.heap.size ∧ ∀ i, i < n → ∃ (z0 : Bool), (True) ∧ w.rangeAt b (o + i * 1) [.bool z0])
theorem rows_in {α : Type} (K : Rw.Row α) (G : α → Prop) {w : World} {b o : Nat} : ∀ (n : Nat), (∀ i, i < n → ∃ r : α, G r ∧ w.rangeAt b (o + i * K.z) (K.k r)) →
    ∃ l : List α, l.length = n ∧ (∀ r ∈ l, G r) ∧ ∀ i r, l[i]? = some r → w.rangeAt b (o + i * K.z) (K.k r)
  | 0, _ => ⟨[], rfl, fun r h => (by cases h), fun i r h => (by simp at h)⟩
  | n + 1, h => by
    obtain ⟨l, h1, h2, h3⟩ := rows_in K G n (fun i hi => h i (by omega))
    obtain ⟨r0, hz, hr⟩ := h n (by omega)
    refine ⟨l ++ [r0], by simp [h1], fun r hr' => ?_, fun i r hi => ?_⟩
    · rcases List.mem_append.1 hr' with h' | h'
      · exact h2 r h'
      · rw [List.mem_singleton] at h'
        subst h'
        exact hz
    · rcases Nat.lt_or_ge i n with h' | h'
      · rw [List.getElem?_append_left (by omega)] at hi
        exact h3 i r hi
      · have hin : i = n := by have := (List.getElem?_eq_some_iff.1 hi).1; simp at this; omega
        subst hin
        rw [List.getElem?_append_right (by omega), h1, Nat.sub_self] at hi
        injection hi with hi
        subst hi
        exact hr
theorem rs_in {α : Type} (K : Rw.Row α) (G : α → Prop) {w : World} {A : Option Addr} {n c : Nat} (h1 : n ≤ c) (h2 : A = none → c = 0) (h3 : 0 < n → ∃ b o, A = some ⟨b, o, none⟩ ∧ b < w.heap.size ∧ ∀ i, i < n → ∃ r : α, G r ∧ w.rangeAt b (o + i * K.z) (K.k r)) : ∃ l, Rw.RS K w A n c l ∧ ∀ r ∈ l, G r := by
  by_cases h0 : 0 < n
  · obtain ⟨b, o, e, hlt, hr⟩ := h3 h0
    obtain ⟨l, q1, q2, q3⟩ := rows_in K G n hr
    exact ⟨l, ⟨q1, h1, h2, fun _ => ⟨b, o, e, hlt, q3⟩⟩, q2⟩
  · obtain rfl : n = 0 := by omega
    exact ⟨[], ⟨rfl, h1, h2, fun h => absurd h h0⟩, fun r h => by cases h⟩
theorem wrds_rs {w : World} {A : Option Addr} {n c : Nat} (h : Wrds w A n c) : ∃ l, Rw.RS uR w A n c l ∧ ∀ x ∈ l, 0 ≤ x ∧ x ≤ 18446744073709551615 := by
  obtain ⟨h1, h2, h3⟩ := h
  exact rs_in uR (fun x => 0 ≤ x ∧ x ≤ 18446744073709551615) h1 h2 h3
theorem bols_rs {w : World} {A : Option Addr} {n c : Nat} (h : Bols w A n c) : ∃ l, Rw.RS bR w A n c l := by
  obtain ⟨h1, h2, h3⟩ := h
  obtain ⟨l, hl, _⟩ := rs_in bR (fun _ => True) h1 h2 h3
  exact ⟨l, hl⟩
end Ac
end Go.Proofs.Ytmbodfmdaocppaa
