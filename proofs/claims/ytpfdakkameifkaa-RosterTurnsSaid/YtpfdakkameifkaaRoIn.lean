/-
  Lists of validators and of bools as they come in. No condition.
-/
import Derived.Test.YtpfdakkameifkaaRo15
namespace Go.Proofs.Ytpfdakkameifkaa
open Go.RowKit Go.Shelf
set_option linter.unusedVariables false
namespace Ro
open Kk Pm

/-- Validators as they come in. -/
def Vals (w : World) (A : Option Addr) (n c : Nat) : Prop :=
  n ≤ c ∧ (A = none → c = 0) ∧ (0 < n → ∃ b o, A = some ⟨b, o, none⟩ ∧ b < w.heap.size ∧ ∀ i, i < n → ∃ (z0 : Int) (z1 : Int) (z2 : Int) (z3 : Int) (z4 : Bool) (z5 : Bool), (-9223372036854775808 ≤ z0 ∧ z0 ≤ 9223372036854775807 ∧ 0 ≤ z1 ∧ z1 ≤ 18446744073709551615 ∧ -9223372036854775808 ≤ z2 ∧ z2 ≤ 9223372036854775807 ∧ -9223372036854775808 ≤ z3 ∧ z3 ≤ 9223372036854775807) ∧ w.rangeAt b (o + i * 6) [.int .i64 z0, .int .u64 z1, .int .i64 z2, .int .i64 z3, .bool z4, .bool z5])
/-- Bools as they come in. -/
def Bools (w : World) (A : Option Addr) (n c : Nat) : Prop :=
  n ≤ c ∧ (A = none → c = 0) ∧ (0 < n → ∃ b o, A = some ⟨b, o, none⟩ ∧ b < w.heap.size ∧ ∀ i, i < n → ∃ (z0 : Bool), (True) ∧ w.rangeAt b (o + i * 1) [.bool z0])
/-- A validator whose numbers are ints and words. -/
def WV : V6 → Prop
  | (a, b, c, d, _, _) => I64 a ∧ (0 ≤ b ∧ b ≤ 18446744073709551615) ∧ I64 c ∧ I64 d
theorem rows_in {α : Type} (K : Rw.Row α) (G : α → Prop) {w : World} {b o : Nat} : ∀ (n : Nat), (∀ i, i < n → ∃ r : α, G r ∧ w.rangeAt b (o + i * K.z) (K.k r)) →
    ∃ l : List α, l.length = n ∧ (∀ r ∈ l, G r) ∧ ∀ i r, l[i]? = some r → w.rangeAt b (o + i * K.z) (K.k r)
  | 0, _ => ⟨[], rfl, fun r h => (by cases h), fun i r h => (by simp at h)⟩
  | n + 1, h => by
    obtain ⟨l, h1, h2, h3⟩ := rows_in K G n (fun i hi => h i (by omega))
    obtain ⟨r0, hz, hr⟩ := h n (by omega)
    refine ⟨l ++ [r0], by simp [h1], fun r hr' => ?_, fun i r hi => ?_⟩
    · rcases List.mem_append.1 hr' with h' | h'
      · exact h2 r h'
      · rw [List.mem_singleton] at h'
        subst h'
        exact hz
    · rcases Nat.lt_or_ge i n with h' | h'
      · rw [List.getElem?_append_left (by omega)] at hi
        exact h3 i r hi
      · have hin : i = n := by have := (List.getElem?_eq_some_iff.1 hi).1; simp at this; omega
        subst hin
        rw [List.getElem?_append_right (by omega), h1, Nat.sub_self] at hi
        injection hi with hi
        subst hi
        exact hr
theorem rs_in {α : Type} (K : Rw.Row α) (G : α → Prop) {w : World} {A : Option Addr} {n c : Nat} (h1 : n ≤ c) (h2 : A = none → c = 0) (h3 : 0 < n → ∃ b o, A = some ⟨b, o, none⟩ ∧ b < w.heap.size ∧ ∀ i, i < n → ∃ r : α, G r ∧ w.rangeAt b (o + i * K.z) (K.k r)) : ∃ l, Rw.RS K w A n c l ∧ ∀ r ∈ l, G r := by
  by_cases h0 : 0 < n
  · obtain ⟨b, o, e, hlt, hr⟩ := h3 h0
    obtain ⟨l, q1, q2, q3⟩ := rows_in K G n hr
    exact ⟨l, ⟨q1, h1, h2, fun _ => ⟨b, o, e, hlt, q3⟩⟩, q2⟩
  · obtain rfl : n = 0 := by omega
    exact ⟨[], ⟨rfl, h1, h2, fun h => absurd h h0⟩, fun r h => by cases h⟩
theorem vals_rs {w : World} {A : Option Addr} {n c : Nat} (h : Vals w A n c) : ∃ l, Rw.RS vR w A n c l ∧ ∀ r ∈ l, WV r := by
  obtain ⟨h1, h2, h3⟩ := h
  refine rs_in vR WV h1 h2 fun h0 => ?_
  obtain ⟨b, o, e, hlt, hr⟩ := h3 h0
  refine ⟨b, o, e, hlt, fun i hi => ?_⟩
  obtain ⟨z0, z1, z2, z3, z4, z5, hz, hc⟩ := hr i hi
  exact ⟨(z0, z1, z2, z3, z4, z5), ⟨⟨hz.1, hz.2.1⟩, ⟨hz.2.2.1, hz.2.2.2.1⟩, ⟨hz.2.2.2.2.1, hz.2.2.2.2.2.1⟩, ⟨hz.2.2.2.2.2.2.1, hz.2.2.2.2.2.2.2⟩⟩, hc⟩
theorem bools_rs {w : World} {A : Option Addr} {n c : Nat} (h : Bools w A n c) : ∃ l, Rw.RS bR w A n c l := by
  obtain ⟨h1, h2, h3⟩ := h
  obtain ⟨l, hl, _⟩ := rs_in bR (fun _ => True) h1 h2 fun h0 => (by
    obtain ⟨b, o, e, hlt, hr⟩ := h3 h0
    refine ⟨b, o, e, hlt, fun i hi => ?_⟩
    obtain ⟨z0, hz, hc⟩ := hr i hi
    exact ⟨z0, trivial, hc⟩)
  exact ⟨l, hl⟩
theorem WV.i {r : V6} (h : WV r) : I64 (op r) := by
  obtain ⟨a, b, c, d, e, f⟩ := r
  exact h.1
end Ro
end Go.Proofs.Ytpfdakkameifkaa
