/-
  Lists of hops as they come in. No condition.
-/
import Derived.Test.YtahhnfnonekbmaaQB
namespace Go.Proofs.Ytahhnfnonekbmaa
open Go.RowKit Go.Shelf
set_option linter.unusedVariables false
namespace Hp
open Kk Pm

/-- Hops as they come in. -/
def Hops (w : World) (A : Option Addr) (n c : Nat) : Prop :=
  n ≤ c ∧ (A = none → c = 0) ∧ (0 < n → ∃ b o, A = some ⟨b, o, none⟩ ∧ b < w.heap.size ∧ ∀ i, i < n → ∃ z0 z1 z2 z3 : Int, (-9223372036854775808 ≤ z0 ∧ z0 ≤ 9223372036854775807 ∧ -9223372036854775808 ≤ z1 ∧ z1 ≤ 9223372036854775807 ∧ -9223372036854775808 ≤ z2 ∧ z2 ≤ 9223372036854775807 ∧ -9223372036854775808 ≤ z3 ∧ z3 ≤ 9223372036854775807) ∧ w.rangeAt b (o + i * 4) [.int .i64 z0, .int .i64 z1, .int .i64 z2, .int .i64 z3])
/-- Hops whose four numbers are ints. -/
def W4 : R4 → Prop
  | (a, b, c, d) => I64 a ∧ I64 b ∧ I64 c ∧ I64 d
theorem hops_rows {w : World} {b o : Nat} : ∀ (n : Nat), (∀ i, i < n → ∃ z0 z1 z2 z3 : Int, (-9223372036854775808 ≤ z0 ∧ z0 ≤ 9223372036854775807 ∧ -9223372036854775808 ≤ z1 ∧ z1 ≤ 9223372036854775807 ∧ -9223372036854775808 ≤ z2 ∧ z2 ≤ 9223372036854775807 ∧ -9223372036854775808 ≤ z3 ∧ z3 ≤ 9223372036854775807) ∧ w.rangeAt b (o + i * 4) [.int .i64 z0, .int .i64 z1, .int .i64 z2, .int .i64 z3]) →
    ∃ l : List R4, l.length = n ∧ (∀ r ∈ l, W4 r) ∧ ∀ i r, l[i]? = some r → w.rangeAt b (o + i * 4) (hR.k r)
  | 0, _ => ⟨[], rfl, fun r h => (by cases h), fun i r h => (by simp at h)⟩
  | n + 1, h => by
    obtain ⟨l, h1, h2, h3⟩ := hops_rows n (fun i hi => h i (by omega))
    obtain ⟨z0, z1, z2, z3, hz, hr⟩ := h n (by omega)
    refine ⟨l ++ [(z0, z1, z2, z3)], by simp [h1], fun r hr' => ?_, fun i r hi => ?_⟩
    · rcases List.mem_append.1 hr' with h' | h'
      · exact h2 r h'
      · rw [List.mem_singleton] at h'
        subst h'
        unfold W4 I64
        omega
    · rcases Nat.lt_or_ge i n with h' | h'
      · rw [List.getElem?_append_left (by omega)] at hi
        exact h3 i r hi
      · have hin : i = n := by have := (List.getElem?_eq_some_iff.1 hi).1; simp at this; omega
        subst hin
        rw [List.getElem?_append_right (by omega), h1, Nat.sub_self] at hi
        injection hi with hi
        subst hi
        exact hr
theorem hops_rs {w : World} {A : Option Addr} {n c : Nat} (h : Hops w A n c) : ∃ l, Rw.RS hR w A n c l ∧ ∀ r ∈ l, W4 r := by
  obtain ⟨h1, h2, h3⟩ := h
  by_cases h0 : 0 < n
  · obtain ⟨b, o, e, hlt, hr⟩ := h3 h0
    obtain ⟨l, q1, q2, q3⟩ := hops_rows n hr
    exact ⟨l, ⟨q1, h1, h2, fun _ => ⟨b, o, e, hlt, q3⟩⟩, q2⟩
  · obtain rfl : n = 0 := by omega
    exact ⟨[], ⟨rfl, h1, h2, fun h => absurd h h0⟩, fun r h => by cases h⟩
theorem W4.w3 {r : R4} (h : W4 r) : W3 r := by
  obtain ⟨a, b, c, d⟩ := r
  exact ⟨h.1, h.2.1, h.2.2.1⟩
end Hp
end Go.Proofs.Ytahhnfnonekbmaa
