/-
  The mathematics of ShareKeeps: what is made of a pool that may be may be. No walk.
-/
import Derived.Test.YtmfajljgcndgfaaSh13
namespace Go.Proofs.Ytmfajljgcndgfaa
open Go.RowKit Go.Shelf
set_option linter.unusedVariables false
namespace Sh
open Fix (partN partE)

theorem join_keeps {T S a : Int} (h : Ok T S) (ha : 0 ≤ a) (hj : joiE T S a = 0) :
    Ok (T + a) (S + priN T S a) ∧ a ≤ priN T S a := by
  obtain ⟨h1, h2, h3, h4, h5⟩ := h
  obtain ⟨_, j0, hp, j1, j2⟩ := joi_ok hj
  have e : priN T S a = pri T S a := if_pos hp
  have hle : a ≤ priN T S a := by
    rw [e]
    unfold pri
    split
    · exact Int.le_refl _
    · rename_i hS
      have hT : 0 < T := by
        by_cases e : T = 0
        · exact absurd (h5 e) hS
        · omega
      refine Int.le_ediv_of_mul_le hT ?_
      exact Int.mul_le_mul_of_nonneg_left h3 ha
  exact ⟨⟨by omega, j1, by omega, j2, fun e => by omega⟩, hle⟩
theorem leave_keeps {T S x : Int} (h : Ok T S) (x0 : 0 ≤ x) (hl : leaE T S x = 0) :
    Ok (T - valN T S x) (S - x) ∧ 0 < valN T S x ∧ valN T S x ≤ x ∧ valN T S x ≤ T ∧ x ≤ S := by
  obtain ⟨h1, h2, h3, h4, h5⟩ := h
  obtain ⟨hv, _, hx, v0, v1⟩ := lea_ok h1 x0 hl
  have hT : 0 < T := by omega
  have hS : 0 < S := by omega
  have e : valN T S x = x * T / S := if_pos hv
  rw [e] at v0 v1 ⊢
  obtain ⟨g1, g2, g3⟩ := div_rest (a := x * T) hS
  have hvx : x * T / S ≤ x := Int.ediv_le_of_le_mul hS (Int.mul_le_mul_of_nonneg_left h3 x0)
  generalize x * T / S = V at *
  generalize x * T % S = D at *
  have k1 : T - V ≤ S - x := by
    by_cases hc : T - V ≤ S - x
    · exact hc
    · -- then (T - V - 1) ≥ S - x
      have m1 : (S - x) * T ≤ (S - x) * S := Int.mul_le_mul_of_nonneg_left h3 (by omega)
      have m2 : (S - x) * S ≤ (T - V - 1) * S := Int.mul_le_mul_of_nonneg_right (by omega) (by omega)
      have m3 : (S - x) * T = S * T - x * T := Int.sub_mul _ _ _
      have m4 : (T - V - 1) * S = T * S - V * S - S := by rw [Int.sub_mul, Int.sub_mul, Int.one_mul]
      have m5 : S * T = T * S := Int.mul_comm _ _
      omega
  have k2 : T - V = 0 → S - x = 0 := fun e0 => by
    obtain rfl : V = T := by omega
    by_cases hc : S - x = 0
    · exact hc
    · have m1 : x * V + V ≤ S * V := by
        have := Int.mul_le_mul_of_nonneg_right (show x + 1 ≤ S by omega) (show 0 ≤ V by omega)
        rw [Int.add_mul, Int.one_mul] at this
        exact this
      have m5 : S * V = V * S := Int.mul_comm _ _
      omega
  exact ⟨⟨by omega, by omega, k1, by omega, k2⟩, v0, hvx, v1, hx⟩
/-- Nothing is told of what is refused. -/
theorem d_no {k T S x : Int} (h : ¬ dE k T S x = 0) : dT k T S x = 0 ∧ dS k T S x = 0 ∧ dN k T S x = 0 := by
  by_cases h0 : k = 0
  · subst h0; exact joi_no h
  · by_cases h1 : k = 1
    · subst h1; exact lea_no h
    · by_cases h2 : k = 2
      · subst h2; exact cut_no h
      · exact absurd (d3 T S x h0 h1 h2).1 h
end Sh
end Go.Proofs.Ytmfajljgcndgfaa
