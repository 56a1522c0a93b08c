/-
  The mathematics of fairness: what others' shares are worth behind a Join and behind a Leave. No walk.
-/
import Derived.Test.YtmfajljgcndgfaaSh10
namespace Go.Proofs.Ytmfajljgcndgfaa
open Go.RowKit Go.Shelf
set_option linter.unusedVariables false
namespace Sh

theorem mul_lt_of {o D L M : Int} (o0 : 0 ≤ o) (oL : o < L) (D0 : 0 ≤ D) (DM : D < M) : o * D < L * M := by
  have h1 : o * D ≤ (L - 1) * D := Int.mul_le_mul_of_nonneg_right (by omega) D0
  have h2 : (L - 1) * D ≤ (L - 1) * (M - 1) := Int.mul_le_mul_of_nonneg_left (by omega) (by omega)
  have h3 : (L - 1) * (M - 1) = L * M - L - M + 1 := by rw [Int.sub_mul, Int.mul_sub, Int.mul_sub]; omega
  omega
/-- Others gain less than 1, and lose nothing. -/
def Fair (T S A B : Int) : Prop := ∀ o, 0 ≤ o → o < S → o < B → o * T * B ≤ o * A * S ∧ o * A * S < o * T * B + S * B
theorem fair_of {T S A B D : Int} (e : A * S = T * B + D) (D0 : 0 ≤ D) (h : ∀ o, 0 ≤ o → o < S → o < B → o * D < S * B) : Fair T S A B := by
  intro o o0 oS oB
  have h1 : o * A * S = o * T * B + o * D := by rw [Int.mul_assoc, e, Int.mul_add, Int.mul_assoc]
  have h2 := h o o0 oS oB
  have h3 : 0 ≤ o * D := Int.mul_nonneg o0 D0
  exact ⟨by omega, by omega⟩
theorem div_rest {a b : Int} (hb : 0 < b) : a = a / b * b + a % b ∧ 0 ≤ a % b ∧ a % b < b := by
  have h := Int.mul_ediv_add_emod a b
  rw [Int.mul_comm] at h
  exact ⟨h.symm, Int.emod_nonneg a (by omega), Int.emod_lt_of_pos a hb⟩
/-- A Join is fair, and its shares are worth the amount within 1. -/
theorem join_fair {T S a : Int} (h : Ok T S) (hS : ¬ S = 0) (ha : 0 < a) (hj : joiE T S a = 0) :
    Fair T S (T + a) (S + priN T S a) ∧ priN T S a * (T + a) ≤ a * (S + priN T S a) ∧ a * (S + priN T S a) < priN T S a * (T + a) + (S + priN T S a) ∧ 0 ≤ priN T S a := by
  obtain ⟨h1, h2, h3, h4, h5⟩ := h
  have hT : 0 < T := by
    by_cases e : T = 0
    · exact absurd (h5 e) hS
    · omega
  obtain ⟨_, _, hp, _, _⟩ := joi_ok hj
  have e : priN T S a = a * S / T := by
    rw [show priN T S a = pri T S a from if_pos hp]
    exact if_neg hS
  rw [e]
  have p0 : 0 ≤ a * S / T := Int.ediv_nonneg (Int.mul_nonneg (by omega) (by omega)) (by omega)
  obtain ⟨g1, g2, g3⟩ := div_rest (a := a * S) hT
  generalize a * S / T = P at *
  generalize a * S % T = D at *
  have e1 : (T + a) * S = T * (S + P) + D := by
    rw [Int.add_mul, Int.mul_add, g1, Int.mul_comm P T]; omega
  refine ⟨fair_of e1 g2 fun o o0 oS oB => ?_, ?_, ?_, p0⟩
  · have := mul_lt_of o0 oS g2 (show D < S + P by omega)
    exact this
  · rw [Int.mul_add, Int.mul_add, g1, Int.mul_comm a P]; omega
  · rw [Int.mul_add, Int.mul_add, g1, Int.mul_comm a P]; omega
/-- A Leave is fair. -/
theorem leave_fair {T S x : Int} (h : Ok T S) (x0 : 0 ≤ x) (hl : leaE T S x = 0) (hB : 0 < S - x) : Fair T S (T - valN T S x) (S - x) := by
  obtain ⟨h1, h2, h3, h4, h5⟩ := h
  have hS : 0 < S := by omega
  obtain ⟨hv, _, _, _, _⟩ := lea_ok h1 x0 hl
  rw [show valN T S x = x * T / S from if_pos hv]
  obtain ⟨g1, g2, g3⟩ := div_rest (a := x * T) hS
  generalize x * T / S = V at *
  generalize x * T % S = D at *
  have e1 : (T - V) * S = T * (S - x) + D := by
    rw [Int.sub_mul, Int.mul_sub, Int.mul_comm T x, g1]; omega
  refine fair_of e1 g2 fun o o0 oS oB => ?_
  have := mul_lt_of o0 oB g2 g3
  rw [Int.mul_comm S (S - x)]
  exact this
end Sh
end Go.Proofs.Ytmfajljgcndgfaa
