/-
  What the functions of package fixnum answer in this program: contracts, for any words.
  Conditions: every amount is from 0 to 2^64 - 1.
-/
import Derived.Test.YtmbodfmdaocppaaBits
import Derived.Test.YtmbodfmdaocppaaBel0
import Derived.StillTailTactics
import Derived.Deep.RegionHeld3
namespace Go.Proofs.Ytmbodfmdaocppaa
open Go.RowKit Go.Shelf
set_option linter.unusedVariables false

theorem Bel.one {a w : World} {t : TypeId} (h : ∃ c, a.alloc (.cells c t) = w) : Bel a w := by obtain ⟨c, rfl⟩ := h; exact (Bel.refl _).alloc _
theorem Bel.two {a w : World} {t : TypeId} (h : ∃ c c', (a.alloc (.cells c t)).alloc (.cells c' t) = w) : Bel a w := by obtain ⟨c, c', rfl⟩ := h; exact ((Bel.refl _).alloc _).alloc _

namespace Fix

/-- A product, as the program keeps it. -/
abbrev PV (P : Int) : Value := .agg #[.int .u64 (hi P), .int .u64 (lo P)]

theorem bor_less {P Q : Int} (h0 : 0 ≤ P) (q0 : 0 ≤ Q) : bor (hi P) (hi Q + bor (lo P) (lo Q)) = if P < Q then 1 else 0 := by
  unfold bor hi lo
  split <;> split <;> split <;> omega

/-- -1, 0 or 1. -/
def cmpI (P Q : Int) : Int := if P = Q then 0 else if P < Q then -1 else 1

theorem hilo_ne {P Q : Int} (h : ¬ P = Q) : ¬ hi P = hi Q ∨ (hi P = hi Q ∧ ¬ lo P = lo Q) := by
  unfold hi lo
  omega

theorem parts_of (P c : Int) (h0 : 0 ≤ P) (c0 : 0 < c) :
    (hi P % c * 18446744073709551616 + lo P) / c = lo (P / c) ∧ (hi P % c * 18446744073709551616 + lo P) % c = P % c ∧ hi P / c = hi (P / c) := by
  have l0 := lo0 P; have l1 := lo1 P
  have m0 := Int.emod_nonneg (hi P) (b := c) (by omega)
  have m1 := Int.emod_lt_of_pos (hi P) c0
  have e1 := hilo P
  have e2 := Int.emod_add_mul_ediv (hi P) c
  have e3 : P = (hi P % c * 18446744073709551616 + lo P) + c * (hi P / c * 18446744073709551616) := by
    rw [← Int.mul_assoc]
    generalize c * (hi P / c) = t at *
    omega
  have e4 : P / c = hi P / c * 18446744073709551616 + (hi P % c * 18446744073709551616 + lo P) / c := by
    conv => lhs; rw [e3]
    rw [Int.add_mul_ediv_left _ _ (by omega)]
    omega
  have q0 : 0 ≤ (hi P % c * 18446744073709551616 + lo P) / c := Int.ediv_nonneg (by omega) (by omega)
  have q1 : (hi P % c * 18446744073709551616 + lo P) / c < 18446744073709551616 := by
    rw [Int.ediv_lt_iff_lt_mul c0]
    omega
  refine ⟨(lo_eq e4.symm q0 (by omega)).symm, ?_, (hi_eq e4.symm q0 (by omega)).symm⟩
  conv => rhs; rw [e3]
  rw [Int.add_mul_emod_self_left]

end Fix
end Go.Proofs.Ytmbodfmdaocppaa
