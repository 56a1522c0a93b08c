/-
  What the functions of package fixnum answer in this program: contracts, for any words.
  Conditions: every amount is from 0 to 2^64 - 1.
-/
import Derived.StillTailTactics
import Derived.Deep.RegionHeld3
import Derived.Test.YtcefjigbaglmeaaGreatGBits
import Derived.Test.YtcefjigbaglmeaaGreatGBel0
namespace Go.Proofs.YtcefjigbaglmeaaGreat
open Go.RowKit Go.Shelf
set_option linter.unusedVariables false

theorem Bel.one {a w : World} {t : TypeId} (h : ∃ c, a.alloc (.cells c t) = w) : Bel a w := by obtain ⟨c, rfl⟩ := h; exact (Bel.refl _).alloc _
theorem Bel.two {a w : World} {t : TypeId} (h : ∃ c c', (a.alloc (.cells c t)).alloc (.cells c' t) = w) : Bel a w := by obtain ⟨c, c', rfl⟩ := h; exact ((Bel.refl _).alloc _).alloc _

namespace Fix

/-- A product, as the program keeps it. -/
abbrev PV (P : Int) : Value := .agg #[.int .u64 (hi P), .int .u64 (lo P)]

theorem times (a b : Int) (w : World) (a0 : 0 ≤ a) (a1 : a ≤ 18446744073709551615) (b0 : 0 ≤ b) (b1 : b ≤ 18446744073709551615) :
    Calls Tryz.prog 103 #[.int .u64 a, .int .u64 b] w fun e w' => e = .returned (PV (a * b)) ∧ ∃ c, w.alloc (.cells c 144) = w' := by
  go_enter Tryz.func103, Tryz.ntmps103
  go_wp2_with (go_at_call 105; refine (mul64 _ _ _ a0 a1 b0 b1).mono ?_; rintro e w' ⟨rfl, rfl⟩)
  simp [bodyPost, results, Tryz.results103, go_sem]

theorem word_small (H L : Int) (w : World) (h : H = 0) :
    Calls Tryz.prog 102 #[.agg #[.int .u64 H, .int .u64 L]] w fun e w' => e = .returned (.tuple #[.int .u64 L, .int .i64 0]) ∧ ∃ c, w.alloc (.cells c 144) = w' := by
  subst h
  go_enter Tryz.func102, Tryz.ntmps102
  go_wp2
  go_ret2
  exact ⟨rfl, _, rfl⟩

theorem word_great (H L : Int) (w : World) (h : (H == 0) = false) :
    Calls Tryz.prog 102 #[.agg #[.int .u64 H, .int .u64 L]] w fun e w' => e = .returned (.tuple #[.int .u64 0, .int .i64 12]) ∧ ∃ c, w.alloc (.cells c 144) = w' := by
  go_enter Tryz.func102, Tryz.ntmps102
  go_wp2
  go_ret2
  exact ⟨rfl, _, rfl⟩

theorem bor_less {P Q : Int} (h0 : 0 ≤ P) (q0 : 0 ≤ Q) : bor (hi P) (hi Q + bor (lo P) (lo Q)) = if P < Q then 1 else 0 := by
  unfold bor hi lo
  split <;> split <;> split <;> omega

/-- -1, 0 or 1. -/
def cmpI (P Q : Int) : Int := if P = Q then 0 else if P < Q then -1 else 1

theorem hilo_ne {P Q : Int} (h : ¬ P = Q) : ¬ hi P = hi Q ∨ (hi P = hi Q ∧ ¬ lo P = lo Q) := by
  unfold hi lo
  omega

theorem divide_none (P : Int) (w : World) :
    Calls Tryz.prog 104 #[PV P, .int .u64 0] w fun e w' => e = .returned (.tuple #[.agg #[.int .u64 0, .int .u64 0], .int .u64 0, .int .i64 2]) ∧ Bel w w' := by
  go_enter Tryz.func104, Tryz.ntmps104
  go_wp2
  refine bodyPost_ret (v := .tuple #[.agg #[.int .u64 0, .int .u64 0], .int .u64 0, .int .i64 2]) (by simp [results, Tryz.results104, go_sem]) rfl ⟨rfl, ?_⟩
  exact ((Bel.refl _).alloc _).alloc _

theorem parts_of (P c : Int) (h0 : 0 ≤ P) (c0 : 0 < c) :
    (hi P % c * 18446744073709551616 + lo P) / c = lo (P / c) ∧ (hi P % c * 18446744073709551616 + lo P) % c = P % c ∧ hi P / c = hi (P / c) := by
  have l0 := lo0 P; have l1 := lo1 P
  have m0 := Int.emod_nonneg (hi P) (b := c) (by omega)
  have m1 := Int.emod_lt_of_pos (hi P) c0
  have e1 := hilo P
  have e2 := Int.emod_add_mul_ediv (hi P) c
  have e3 : P = (hi P % c * 18446744073709551616 + lo P) + c * (hi P / c * 18446744073709551616) := by
    rw [← Int.mul_assoc]
    generalize c * (hi P / c) = t at *
    omega
  have e4 : P / c = hi P / c * 18446744073709551616 + (hi P % c * 18446744073709551616 + lo P) / c := by
    conv => lhs; rw [e3]
    rw [Int.add_mul_ediv_left _ _ (by omega)]
    omega
  have q0 : 0 ≤ (hi P % c * 18446744073709551616 + lo P) / c := Int.ediv_nonneg (by omega) (by omega)
  have q1 : (hi P % c * 18446744073709551616 + lo P) / c < 18446744073709551616 := by
    rw [Int.ediv_lt_iff_lt_mul c0]
    omega
  refine ⟨(lo_eq e4.symm q0 (by omega)).symm, ?_, (hi_eq e4.symm q0 (by omega)).symm⟩
  conv => rhs; rw [e3]
  rw [Int.add_mul_emod_self_left]

theorem divide (P c : Int) (w : World) (h0 : 0 ≤ P) (h1 : P < 340282366920938463463374607431768211456) (c0 : 0 < c) (c1 : c ≤ 18446744073709551615) :
    Calls Tryz.prog 104 #[PV P, .int .u64 c] w fun e w' => e = .returned (.tuple #[PV (P / c), .int .u64 (P % c), .int .i64 0]) ∧ Bel w w' := by
  have l0 := lo0 P; have l1 := lo1 P; have k0 := hi0 h0; have k1 := hi1 h1
  have m0 := Int.emod_nonneg (hi P) (b := c) (by omega)
  have m1 := Int.emod_lt_of_pos (hi P) c0
  obtain ⟨e1, e2, e3⟩ := parts_of P c h0 c0
  have D : ∀ w, Calls Tryz.prog 106 #[.int .u64 (hi P % c), .int .u64 (lo P), .int .u64 c] w fun e w' => e = .returned (.tuple #[.int .u64 (lo (P / c)), .int .u64 (P % c)]) ∧ ∃ n, w.drewN n = w' := by
    intro w
    have := div64 _ (lo P) c w m0 m1 c1 l0 l1
    rw [e1, e2] at this
    exact this
  clear e1 e2
  have D' := Lib.hid D
  clear D
  go_enter Tryz.func104, Tryz.ntmps104
  go_wp2
  go_region_with (go_at_call 106; refine (D'.out _).mono ?_; rintro e w' ⟨rfl, n, rfl⟩)
  all_goals
    go_wp2
    refine bodyPost_ret (v := .tuple #[PV (P / c), .int .u64 (P % c), .int .i64 0]) (by simp [results, Tryz.results104, go_sem]) rfl ⟨rfl, ?_⟩
    exact Bel.set (((Bel.alloc (Bel.alloc (Bel.refl _) _) _).drewN _)) (by simp) _
end Fix
end Go.Proofs.YtcefjigbaglmeaaGreat
