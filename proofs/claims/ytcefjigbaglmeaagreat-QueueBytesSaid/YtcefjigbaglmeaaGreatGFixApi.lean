/-
  What the exported functions of package fixnum answer in this program: contracts, for any words.
  Conditions: every amount is from 0 to 2^64 - 1.
-/
import Derived.Test.YtcefjigbaglmeaaGreatGFix
namespace Go.Proofs.YtcefjigbaglmeaaGreat
open Go.RowKit Go.Shelf
set_option linter.unusedVariables false
namespace Fix

/-- A number as an amount, or 0 and ErrOver. -/
def amt (P : Int) : Int := if P < 18446744073709551616 then P else 0
def amtE (P : Int) : Int := if P < 18446744073709551616 then 0 else 12
theorem amt_of {P : Int} (h : P ≤ 18446744073709551615) : amt P = P ∧ amtE P = 0 := by unfold amt amtE; rw [if_pos (by omega), if_pos (by omega)]; exact ⟨rfl, rfl⟩
theorem amt_no {P : Int} (h : 18446744073709551615 < P) : amt P = 0 ∧ amtE P = 12 := by unfold amt amtE; rw [if_neg (by omega), if_neg (by omega)]; exact ⟨rfl, rfl⟩
theorem amt0 {P : Int} (h : 0 ≤ P) : 0 ≤ amt P := by unfold amt; split <;> omega
theorem amt1 {P : Int} : amt P ≤ 18446744073709551615 := by unfold amt; split <;> omega

theorem word (P : Int) (w : World) (h0 : 0 ≤ P) :
    Calls Tryz.prog 102 #[PV P] w fun e w' => e = .returned (.tuple #[.int .u64 (amt P), .int .i64 (amtE P)]) ∧ ∃ c, w.alloc (.cells c 144) = w' := by
  rcases Int.lt_or_le 18446744073709551615 P with h | h
  · obtain ⟨e1, e2⟩ := amt_no h
    rw [e1, e2]
    exact word_great _ _ _ (by rw [beq_eq_false_iff_ne]; unfold hi; omega)
  · obtain ⟨e1, e2⟩ := amt_of h
    rw [e1, e2, show P = lo P by unfold lo; omega]
    refine word_small _ _ _ (by unfold lo hi; omega) |>.mono fun e w' h => ⟨h.1.trans ?_, h.2⟩
    rw [show lo (lo P) = lo P by unfold lo; omega]

theorem add (a b : Int) (w : World) (a0 : 0 ≤ a) (a1 : a ≤ 18446744073709551615) (b0 : 0 ≤ b) (b1 : b ≤ 18446744073709551615) :
    Calls Tryz.prog 91 #[.int .u64 a, .int .u64 b] w fun e w' => e = .returned (.tuple #[.int .u64 (amt (a + b)), .int .i64 (amtE (a + b))]) ∧ Bel w w' := by
  go_enter Tryz.func91, Tryz.ntmps91
  go_wp2_with (first | simp only [add64_0 a b a0 b0] | (go_at_call 102; refine (word (a + b) _ (by omega)).mono ?_; rintro e w' ⟨rfl, x, rfl⟩))
  go_ret2
  exact ⟨rfl, (Bel.refl _).alloc _⟩

/-- A difference, or 0 and ErrPoor. -/
def dif (a b : Int) : Int := if a < b then 0 else a - b
def difE (a b : Int) : Int := if a < b then 13 else 0
/-- A product's quotient, or 0; its error. -/
def mdN (a b c : Int) : Int := if c = 0 then 0 else amt (a * b / c)
def mdE (a b c : Int) : Int := if c = 0 then 2 else amtE (a * b / c)
theorem mulDiv (a b c : Int) (w : World) (a0 : 0 ≤ a) (a1 : a ≤ 18446744073709551615) (b0 : 0 ≤ b) (b1 : b ≤ 18446744073709551615) (c0 : 0 ≤ c) (c1 : c ≤ 18446744073709551615) :
    Calls Tryz.prog 94 #[.int .u64 a, .int .u64 b, .int .u64 c] w fun e w' => e = .returned (.tuple #[.int .u64 (mdN a b c), .int .i64 (mdE a b c)]) ∧ Bel w w' := by
  obtain ⟨p0, p1⟩ := mul_le a0 a1 b0 b1
  unfold mdN mdE
  by_cases h : c = 0
  · subst h
    rw [if_pos rfl, if_pos rfl]
    go_enter Tryz.func94, Tryz.ntmps94
    go_wp2_with (first | (go_at_call 103; refine (times _ _ _ a0 a1 b0 b1).mono ?_; rintro e w' ⟨rfl, x, rfl⟩) | (go_at_call 104; refine (divide_none _ _).mono ?_; rintro e w' ⟨rfl, hb⟩))
    go_ret2
    exact ⟨rfl, (((Bel.refl _).alloc _).trans hb).alloc _⟩
  · rw [if_neg h, if_neg h]
    have h' : 0 < c := by omega
    clear h
    have h := h'
    clear h'
    have q0 : 0 ≤ a * b / c := Int.ediv_nonneg p0 c0
    go_enter Tryz.func94, Tryz.ntmps94
    go_wp2_with (first | (go_at_call 103; refine (times _ _ _ a0 a1 b0 b1).mono ?_; rintro e w' ⟨rfl, x, rfl⟩) | (go_at_call 104; refine (divide (a * b) c _ p0 (by omega) h c1).mono ?_; rintro e w' ⟨rfl, hb⟩) | (go_at_call 102; refine (word (a * b / c) _ q0).mono ?_; rintro e w' ⟨rfl, x, rfl⟩))
    go_ret2
    exact ⟨rfl, ((((Bel.refl _).alloc _).trans hb).alloc _).alloc _⟩

/-- A product's quotient, rounded up. -/
def upQ (a b c : Int) : Int := if 0 < a * b % c then a * b / c + 1 else a * b / c
def upN (a b c : Int) : Int := if c = 0 then 0 else amt (upQ a b c)
def upE (a b c : Int) : Int := if c = 0 then 2 else amtE (upQ a b c)
def restN (a b c : Int) : Int := if c = 0 then 0 else a * b % c
def restE (c : Int) : Int := if c = 0 then 2 else 0
theorem hi_small (m : Int) (m0 : 0 ≤ m) (m1 : m ≤ 18446744073709551615) : hi m = 0 ∧ lo m = m := by unfold hi lo; omega
def capN (m a b c : Int) : Int := if c = 0 then 0 else if a * b / c < m then a * b / c else m
def partN (a p : Int) : Int := if 1000000000 < p then 0 else mdN a p 1000000000
def partE (a p : Int) : Int := if 1000000000 < p then 3 else mdE a p 1000000000
theorem part (a p : Int) (w : World) (a0 : 0 ≤ a) (a1 : a ≤ 18446744073709551615) (p0 : 0 ≤ p) (p1 : p ≤ 18446744073709551615) :
    Calls Tryz.prog 80 #[.int .u64 a, .int .u64 p] w fun e w' => e = .returned (.tuple #[.int .u64 (partN a p), .int .i64 (partE a p)]) ∧ Bel w w' := by
  unfold partN partE
  by_cases h : 1000000000 < p
  · rw [if_pos h, if_pos h]
    go_enter Tryz.func80, Tryz.ntmps80
    go_wp2
    go_ret2
    exact ⟨rfl, Bel.refl _⟩
  · rw [if_neg h, if_neg h]
    go_enter Tryz.func80, Tryz.ntmps80
    go_wp2_with (go_at_call 94; refine (mulDiv _ _ _ _ a0 a1 p0 p1 (by decide) (by decide)).mono ?_; rintro e w' ⟨rfl, hb⟩)
    go_ret2
    exact ⟨rfl, hb⟩

end Fix
end Go.Proofs.YtcefjigbaglmeaaGreat
