/-
  What MulDiv, MulDivUp, Rest, Capped and Part of distraintref01 answer in this program: the same as those of fixnum.
  Conditions: every amount is from 0 to 2^64 - 1.
-/
import Derived.Test.YtmfajljgcndgfaaRefDiv
namespace Go.Proofs.Ytmfajljgcndgfaa
open Go.RowKit Go.Shelf
set_option linter.unusedVariables false
namespace Ref
open Fix

theorem mulDiv (a b c : Int) (w : World) (a0 : 0 ≤ a) (a1 : a ≤ 18446744073709551615) (b0 : 0 ≤ b) (b1 : b ≤ 18446744073709551615) (c0 : 0 ≤ c) (c1 : c ≤ 18446744073709551615) :
    Calls Try.prog 32 #[.int .u64 a, .int .u64 b, .int .u64 c] w fun e w' => e = .returned (.tuple #[.int .u64 (mdN a b c), .int .i64 (mdE a b c)]) ∧ w = w' := by
  unfold mdN mdE
  by_cases h : c = 0
  · subst h
    rw [if_pos rfl, if_pos rfl]
    go_enter Try.func32, Try.ntmps32
    go_wp2
    go_ret2
    exact ⟨rfl, rfl⟩
  · rw [if_neg h, if_neg h]
    have h' : 0 < c := by omega
    have p0 := (mul_le a0 a1 b0 b1).1
    have q0 : 0 ≤ a * b / c := Int.ediv_nonneg p0 c0
    have F := Lib.hid (fun w => divide a b c w a0 a1 b0 b1 h' c1)
    clear h p0
    generalize a * b / c = Q at *
    rcases Int.lt_or_le 18446744073709551615 Q with hq | hq
    · obtain ⟨e1, e2⟩ := amt_no hq
      rw [e1, e2]
      have hB := big_yes (D := Q) (by omega)
      clear e1 e2
      go_enter Try.func32, Try.ntmps32
      go_wp2_with (go_at_call 49; refine (F.out _).mono ?_; rintro e w' ⟨rfl, rfl⟩)
      go_ret2
      exact ⟨rfl, rfl⟩
    · obtain ⟨e1, e2⟩ := amt_of hq
      rw [e1, e2]
      have hB := big_no (D := Q) (by omega)
      have hl : lo Q = Q := by unfold lo; omega
      have HL := Lib.hid hl
      clear e1 e2 hl
      go_enter Try.func32, Try.ntmps32
      go_wp2_with (go_at_call 49; refine (F.out _).mono ?_; rintro e w' ⟨rfl, rfl⟩)
      go_ret2
      exact ⟨by rw [HL.out]; rfl, rfl⟩

theorem part (a p : Int) (w : World) (a0 : 0 ≤ a) (a1 : a ≤ 18446744073709551615) (p0 : 0 ≤ p) (p1 : p ≤ 18446744073709551615) :
    Calls Try.prog 53 #[.int .u64 a, .int .u64 p] w fun e w' => e = .returned (.tuple #[.int .u64 (partN a p), .int .i64 (partE a p)]) ∧ w = w' := by
  unfold partN partE
  by_cases h : 1000000000 < p
  · rw [if_pos h, if_pos h]
    go_enter Try.func53, Try.ntmps53
    go_wp2
    go_ret2
    exact ⟨rfl, rfl⟩
  · rw [if_neg h, if_neg h]
    go_enter Try.func53, Try.ntmps53
    go_wp2_with (go_at_call 32; refine (mulDiv _ _ _ _ a0 a1 p0 p1 (by decide) (by decide)).mono ?_; rintro e w' ⟨rfl, rfl⟩)
    go_ret2
    exact ⟨rfl, rfl⟩

end Ref
end Go.Proofs.Ytmfajljgcndgfaa
