/-
  What MulDiv, MulDivUp, Rest, Capped and Part of distraintref01 answer in this program: the same as those of fixnum.
  Conditions: every amount is from 0 to 2^64 - 1.
-/
import Derived.Test.YtdngpplmkghdhaaRefDiv
namespace Go.Proofs.Ytdngpplmkghdhaa
open Go.RowKit Go.Shelf
set_option linter.unusedVariables false
namespace Ref
open Fix

theorem mulDiv (a b c : Int) (w : World) (a0 : 0 ≤ a) (a1 : a ≤ 18446744073709551615) (b0 : 0 ≤ b) (b1 : b ≤ 18446744073709551615) (c0 : 0 ≤ c) (c1 : c ≤ 18446744073709551615) :
    Calls Try.prog 22 #[.int .u64 a, .int .u64 b, .int .u64 c] w fun e w' => e = .returned (.tuple #[.int .u64 (mdN a b c), .int .i64 (mdE a b c)]) ∧ w = w' := by
  unfold mdN mdE
  by_cases h : c = 0
  · subst h
    rw [if_pos rfl, if_pos rfl]
    go_enter Try.func22, Try.ntmps22
    go_wp2
    go_ret2
    exact ⟨rfl, rfl⟩
  · rw [if_neg h, if_neg h]
    have h' : 0 < c := by omega
    have p0 := (mul_le a0 a1 b0 b1).1
    have q0 : 0 ≤ a * b / c := Int.ediv_nonneg p0 c0
    have F := Lib.hid (fun w => divide a b c w a0 a1 b0 b1 h' c1)
    clear h p0
    generalize a * b / c = Q at *
    rcases Int.lt_or_le 18446744073709551615 Q with hq | hq
    · obtain ⟨e1, e2⟩ := amt_no hq
      rw [e1, e2]
      have hB := big_yes (D := Q) (by omega)
      clear e1 e2
      go_enter Try.func22, Try.ntmps22
      go_wp2_with (go_at_call 49; refine (F.out _).mono ?_; rintro e w' ⟨rfl, rfl⟩)
      go_ret2
      exact ⟨rfl, rfl⟩
    · obtain ⟨e1, e2⟩ := amt_of hq
      rw [e1, e2]
      have hB := big_no (D := Q) (by omega)
      have hl : lo Q = Q := by unfold lo; omega
      have HL := Lib.hid hl
      clear e1 e2 hl
      go_enter Try.func22, Try.ntmps22
      go_wp2_with (go_at_call 49; refine (F.out _).mono ?_; rintro e w' ⟨rfl, rfl⟩)
      go_ret2
      exact ⟨by rw [HL.out]; rfl, rfl⟩

set_option maxHeartbeats 400000 in
theorem mulDivUp (a b c : Int) (w : World) (a0 : 0 ≤ a) (a1 : a ≤ 18446744073709551615) (b0 : 0 ≤ b) (b1 : b ≤ 18446744073709551615) (c0 : 0 ≤ c) (c1 : c ≤ 18446744073709551615) :
    Calls Try.prog 24 #[.int .u64 a, .int .u64 b, .int .u64 c] w fun e w' => e = .returned (.tuple #[.int .u64 (upN a b c), .int .i64 (upE a b c)]) ∧ w = w' := by
  unfold upN upE upQ
  by_cases h : c = 0
  · subst h
    rw [if_pos rfl, if_pos rfl]
    go_enter Try.func24, Try.ntmps24
    go_wp2
    go_ret2
    exact ⟨rfl, rfl⟩
  · rw [if_neg h, if_neg h]
    have h' : 0 < c := by omega
    have p0 := (mul_le a0 a1 b0 b1).1
    have q0 : 0 ≤ a * b / c := Int.ediv_nonneg p0 c0
    have r0 := Int.emod_nonneg (a * b) h
    have r1 := Int.emod_lt_of_pos (a * b) h'
    have F := Lib.hid (fun w => divide a b c w a0 a1 b0 b1 h' c1)
    clear h p0
    generalize a * b / c = Q at *
    generalize a * b % c = R at *
    rcases Int.lt_or_le 18446744073709551615 Q with hq | hq
    · have hv : ∀ x, x = Q ∨ x = Q + 1 → amt x = 0 ∧ amtE x = 12 := fun x hx => amt_no (by omega)
      have hv' := hv (if 0 < R then Q + 1 else Q) (by split <;> simp)
      rw [hv'.1, hv'.2]
      have hB := big_yes (D := Q) (by omega)
      clear hv hv'
      go_enter Try.func24, Try.ntmps24
      go_wp2_with (go_at_call 49; refine (F.out _).mono ?_; rintro e w' ⟨rfl, rfl⟩)
      go_ret2
      exact ⟨rfl, rfl⟩
    · have hB := big_no (D := Q) (by omega)
      have hl : lo Q = Q := by unfold lo; omega
      by_cases hR : 0 < R
      · rw [if_pos hR]
        by_cases hm : Q = 18446744073709551615
        · subst hm
          obtain ⟨e1, e2⟩ := amt_no (P := (18446744073709551615 : Int) + 1) (by decide)
          rw [e1, e2]
          clear e1 e2
          go_enter Try.func24, Try.ntmps24
          go_wp2_with (go_at_call 49; refine (F.out _).mono ?_; rintro e w' ⟨rfl, rfl⟩)
          go_ret2
          exact ⟨rfl, rfl⟩
        · obtain ⟨e1, e2⟩ := amt_of (P := Q + 1) (by omega)
          rw [e1, e2]
          have hm' : Q ≤ 18446744073709551614 := by omega
          clear e1 e2 hm
          go_enter Try.func24, Try.ntmps24
          go_wp2_with (go_at_call 49; refine (F.out _).mono ?_; rintro e w' ⟨rfl, rfl⟩)
          go_ret2
          exact ⟨rfl, rfl⟩
      · rw [if_neg hR]
        obtain ⟨e1, e2⟩ := amt_of hq
        rw [e1, e2]
        have HL := Lib.hid hl
        clear e1 e2 hl
        go_enter Try.func24, Try.ntmps24
        go_wp2_with (go_at_call 49; refine (F.out _).mono ?_; rintro e w' ⟨rfl, rfl⟩)
        go_ret2
        exact ⟨by rw [HL.out]; rfl, rfl⟩

theorem rest (a b c : Int) (w : World) (a0 : 0 ≤ a) (a1 : a ≤ 18446744073709551615) (b0 : 0 ≤ b) (b1 : b ≤ 18446744073709551615) (c0 : 0 ≤ c) (c1 : c ≤ 18446744073709551615) :
    Calls Try.prog 26 #[.int .u64 a, .int .u64 b, .int .u64 c] w fun e w' => e = .returned (.tuple #[.int .u64 (restN a b c), .int .i64 (restE c)]) ∧ w = w' := by
  unfold restN restE
  by_cases h : c = 0
  · subst h
    rw [if_pos rfl, if_pos rfl]
    go_enter Try.func26, Try.ntmps26
    go_wp2
    go_ret2
    exact ⟨rfl, rfl⟩
  · rw [if_neg h, if_neg h]
    have h' : 0 < c := by omega
    clear h
    go_enter Try.func26, Try.ntmps26
    go_wp2_with (go_at_call 49; refine (divide a b c _ a0 a1 b0 b1 h' c1).mono ?_; rintro e w' ⟨rfl, rfl⟩)
    go_ret2
    exact ⟨rfl, rfl⟩

theorem capped (m a b c : Int) (w : World) (m0 : 0 ≤ m) (m1 : m ≤ 18446744073709551615) (a0 : 0 ≤ a) (a1 : a ≤ 18446744073709551615) (b0 : 0 ≤ b) (b1 : b ≤ 18446744073709551615) (c0 : 0 ≤ c) (c1 : c ≤ 18446744073709551615) :
    Calls Try.prog 28 #[.int .u64 m, .int .u64 a, .int .u64 b, .int .u64 c] w fun e w' => e = .returned (.tuple #[.int .u64 (capN m a b c), .int .i64 (restE c)]) ∧ w = w' := by
  unfold capN restE
  by_cases h : c = 0
  · subst h
    rw [if_pos rfl, if_pos rfl]
    go_enter Try.func28, Try.ntmps28
    go_wp2
    go_ret2
    exact ⟨rfl, rfl⟩
  · rw [if_neg h, if_neg h]
    have h' : 0 < c := by omega
    have p0 := (mul_le a0 a1 b0 b1).1
    have q0 : 0 ≤ a * b / c := Int.ediv_nonneg p0 c0
    have F := Lib.hid (fun w => divide a b c w a0 a1 b0 b1 h' c1)
    clear h p0
    generalize a * b / c = Q at *
    rcases Int.lt_or_le 18446744073709551615 Q with hq | hq
    · rw [if_neg (by omega)]
      have hB := big_yes (D := Q) (by omega)
      go_enter Try.func28, Try.ntmps28
      go_wp2_with (go_at_call 49; refine (F.out _).mono ?_; rintro e w' ⟨rfl, rfl⟩)
      go_ret2
      exact ⟨rfl, rfl⟩
    · have hB := big_no (D := Q) (by omega)
      have hl : lo Q = Q := by unfold lo; omega
      by_cases hm : m < Q
      · rw [if_neg (by omega)]
        go_enter Try.func28, Try.ntmps28
        go_wp2_with (go_at_call 49; refine (F.out _).mono ?_; rintro e w' ⟨rfl, rfl⟩)
        go_ret2
        exact ⟨rfl, rfl⟩
      · have E := Lib.hid (show (if Q < m then Q else m) = Q by split <;> omega)
        rw [E.out]
        have HL := Lib.hid hl
        have hm' : lo Q ≤ m := by omega
        clear hl
        go_enter Try.func28, Try.ntmps28
        go_wp2_with (go_at_call 49; refine (F.out _).mono ?_; rintro e w' ⟨rfl, rfl⟩)
        go_ret2
        exact ⟨by rw [HL.out]; rfl, rfl⟩

theorem part (a p : Int) (w : World) (a0 : 0 ≤ a) (a1 : a ≤ 18446744073709551615) (p0 : 0 ≤ p) (p1 : p ≤ 18446744073709551615) :
    Calls Try.prog 30 #[.int .u64 a, .int .u64 p] w fun e w' => e = .returned (.tuple #[.int .u64 (partN a p), .int .i64 (partE a p)]) ∧ w = w' := by
  unfold partN partE
  by_cases h : 1000000000 < p
  · rw [if_pos h, if_pos h]
    go_enter Try.func30, Try.ntmps30
    go_wp2
    go_ret2
    exact ⟨rfl, rfl⟩
  · rw [if_neg h, if_neg h]
    go_enter Try.func30, Try.ntmps30
    go_wp2_with (go_at_call 22; refine (mulDiv _ _ _ _ a0 a1 p0 p1 (by decide) (by decide)).mono ?_; rintro e w' ⟨rfl, rfl⟩)
    go_ret2
    exact ⟨rfl, rfl⟩

/-- Two answers that are one are the same. -/
theorem same (n r : Int) (w : World) : Calls Try.prog 12 #[.int .u64 n, .int .i64 r, .int .u64 n, .int .i64 r] w fun e w' => e = .returned (.bool true) ∧ w = w' := by
  go_enter Try.func12, Try.ntmps12
  go_wp2
  go_ret
  exact ⟨rfl, rfl⟩
end Ref
end Go.Proofs.Ytdngpplmkghdhaa
