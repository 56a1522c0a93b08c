/-
  What the functions of distraintref01 answer in this program (but Cmp): the same as those of fixnum.
  Conditions: every amount is from 0 to 2^64 - 1; the slice reads as such amounts.
-/
import Derived.Test.YtdngpplmkghdhaaRefWide
import Derived.Test.YtdngpplmkghdhaaFixSum
namespace Go.Proofs.Ytdngpplmkghdhaa
open Go.RowKit Go.Shelf
set_option linter.unusedVariables false
namespace Ref
open Fix

theorem add (a b : Int) (w : World) (a0 : 0 ≤ a) (a1 : a ≤ 18446744073709551615) (b0 : 0 ≤ b) (b1 : b ≤ 18446744073709551615) :
    Calls Try.prog 11 #[.int .u64 a, .int .u64 b] w fun e w' => e = .returned (.tuple #[.int .u64 (amt (a + b)), .int .i64 (amtE (a + b))]) ∧ w = w' := by
  rcases Int.lt_or_le 18446744073709551615 (a + b) with h | h
  · obtain ⟨e1, e2⟩ := amt_no h
    rw [e1, e2]
    clear e1 e2
    go_enter Try.func11, Try.ntmps11
    go_wp2
    go_ret2
    exact ⟨rfl, rfl⟩
  · obtain ⟨e1, e2⟩ := amt_of h
    rw [e1, e2]
    clear e1 e2
    go_enter Try.func11, Try.ntmps11
    go_wp2
    go_ret2
    exact ⟨rfl, rfl⟩

theorem sub (a b : Int) (w : World) (a0 : 0 ≤ a) (a1 : a ≤ 18446744073709551615) (b0 : 0 ≤ b) :
    Calls Try.prog 14 #[.int .u64 a, .int .u64 b] w fun e w' => e = .returned (.tuple #[.int .u64 (dif a b), .int .i64 (difE a b)]) ∧ w = w' := by
  unfold dif difE
  by_cases h : a < b
  · rw [if_pos h, if_pos h]
    go_enter Try.func14, Try.ntmps14
    go_wp2
    go_ret2
    exact ⟨rfl, rfl⟩
  · rw [if_neg h, if_neg h]
    go_enter Try.func14, Try.ntmps14
    go_wp2
    go_ret2
    exact ⟨rfl, rfl⟩

theorem mul (a b : Int) (w : World) (a0 : 0 ≤ a) (a1 : a ≤ 18446744073709551615) (b0 : 0 ≤ b) (b1 : b ≤ 18446744073709551615) :
    Calls Try.prog 16 #[.int .u64 a, .int .u64 b] w fun e w' => e = .returned (.tuple #[.int .u64 (amt (a * b)), .int .i64 (amtE (a * b))]) ∧ w = w' := by
  have p0 := (mul_le a0 a1 b0 b1).1
  rcases Int.lt_or_le 18446744073709551615 (a * b) with h | h
  · obtain ⟨e1, e2⟩ := amt_no h
    rw [e1, e2]
    have hh : 0 < hi (a * b) := by unfold hi; omega
    clear e1 e2
    go_enter Try.func16, Try.ntmps16
    go_wp2_with (go_at_call 20; refine (wide _ _ _ a0 a1 b0 b1).mono ?_; rintro e w' ⟨rfl, rfl⟩)
    go_ret2
    exact ⟨rfl, rfl⟩
  · obtain ⟨e1, e2⟩ := amt_of h
    rw [e1, e2]
    have hh : hi (a * b) = 0 := by unfold hi; omega
    have hl := Lib.hid (show lo (a * b) = a * b by unfold lo; omega)
    clear e1 e2
    go_enter Try.func16, Try.ntmps16
    go_wp2_with (go_at_call 20; refine (wide _ _ _ a0 a1 b0 b1).mono ?_; rintro e w' ⟨rfl, rfl⟩)
    go_ret2
    exact ⟨by rw [hl.out]; rfl, rfl⟩

set_option maxHeartbeats 400000 in
theorem sum (A : Option Addr) (n c : Nat) (zs : List Int) (w : World) (hi : Ints .u64 w A n zs) (hw : Words zs) (hn : n ≤ 9223372036854775807) :
    Calls Try.prog 18 #[.slice A n c] w fun e w' => e = .returned (.tuple #[.int .u64 (amt (sumTo zs n)), .int .i64 (amtE (sumTo zs n))]) ∧ Bel w w' := by
  have HW := Lib.hid hw
  clear hw
  have HI := Lib.hid hi
  clear hi
  go_enter Try.func18, Try.ntmps18
  go_wp2_with fail
  go_loopw [4, 5, 6] (fun r e i wr => ∃ k : Nat, k ≤ n ∧ i = .int .i64 k ∧ r = .int .u64 (amt (sumTo zs k)) ∧ e = .int .i64 (amtE (sumTo zs k)) ∧ Bel w wr) (fun _ _ i _ => n - (intOf i).toNat)
  case atStart => exact ⟨0, Nat.zero_le _, rfl, rfl, rfl, Bel.refl _⟩
  case round =>
    obtain ⟨k, hk, rfl, rfl, rfl, hb⟩ := hrel
    have hs0 := sumTo0 HW.out k
    rcases Int.lt_or_le 18446744073709551615 (sumTo zs k) with hgt | hle
    · have hend : sumTo zs k ≤ sumTo zs n := sumTo_le HW.out hk
      obtain ⟨e1, e2⟩ := amt_no hgt
      obtain ⟨e3, e4⟩ := amt_no (P := sumTo zs n) (by omega)
      have E3 := Lib.hid e3
      have E4 := Lib.hid e4
      clear e3 e4
      by_cases hkn : k < n
      all_goals
        go_wp2
        go_ret2
        exact ⟨by rw [E3.out, E4.out]; first | rfl | (rw [e1, e2]; rfl), hb⟩
    · obtain ⟨e1, e2⟩ := amt_of hle
      by_cases hkn : k < n
      · obtain ⟨b', o, rfl, hbw, hc⟩ := (HI.out.bel hb).2 (by omega)
        have hck := hc k hkn
        obtain ⟨z0, z1⟩ := HW.out k
        clear hc
        have hcell : wr.cell? ⟨b', o + k, none⟩ = some (.int .u64 (zs.getD k 0)) := hck
        clear hck
        generalize hz : zs.getD k 0 = z at *
        have hstep : sumTo zs (k + 1) = sumTo zs k + z := by rw [← hz]; rfl
        have HS := Lib.hid hstep
        clear hz hstep
        go_wp2_with fail
        refine (add _ _ _ hs0 hle z0 z1).mono ?_
        rintro e w' ⟨rfl, rfl⟩
        go_wp2
        go_roundw
        case rel => exact ⟨k + 1, by omega, by go_num, by rw [HS.out], by rw [HS.out], hb⟩
        case measure => simp [intOf]; omega
      · obtain rfl : k = n := by omega
        have E1 := Lib.hid e1
        have E2 := Lib.hid e2
        clear e1 e2
        go_wp2
        go_ret2
        exact ⟨rfl, hb⟩

/-! ### Divide, bit by bit -/
theorem pre2 (P : Int) (j : Nat) : P / 2 ^ j = 2 * (P / 2 ^ (j + 1)) + P / 2 ^ j % 2 := pre_step P j

/-- One bit more: what becomes of the quotient and of what is left. -/
theorem div_step {q c bit : Int} (c0 : 0 < c) (hq : 0 ≤ q) (b0 : 0 ≤ bit) (b1 : bit ≤ 1) :
    (c ≤ 2 * (q % c) + bit ∧ (2 * q + bit) / c = 2 * (q / c) + 1 ∧ (2 * q + bit) % c = 2 * (q % c) + bit - c) ∨
    (2 * (q % c) + bit < c ∧ (2 * q + bit) / c = 2 * (q / c) ∧ (2 * q + bit) % c = 2 * (q % c) + bit) := by
  have m0 := Int.emod_nonneg q (b := c) (by omega)
  have m1 := Int.emod_lt_of_pos q c0
  have e := Int.emod_add_mul_ediv q c
  have e2 : 2 * q + bit = (2 * (q % c) + bit) + c * (2 * (q / c)) := by
    rw [Int.mul_left_comm]
    generalize c * (q / c) = t at *
    omega
  have ed : (2 * q + bit) / c = (2 * (q % c) + bit) / c + 2 * (q / c) := by
    rw [e2, Int.add_mul_ediv_left _ _ (by omega)]
  have em : (2 * q + bit) % c = (2 * (q % c) + bit) % c := by
    rw [e2, Int.add_mul_emod_self_left]
  generalize hL : 2 * (q % c) + bit = L at *
  rcases Int.lt_or_le L c with h | h
  · right
    refine ⟨h, ?_, ?_⟩
    · rw [ed, Int.ediv_eq_zero_of_lt (by omega) h]; omega
    · rw [em, Int.emod_eq_of_lt (by omega) h]
  · left
    refine ⟨h, ?_, ?_⟩
    · rw [ed, show L = (L - c) + c * 1 by omega, Int.add_mul_ediv_left _ _ (by omega), Int.ediv_eq_zero_of_lt (by omega) (by omega)]; omega
    · rw [em, show L = (L - c) + c * 1 by omega, Int.add_mul_emod_self_left, Int.emod_eq_of_lt (by omega) (by omega)]; omega

theorem hi_bit (P : Int) (i : Nat) (h : 64 ≤ i) : hi P / 2 ^ (i - 64) % 2 = P / 2 ^ i % 2 := by
  unfold hi
  rw [show (18446744073709551616 : Int) = 2 ^ 64 from rfl, Int.ediv_ediv_of_nonneg (by exact Int.pow_nonneg (by decide)), ← Int.pow_add, show 64 + (i - 64) = i by omega]
theorem lo_bit (P : Int) (i : Nat) (h : i < 64) : lo P / 2 ^ i % 2 = P / 2 ^ i % 2 := by
  unfold lo
  have e : (18446744073709551616 : Int) = 2 ^ i * (2 * 2 ^ (63 - i)) := by
    rw [show (18446744073709551616 : Int) = 2 ^ 64 from rfl, show 64 = i + (1 + (63 - i)) by omega, Int.pow_add, Int.pow_add]; rfl
  have hp : (0 : Int) < 2 ^ i := Int.pow_pos (by decide)
  have h1 := Int.emod_add_mul_ediv P 18446744073709551616
  have h2 : P = P % 18446744073709551616 + 2 ^ i * (2 * (2 ^ (63 - i) * (P / 18446744073709551616))) := by
    conv => lhs; rw [← h1]
    congr 1
    conv => lhs; lhs; rw [e]
    rw [Int.mul_assoc, Int.mul_assoc]
  have h3 : P / 2 ^ i = P % 18446744073709551616 / 2 ^ i + 2 * (2 ^ (63 - i) * (P / 18446744073709551616)) := by
    conv => lhs; rw [h2]
    rw [Int.add_mul_ediv_left _ _ (by omega)]
  rw [h3]
  omega
end Ref
end Go.Proofs.Ytdngpplmkghdhaa
