/-
  The walk of the law FixCapped: it returns true, and what was there is as it was.
  Conditions: words, and a slice that reads as words.
-/
import Derived.Test.YtdngpplmkghdhaaFixKnown
import Derived.BigGuardPart
namespace Go.Proofs.Ytdngpplmkghdhaa
open Go.RowKit Go.Shelf
set_option linter.unusedVariables false
namespace Fix

set_option maxHeartbeats 400000 in
theorem cappedLaw (most a b c : Int) (A : Option Addr) (n cap : Nat) (zs : List Int) (w : World) (m0 : 0 ≤ most) (m1 : most ≤ 18446744073709551615) (a0 : 0 ≤ a) (a1 : a ≤ 18446744073709551615) (b0 : 0 ≤ b) (b1 : b ≤ 18446744073709551615) (c0 : 0 ≤ c) (c1 : c ≤ 18446744073709551615)
    (hi : Ints .u64 w A n zs) (hz : ∀ z ∈ zs, 0 ≤ z ∧ z ≤ 18446744073709551615) (hn : n ≤ maxLen) :
    Calls Try.prog 8 #[.int .u64 most, .int .u64 a, .int .u64 b, .int .u64 c, .slice A n cap] w fun e w' => e = .returned (.bool true) ∧ Bel w w' := by
  have HW := Lib.hid (words_of hz)
  have HI := Lib.hid hi
  clear hi hz
  unfold maxLen at hn
  by_cases h40 : 40 < n
  · go_enter Try.func8, Try.ntmps8
    go_wp2_with (go_at_call 5; refine (known _).mono ?_; rintro e w1 ⟨rfl, h1⟩)
    go_ret
    exact ⟨rfl, h1⟩
  by_cases hc : c = 0
  · subst hc
    go_enter Try.func8, Try.ntmps8
    go_wp2_with fail
    refine (known _).mono ?_
    rintro e w1 ⟨rfl, h1⟩
    go_wp2_with fail
    refine (capped' _ _ _ _ 0 2 _ m0 m1 a0 a1 b0 b1 c0 c1 rfl rfl).mono ?_
    rintro e w2 ⟨rfl, h2⟩
    go_wp2_with fail
    refine (mulDiv' _ _ _ 0 2 _ a0 a1 b0 b1 c0 c1 rfl rfl).mono ?_
    rintro e w3 ⟨rfl, h3⟩
    go_wp2
    go_ret
    exact ⟨rfl, (h1.trans h2).trans h3⟩
  have hcap : ∃ N O F : Int, capN most a b c = N ∧ mdN a b c = O ∧ mdE a b c = F ∧ restE c = 0 ∧ ((F = 0 ∧ N = O ∧ min most O = O) ∨ (F = 0 ∧ N = most ∧ min most O = most) ∨ (F = 12 ∧ N = most)) := by
    refine ⟨_, _, _, rfl, rfl, rfl, if_neg hc, ?_⟩
    unfold capN mdN mdE
    rw [if_neg hc, if_neg hc, if_neg hc]
    rcases Int.lt_or_le 18446744073709551615 (a * b / c) with h | h
    · obtain ⟨e1, e2⟩ := amt_no h
      rw [e2, if_neg (by omega)]
      exact .inr (.inr ⟨rfl, rfl⟩)
    · obtain ⟨e1, e2⟩ := amt_of h
      rw [e1, e2]
      by_cases hlt : a * b / c < most
      · rw [if_pos hlt]; exact .inl ⟨rfl, rfl, by omega⟩
      · rw [if_neg hlt]; exact .inr (.inl ⟨rfl, rfl, by omega⟩)
  obtain ⟨N, O, F, e1, e2, e3, e4, hcs⟩ := hcap
  have E1 := Lib.hid e1
  have E2 := Lib.hid e2
  have E3 := Lib.hid e3
  have E4 := Lib.hid e4
  clear e1 e2 e3 e4
  have hcp : 0 < c := by omega
  have h40' : n ≤ 40 := by omega
  have hd40 : decide ((40 : Int) < (n : Int)) = false := decide_eq_false (by omega)
  have hc0 : (c == 0) = false := beq_eq_false_iff_ne.2 hc
  clear h40 hc
  rcases hcs with ⟨rfl, rfl, hlt⟩ | ⟨rfl, rfl, hlt⟩ | ⟨rfl, rfl⟩
  all_goals
    go_enter Try.func8, Try.ntmps8
    go_wp2_with fail
    refine (known _).mono ?_
    rintro e w1 ⟨rfl, h1⟩
    go_wp2_with fail
    refine (capped' _ _ _ _ _ 0 _ m0 m1 a0 a1 b0 b1 c0 c1 E1.out E4.out).mono ?_
    rintro e w2 ⟨rfl, h2⟩
    go_wp2_with fail
    refine (mulDiv' _ _ _ _ _ _ a0 a1 b0 b1 c0 c1 E2.out E3.out).mono ?_
    rintro e w3 ⟨rfl, h3⟩
    go_wp2_with fail
    go_loopw [16, 17, 18] (fun r g i wr => ∃ k : Nat, k ≤ n ∧ i = .int .i64 k ∧ r = .int .u64 (amt (sumTo zs k)) ∧ g = .int .i64 (amtE (sumTo zs k)) ∧ Bel w wr) (fun _ _ i _ => n - (intOf i).toNat)
    case atStart => exact ⟨0, Nat.zero_le _, rfl, rfl, rfl, (h1.trans h2).trans h3⟩
    case round =>
      obtain ⟨k, hk, rfl, rfl, rfl, hb⟩ := hrel
      have hs0 := sumTo0 HW.out k
      rcases Int.lt_or_le 18446744073709551615 (sumTo zs k) with hgt | hle
      · obtain ⟨e1, e2⟩ := amt_no hgt
        have hend : sumTo zs k ≤ sumTo zs n := sumTo_le HW.out hk
        obtain ⟨e3, e4⟩ := amt_no (P := sumTo zs n) (by omega)
        by_cases hkn : k < n
        all_goals
          go_wp2_with fail
          refine (sum _ _ _ zs _ (HI.out.bel hb) HW.out (by omega)).mono ?_
          rintro e w4 ⟨rfl, h4⟩
          go_wp2
          go_ret
          exact ⟨rfl, hb.trans h4⟩
      · obtain ⟨e1, e2⟩ := amt_of hle
        by_cases hkn : k < n
        · obtain ⟨b', o, rfl, hbw, hc⟩ := (HI.out.bel hb).2 (by omega)
          have hck := hc k hkn
          obtain ⟨z0, z1⟩ := HW.out k
          clear hc
          have hcell : wr.cell? ⟨b', o + k, none⟩ = some (.int .u64 (zs.getD k 0)) := hck
          clear hck
          generalize hz : zs.getD k 0 = z at *
          have hstep : sumTo zs (k + 1) = sumTo zs k + z := by rw [← hz]; rfl
          have HS := Lib.hid hstep
          clear hz hstep
          go_wp2_with fail
          refine (add _ _ _ hs0 hle z0 z1).mono ?_
          rintro e w' ⟨rfl, hb'⟩
          go_wp2
          go_roundw
          case rel => exact ⟨k + 1, by omega, by go_num, by rw [HS.out], by rw [HS.out], hb.trans hb'⟩
          case measure => simp [intOf]; omega
        · obtain rfl : k = n := by omega
          go_wp2_with fail
          refine (sum _ _ _ zs _ (HI.out.bel hb) HW.out (by omega)).mono ?_
          rintro e w4 ⟨rfl, h4⟩
          go_wp2
          go_ret
          exact ⟨rfl, hb.trans h4⟩
end Fix
end Go.Proofs.Ytdngpplmkghdhaa
