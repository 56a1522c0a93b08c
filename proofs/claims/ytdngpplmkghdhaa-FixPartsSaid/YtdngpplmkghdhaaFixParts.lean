/-
  The walks of distraintref01.Cmp and of the law FixParts: it returns true, and what was there is as it was.
  Conditions: words.
-/
import Derived.Test.YtdngpplmkghdhaaGreat5
import Derived.Test.YtdngpplmkghdhaaRefApi
import Derived.Test.YtdngpplmkghdhaaFixKnown
namespace Go.Proofs.Ytdngpplmkghdhaa
open Go.RowKit Go.Shelf
set_option linter.unusedVariables false
namespace Ref
open Fix Gt

set_option maxHeartbeats 400000 in
theorem cmp (a b c d : Int) (w : World) (a0 : 0 ≤ a) (a1 : a ≤ 18446744073709551615) (b0 : 0 ≤ b) (b1 : b ≤ 18446744073709551615) (c0 : 0 ≤ c) (c1 : c ≤ 18446744073709551615) (d0 : 0 ≤ d) (d1 : d ≤ 18446744073709551615) :
    Calls Try.prog 32 #[.int .u64 a, .int .u64 b, .int .u64 c, .int .u64 d] w fun e w' => e = .returned (.int .i64 (cmpI (a * b) (c * d))) ∧ Bel w w' := by
  have hcase : (a * b < c * d ∧ cmpI (a * b) (c * d) = -1) ∨ (c * d < a * b ∧ cmpI (a * b) (c * d) = 1) ∨ (a * b = c * d ∧ cmpI (a * b) (c * d) = 0) := by
    unfold cmpI
    rcases Int.lt_trichotomy (a * b) (c * d) with h | h | h
    · left; exact ⟨h, by rw [if_neg (by omega), if_pos h]⟩
    · right; right; exact ⟨h, if_pos h⟩
    · right; left; exact ⟨h, by rw [if_neg (by omega), if_neg (by omega)]⟩
  have hk : (decide (a * b < c * d) = true ∧ cmpI (a * b) (c * d) = -1) ∨ (decide (a * b < c * d) = false ∧ decide (c * d < a * b) = true ∧ cmpI (a * b) (c * d) = 1) ∨ (decide (a * b < c * d) = false ∧ decide (c * d < a * b) = false ∧ cmpI (a * b) (c * d) = 0) := by
    rcases hcase with ⟨h, e⟩ | ⟨h, e⟩ | ⟨h, e⟩
    · exact .inl ⟨decide_eq_true h, e⟩
    · exact .inr (.inl ⟨decide_eq_false (by omega), decide_eq_true h, e⟩)
    · exact .inr (.inr ⟨decide_eq_false (by omega), decide_eq_false (by omega), e⟩)
  clear hcase
  rcases hk with ⟨k1, e⟩ | ⟨k1, k2, e⟩ | ⟨k1, k2, e⟩
  all_goals
    have E := Lib.hid e
    clear e
    go_enter Try.func32, Try.ntmps32
    go_wp2_with fail
    refine (Gt.great a _ a0 a1).mono ?_
    rintro e w1 ⟨v1, rfl, g1, h1⟩
    go_wp2_with fail
    refine (Gt.great b _ b0 b1).mono ?_
    rintro e w2 ⟨v2, rfl, g2, h2⟩
    go_wp2_with fail
    refine (Gt.times v1 v2 a b 4 4 _ (g1.bel h2) g2 (by decide) (by decide)).mono ?_
    rintro e w3 ⟨v3, rfl, g3, h3⟩
    go_wp2_with fail
    refine (Gt.great c _ c0 c1).mono ?_
    rintro e w4 ⟨v4, rfl, g4, h4⟩
    go_wp2_with fail
    refine (Gt.great d _ d0 d1).mono ?_
    rintro e w5 ⟨v5, rfl, g5, h5⟩
    go_wp2_with fail
    refine (Gt.times v4 v5 c d 4 4 _ (g4.bel h5) g5 (by decide) (by decide)).mono ?_
    rintro e w6 ⟨v6, rfl, g6, h6⟩
    go_wp2_with fail
    refine (Gt.less v3 v6 (a * b) (c * d) 9 9 _ (((g3.bel h4).bel h5).bel h6) g6 (by decide) (by decide)).mono ?_
    rintro e w7 ⟨rfl, h7⟩
    first
      | (go_wp2_with fail
         refine (Gt.less v6 v3 (c * d) (a * b) 9 9 _ (g6.bel h7) ((((g3.bel h4).bel h5).bel h6).bel h7) (by decide) (by decide)).mono ?_
         rintro e w8 ⟨rfl, h8⟩
         go_wp2
         go_ret
         exact ⟨by rw [E.out]; rfl, h1.trans (h2.trans (h3.trans (h4.trans (h5.trans (h6.trans (h7.trans h8))))))⟩)
      | (go_wp2
         go_ret
         exact ⟨by rw [E.out]; rfl, h1.trans (h2.trans (h3.trans (h4.trans (h5.trans (h6.trans h7)))))⟩)
end Ref

namespace Fix
set_option maxHeartbeats 800000 in
theorem partsLaw (a b c d : Int) (w : World) (a0 : 0 ≤ a) (a1 : a ≤ 18446744073709551615) (b0 : 0 ≤ b) (b1 : b ≤ 18446744073709551615) (c0 : 0 ≤ c) (c1 : c ≤ 18446744073709551615) (d0 : 0 ≤ d) (d1 : d ≤ 18446744073709551615) :
    Calls Try.prog 4 #[.int .u64 a, .int .u64 b, .int .u64 c, .int .u64 d] w fun e w' => e = .returned (.bool true) ∧ Bel w w' := by
  go_enter Try.func4, Try.ntmps4
  go_wp2_with fail
  refine (mulDiv a b c _ a0 a1 b0 b1 c0 c1).mono ?_
  rintro e w1 ⟨rfl, h1⟩
  go_wp2_with fail
  refine (Ref.mulDiv a b c _ a0 a1 b0 b1 c0 c1).mono ?_
  rintro e w' ⟨rfl, rfl⟩
  go_wp2_with fail
  refine (Ref.same _ _ _).mono ?_
  rintro e w' ⟨rfl, rfl⟩
  go_wp2_with fail
  refine (mulDivUp a b c _ a0 a1 b0 b1 c0 c1).mono ?_
  rintro e w2 ⟨rfl, h2⟩
  go_wp2_with fail
  refine (Ref.mulDivUp a b c _ a0 a1 b0 b1 c0 c1).mono ?_
  rintro e w' ⟨rfl, rfl⟩
  go_wp2_with fail
  refine (Ref.same _ _ _).mono ?_
  rintro e w' ⟨rfl, rfl⟩
  go_wp2_with fail
  refine (rest a b c _ a0 a1 b0 b1 c0 c1).mono ?_
  rintro e w3 ⟨rfl, h3⟩
  go_wp2_with fail
  refine (Ref.rest a b c _ a0 a1 b0 b1 c0 c1).mono ?_
  rintro e w' ⟨rfl, rfl⟩
  go_wp2_with fail
  refine (Ref.same _ _ _).mono ?_
  rintro e w' ⟨rfl, rfl⟩
  go_wp2_with fail
  refine (capped d a b c _ d0 d1 a0 a1 b0 b1 c0 c1).mono ?_
  rintro e w4 ⟨rfl, h4⟩
  go_wp2_with fail
  refine (Ref.capped d a b c _ d0 d1 a0 a1 b0 b1 c0 c1).mono ?_
  rintro e w' ⟨rfl, rfl⟩
  go_wp2_with fail
  refine (Ref.same _ _ _).mono ?_
  rintro e w' ⟨rfl, rfl⟩
  go_wp2_with fail
  refine (part a b _ a0 a1 b0 b1).mono ?_
  rintro e w5 ⟨rfl, h5⟩
  go_wp2_with fail
  refine (Ref.part a b _ a0 a1 b0 b1).mono ?_
  rintro e w' ⟨rfl, rfl⟩
  go_wp2_with fail
  refine (Ref.same _ _ _).mono ?_
  rintro e w' ⟨rfl, rfl⟩
  go_wp2_with fail
  refine (cmp a b c d _ a0 a1 b0 b1 c0 c1 d0 d1).mono ?_
  rintro e w6 ⟨rfl, h6⟩
  go_wp2_with fail
  refine (Ref.cmp a b c d _ a0 a1 b0 b1 c0 c1 d0 d1).mono ?_
  rintro e w7 ⟨rfl, h7⟩
  go_wp2_with fail
  refine (awake _).mono ?_
  rintro e w8 ⟨rfl, h8⟩
  go_wp2
  go_ret
  exact ⟨rfl, h1.trans (h2.trans (h3.trans (h4.trans (h5.trans (h6.trans (h7.trans h8))))))⟩
end Fix
end Go.Proofs.Ytdngpplmkghdhaa
