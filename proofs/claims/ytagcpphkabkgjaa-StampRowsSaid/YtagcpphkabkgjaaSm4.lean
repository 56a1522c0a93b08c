/-
  What the reference's Check and Bytes of a stamp answer: any stamp. No condition.
-/
import Derived.Test.YtagcpphkabkgjaaSm2
namespace Go.Proofs.Ytagcpphkabkgjaa
open Go.RowKit Go.Shelf
set_option linter.unusedVariables false
namespace Sm
open Cd

theorem within (n l h : Int) (w : World) : Calls Try.prog 61 #[.int .i64 n, .int .i64 l, .int .i64 h] w fun r w' => r = .returned (.bool (decide (l ≤ n) && decide (n ≤ h))) ∧ w = w' := by
  obtain ⟨X, hX⟩ : ∃ X, (decide (l ≤ n) && decide (n ≤ h)) = X := ⟨_, rfl⟩
  rw [hX]
  have HX := Lib.hid hX
  clear hX
  go_enter Try.func61, Try.ntmps61
  by_cases h1 : l ≤ n
  · by_cases h2 : n ≤ h
    · obtain rfl : X = true := by rw [← HX.out, decide_eq_true h1, decide_eq_true h2]; rfl
      go_wp2_with fail
      go_ret
      exact ⟨rfl, rfl⟩
    · obtain rfl : X = false := by rw [← HX.out, decide_eq_false h2, Bool.and_false]
      go_wp2_with fail
      go_ret
      exact ⟨rfl, rfl⟩
  · obtain rfl : X = false := by rw [← HX.out, decide_eq_false h1, Bool.false_and]
    go_wp2_with fail
    go_ret
    exact ⟨rfl, rfl⟩
theorem in_no {n l h : Int} (x : n < l ∨ h < n) : (decide (l ≤ n) && decide (n ≤ h)) = false := by
  rcases x with x | x
  · rw [decide_eq_false (by omega), Bool.false_and]
  · rw [decide_eq_false (p := n ≤ h) (by omega), Bool.and_false]
theorem in_yes {n l h : Int} (x : ¬ (n < l ∨ h < n)) : (decide (l ≤ n) && decide (n ≤ h)) = true := by
  rw [decide_eq_true (by omega), decide_eq_true (by omega)]; rfl

set_option maxRecDepth 10000 in
set_option maxHeartbeats 2000000 in
theorem checkR (a b c d : Int) (w : World) : Calls Try.prog 41 #[stV a b c d] w fun r w' => r = .returned (.int .i64 (ck a b c d)) ∧ Bel w w' := by
  have W1 := Lib.hid (fun V => within a 0 31 V)
  have W2 := Lib.hid (fun V => within b 1 4294967296 V)
  have W3 := Lib.hid (fun V => within c (-1) 31 V)
  have W4 := Lib.hid (fun V => within d 0 4294967296 V)
  have B0 := Lib.hid ((Bel.refl w).alloc (.cells #[.int .i64 a, .int .i64 b, .int .i64 c, .int .i64 d] 23))
  have P0 := Lib.hid (Blk.new w #[.int .i64 a, .int .i64 b, .int .i64 c, .int .i64 d] 23)
  have HC := Lib.hid (show ck a b c d = if (a < 0 ∨ 31 < a) ∨ (b < 1 ∨ 4294967296 < b) ∨ (c < -1 ∨ 31 < c) ∨ (d < 0 ∨ 4294967296 < d) then 3 else if c = a then 2 else if (c = -1 ∧ d ≠ 0) ∨ (c ≠ -1 ∧ d = 0) then 11 else if b < d then 9 else 0 from rfl)
  obtain ⟨E, hE⟩ : ∃ E, ck a b c d = E := ⟨_, rfl⟩
  rw [hE] at HC ⊢
  clear hE
  go_enter Try.func41, Try.ntmps41
  go_upto_region 1 with fail
  obtain ⟨W, hW⟩ : ∃ W, w.alloc (.cells #[.int .i64 a, .int .i64 b, .int .i64 c, .int .i64 d] 23) = W := ⟨_, rfl⟩
  obtain ⟨p, hp⟩ : ∃ p, w.heap.size = p := ⟨_, rfl⟩
  rw [hW, hp] at P0
  rw [hW] at B0
  rw [hW, hp]
  clear hW hp
  have c0 := P0.out.cell 0 rfl
  have c1 := P0.out.cell 1 rfl
  have c2 := P0.out.cell 2 rfl
  have c3 := P0.out.cell 3 rfl
  by_cases h1 : a < 0 ∨ 31 < a
  · obtain rfl : E = 3 := by rw [HC.out, if_pos (.inl h1)]
    rw [in_no h1] at W1
    clear h1
    go_wp2_with fail
    refine (W1.out _).mono ?_
    rintro r w1 ⟨rfl, rfl⟩
    go_wp2_with fail
    go_ret
    exact ⟨rfl, B0.out⟩
  rw [in_yes h1] at W1
  go_wp2_with fail
  refine (W1.out _).mono ?_
  rintro r w1 ⟨rfl, rfl⟩
  by_cases h2 : b < 1 ∨ 4294967296 < b
  · obtain rfl : E = 3 := by rw [HC.out, if_pos (.inr (.inl h2))]
    rw [in_no h2] at W2
    clear h2
    go_wp2_with fail
    refine (W2.out _).mono ?_
    rintro r w2 ⟨rfl, rfl⟩
    go_wp2_with fail
    go_ret
    exact ⟨rfl, B0.out⟩
  rw [in_yes h2] at W2
  go_wp2_with fail
  refine (W2.out _).mono ?_
  rintro r w2 ⟨rfl, rfl⟩
  by_cases h3 : c < -1 ∨ 31 < c
  · obtain rfl : E = 3 := by rw [HC.out, if_pos (.inr (.inr (.inl h3)))]
    rw [in_no h3] at W3
    clear h3
    go_wp2_with fail
    refine (W3.out _).mono ?_
    rintro r w3 ⟨rfl, rfl⟩
    go_wp2_with fail
    go_ret
    exact ⟨rfl, B0.out⟩
  rw [in_yes h3] at W3
  go_wp2_with fail
  refine (W3.out _).mono ?_
  rintro r w3 ⟨rfl, rfl⟩
  by_cases h4 : d < 0 ∨ 4294967296 < d
  · obtain rfl : E = 3 := by rw [HC.out, if_pos (.inr (.inr (.inr h4)))]
    rw [in_no h4] at W4
    clear h4
    go_wp2_with fail
    refine (W4.out _).mono ?_
    rintro r w4 ⟨rfl, rfl⟩
    go_wp2_with fail
    go_ret
    exact ⟨rfl, B0.out⟩
  rw [in_yes h4] at W4
  go_wp2_with fail
  refine (W4.out _).mono ?_
  rintro r w4 ⟨rfl, rfl⟩
  have HC := Lib.hid (HC.out.trans (if_neg (by omega)))
  clear h1 h2 h3 h4
  by_cases h5 : c = a
  · subst h5
    obtain rfl : E = 2 := by rw [HC.out, if_pos rfl]
    have e : (c == c) = true := beq_self_eq_true c
    go_wp2_with fail
    go_ret
    exact ⟨rfl, B0.out⟩
  have HC := Lib.hid (HC.out.trans (if_neg h5))
  have e5 : (c == a) = false := beq_eq_false_iff_ne.2 h5
  clear h5
  by_cases h6 : (c = -1 ∧ d ≠ 0) ∨ (c ≠ -1 ∧ d = 0)
  · obtain rfl : E = 11 := by rw [HC.out, if_pos h6]
    rcases h6 with ⟨rfl, h6⟩ | ⟨h6, rfl⟩
    · have e6 : (d == 0) = false := beq_eq_false_iff_ne.2 h6
      clear h6
      go_wp2_with fail
      go_ret
      exact ⟨rfl, B0.out⟩
    · have e6 : (c == -1) = false := beq_eq_false_iff_ne.2 h6
      clear h6
      go_wp2_with fail
      go_ret
      exact ⟨rfl, B0.out⟩
  have HC := Lib.hid (HC.out.trans (if_neg h6))
  by_cases h7 : b < d
  · obtain rfl : E = 9 := by rw [HC.out, if_pos h7]
    by_cases h8 : c = -1
    · obtain rfl : d = 0 := by omega
      subst h8
      clear h6
      go_wp2_with fail
      go_ret
      exact ⟨rfl, B0.out⟩
    · have e7 : (d == 0) = false := beq_eq_false_iff_ne.2 (by omega)
      have e8 : (c == -1) = false := beq_eq_false_iff_ne.2 h8
      clear h6 h8
      go_wp2_with fail
      go_ret
      exact ⟨rfl, B0.out⟩
  · obtain rfl : E = 0 := by rw [HC.out, if_neg h7]
    by_cases h8 : c = -1
    · obtain rfl : d = 0 := by omega
      subst h8
      clear h6
      go_wp2_with fail
      go_ret
      exact ⟨rfl, B0.out⟩
    · have e7 : (d == 0) = false := beq_eq_false_iff_ne.2 (by omega)
      have e8 : (c == -1) = false := beq_eq_false_iff_ne.2 h8
      clear h6 h8
      go_wp2_with fail
      go_ret
      exact ⟨rfl, B0.out⟩
end Sm
end Go.Proofs.Ytagcpphkabkgjaa
