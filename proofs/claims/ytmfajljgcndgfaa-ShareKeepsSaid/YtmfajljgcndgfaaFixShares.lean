/-
  The walks of distraintkit.Pick and of the law FixShares: it returns true, and what was there is as it was.
  Conditions: words, and a slice that reads as ints.
-/
import Derived.Test.YtmfajljgcndgfaaFixKnown
namespace Go.Proofs.Ytmfajljgcndgfaa
open Go.RowKit Go.Shelf
set_option linter.unusedVariables false

/-- One of the numbers from 0 on below n, by any number. -/
theorem pick (x n : Int) (w : World) (x0 : -9223372036854775808 ≤ x) (x1 : x ≤ 9223372036854775807) (n0 : 0 < n) (n1 : n ≤ 4611686018427387904) :
    Calls Try.prog 24 #[.int .i64 x, .int .i64 n] w fun e w' => e = .returned (.int .i64 (x % n)) ∧ w = w' := by
  have t0 := Int.emod_nonneg x (b := n) (by omega)
  have t1 := Int.emod_lt_of_pos x n0
  have hb : (x.tmod n = x % n ∨ (x.tmod n < 0 ∧ x.tmod n + n = x % n)) ∧ -n < x.tmod n ∧ x.tmod n < n := by
    rw [Int.tmod_eq_emod]
    split <;> rename_i h
    · exact ⟨.inl (by omega), by omega, by omega⟩
    · have hne : x % n ≠ 0 := fun e => h (.inr (Int.dvd_of_emod_eq_zero e))
      exact ⟨.inr ⟨by omega, by omega⟩, by omega, by omega⟩
  obtain ⟨ht, b0⟩ := hb
  obtain ⟨T, hT⟩ : ∃ T, x.tmod n = T := ⟨_, rfl⟩
  have hw : IntKind.i64.wrap T = T := IntWalk.i64_in _ (by omega)
  rw [hT] at ht b0
  obtain ⟨E, hE⟩ : ∃ E, x % n = E := ⟨_, rfl⟩
  rw [hE] at ht t0 t1 ⊢
  clear hE
  rcases ht with h | ⟨h1, h2⟩
  · subst h
    go_enter Try.func24, Try.ntmps24
    go_wp2
    go_ret
    exact ⟨rfl, rfl⟩
  · have H2 := Lib.hid h2
    clear h2
    go_enter Try.func24, Try.ntmps24
    go_wp2
    go_ret
    exact ⟨by rw [← H2.out]; rfl, rfl⟩

namespace Fix
theorem part_of {a p : Int} (a0 : 0 ≤ a) (a1 : a ≤ 18446744073709551615) (p0 : 0 ≤ p) (p1 : p ≤ 1000000000) : partN a p = a * p / 1000000000 ∧ partE a p = 0 ∧ 0 ≤ a * p / 1000000000 ∧ a * p / 1000000000 ≤ a := by
  have m0 : 0 ≤ a * p := Int.mul_nonneg a0 p0
  have m1 : a * p ≤ a * 1000000000 := Int.mul_le_mul_of_nonneg_left p1 a0
  have hle : a * p / 1000000000 ≤ a := by omega
  unfold partN partE
  rw [if_neg (by omega), if_neg (by omega)]
  unfold mdN mdE
  rw [if_neg (by decide), if_neg (by decide)]
  obtain ⟨e1, e2⟩ := amt_of (P := a * p / 1000000000) (by omega)
  rw [e1, e2]
  exact ⟨rfl, rfl, by omega, hle⟩

theorem part_mono {a b p q : Int} (a0 : 0 ≤ a) (h : a ≤ b) (p0 : 0 ≤ p) (hp : p ≤ q) : a * p / 1000000000 ≤ b * q / 1000000000 := by
  have h1 : a * p ≤ b * p := Int.mul_le_mul_of_nonneg_right h p0
  have h2 : b * p ≤ b * q := Int.mul_le_mul_of_nonneg_left hp (by omega)
  omega

/-- One part more: what is known of the sum. -/
theorem share_round {a L p s : Int} {k : Nat} (a0 : 0 ≤ a) (p0 : 0 ≤ p) (p1 : p ≤ L) (L1 : L ≤ 1000000000) (s0 : 0 ≤ s)
    (h1 : s * 1000000000 ≤ a * (1000000000 - L)) (h2 : a * (1000000000 - L) ≤ s * 1000000000 + (k : Int) * 999999999) :
    s ≤ a - a * p / 1000000000 ∧ (s + a * p / 1000000000) * 1000000000 ≤ a * (1000000000 - (L - p)) ∧ a * (1000000000 - (L - p)) ≤ (s + a * p / 1000000000) * 1000000000 + ((k + 1 : Nat) : Int) * 999999999 := by
  have e : a * (1000000000 - (L - p)) = a * (1000000000 - L) + a * p := by rw [← Int.mul_add]; congr 1; omega
  have m1 : a * (1000000000 - (L - p)) ≤ a * 1000000000 := Int.mul_le_mul_of_nonneg_left (by omega) a0
  have m2 : 0 ≤ a * p := Int.mul_nonneg a0 p0
  generalize a * (1000000000 - (L - p)) = X at *
  generalize a * (1000000000 - L) = Y at *
  generalize a * p = Z at *
  omega

end Fix
end Go.Proofs.Ytmfajljgcndgfaa
