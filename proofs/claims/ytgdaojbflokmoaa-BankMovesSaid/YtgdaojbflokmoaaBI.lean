/-
  Texts of this claim, put together: BkG, BkS. What each one says, and under which conditions, stands ahead of it.
-/
import Derived.Test.YtgdaojbflokmoaaBH

section
/-
  The law's some and near. Conditions: the numbers are of their kinds.
-/
namespace Go.Proofs.Ytgdaojbflokmoaa
open Go.RowKit Go.Shelf
set_option linter.unusedVariables false
namespace Bk
open Pm

/-- One of the numbers from 0 on below n, by any number. -/
theorem pick (x n : Int) (w : World) (x0 : -9223372036854775808 ≤ x) (x1 : x ≤ 9223372036854775807) (n0 : 0 < n) (n1 : n ≤ 4611686018427387904) :
    Calls Try.prog 32 #[.int .i64 x, .int .i64 n] w fun e w' => e = .returned (.int .i64 (x % n)) ∧ w = w' := by
  have t0 := Int.emod_nonneg x (b := n) (by omega)
  have t1 := Int.emod_lt_of_pos x n0
  have hb : (x.tmod n = x % n ∨ (x.tmod n < 0 ∧ x.tmod n + n = x % n)) ∧ -n < x.tmod n ∧ x.tmod n < n := by
    rw [Int.tmod_eq_emod]
    split <;> rename_i h
    · exact ⟨.inl (by omega), by omega, by omega⟩
    · have hne : x % n ≠ 0 := fun e => h (.inr (Int.dvd_of_emod_eq_zero e))
      exact ⟨.inr ⟨by omega, by omega⟩, by omega, by omega⟩
  obtain ⟨ht, b0⟩ := hb
  obtain ⟨T, hT⟩ : ∃ T, x.tmod n = T := ⟨_, rfl⟩
  have hw : IntKind.i64.wrap T = T := IntWalk.i64_in _ (by omega)
  rw [hT] at ht b0
  obtain ⟨E, hE⟩ : ∃ E, x % n = E := ⟨_, rfl⟩
  rw [hE] at ht t0 t1 ⊢
  clear hE
  rcases ht with h | ⟨h1, h2⟩
  · subst h
    go_enter Try.func32, Try.ntmps32
    go_wp2
    go_ret
    exact ⟨rfl, rfl⟩
  · have H2 := Lib.hid h2
    clear h2
    go_enter Try.func32, Try.ntmps32
    go_wp2
    go_ret
    exact ⟨by rw [← H2.out]; rfl, rfl⟩

structure ActB (a f t m : Int) : Prop where
  a0 : -9223372036854775808 ≤ a
  a1 : a ≤ 9223372036854775807
  f0 : -9223372036854775808 ≤ f
  f1 : f ≤ 9223372036854775807
  t0 : -9223372036854775808 ≤ t
  t1 : t ≤ 9223372036854775807
  m0 : 0 ≤ m
  m1 : m ≤ 18446744073709551615
/-- A move whose numbers are near. -/
def Near (a m : Int) : Prop := 0 ≤ a ∧ a ≤ 4 ∧ 0 ≤ m ∧ m ≤ 18446744073709551615

end Bk
end Go.Proofs.Ytgdaojbflokmoaa
end

section
/-
  The law's some: a bank by numbers. Conditions: the numbers are words.
-/
namespace Go.Proofs.Ytgdaojbflokmoaa
open Go.RowKit Go.Shelf
set_option linter.unusedVariables false
namespace Bk
open Pm

theorem good_of_chk {zs : List Int} (hz : Words zs) (h : chk zs [0, 0, 0, 0] = 0) : Good zs [0, 0, 0, 0] := ⟨hz, words_zero, rfl, by have := (chk_ok h).2.1; omega⟩

end Bk
end Go.Proofs.Ytgdaojbflokmoaa
end
