/-
  What the reference's height, last, Live and sum tell. Conditions: at most a billion entries; the Balances are words.
-/
import Derived.Test.YtcefjigbaglmeaaGreatGQu4
import Derived.Test.YtcefjigbaglmeaaGreatGRef
namespace Go.Proofs.YtcefjigbaglmeaaGreat
open Go.RowKit Go.Shelf
set_option linter.unusedVariables false
set_option linter.unusedSimpArgs false
namespace Qu
open Kk Pm

set_option maxHeartbeats 1000000 in
theorem heightR (x : Int) (w : World) : Calls Tryz.prog 74 #[.int .i64 x] w fun e w' => e = .returned (.bool (decide (1 ≤ x ∧ x ≤ 4294967296))) ∧ w = w' := by
  go_enter Tryz.func74, Tryz.ntmps74
  by_cases h : 1 ≤ x
  · by_cases h2 : x ≤ 4294967296
    · have hd : decide (1 ≤ x ∧ x ≤ 4294967296) = true := decide_eq_true ⟨h, h2⟩
      rw [hd]
      go_wp2
      go_ret
      exact ⟨rfl, rfl⟩
    · have hd : decide (1 ≤ x ∧ x ≤ 4294967296) = false := decide_eq_false (by omega)
      rw [hd]
      go_wp2
      go_ret
      exact ⟨rfl, rfl⟩
  · have hd : decide (1 ≤ x ∧ x ≤ 4294967296) = false := decide_eq_false (by omega)
    rw [hd]
    go_wp2
    go_ret
    exact ⟨rfl, rfl⟩
set_option maxHeartbeats 2000000 in
theorem lastR (A : Option Addr) (k cp : Nat) (m : List E8) (w : World) (hi : Rw.RS eR w A k cp m) (hk : k ≤ 1000000000) :
    Calls Tryz.prog 42 #[.slice A k cp] w fun e w' => e = .returned (.int .i64 (bef 0 m k)) ∧ w = w' := by
  by_cases hz : k = 0
  · subst hz
    rw [show bef 0 m 0 = 0 from rfl]
    clear hi
    go_enter Tryz.func42, Tryz.ntmps42
    go_wp2_with fail
    go_ret
    exact ⟨rfl, rfl⟩
  · obtain ⟨j, rfl⟩ : ∃ j, k = j + 1 := ⟨k - 1, by omega⟩
    obtain ⟨⟨t1, t2, t3, t4, t5, t6, t7, t8⟩, ht⟩ := hi.get (Nat.lt_succ_self j)
    obtain ⟨bb, qq, rfl, _, hrow⟩ := hi.at (Nat.lt_succ_self j) ht
    obtain ⟨c0, c1, c2, c3, c4, c5, c6, c7⟩ := rng8 (show w.rangeAt bb (qq + j * 8) [.int .i64 t1, .int .i64 t2, .int .i64 t3, .int .i64 t4, .int .i64 t5, .int .i64 t6, .int .u64 t7, .int .u64 t8] from hrow)
    rw [show bef 0 m (j + 1) = t6 from bef_succ ht]
    have hjw : IntKind.i64.wrap (((j + 1 : Nat) : Int) - 1) = j := by rw [show ((j + 1 : Nat) : Int) - 1 = j by omega]; exact IntWalk.i64_in _ (by omega)
    have hjw2 : IntKind.i64.wrap (((j : Int) + 1) - 1) = j := by rw [show (j : Int) + 1 - 1 = j by omega]; exact IntWalk.i64_in _ (by omega)
    have hjw3 : IntKind.i64.wrap (j : Int) = j := IntWalk.i64_in _ (by omega)
    have hj5 : ¬ ((j : Int) + 1 ≤ j) := by omega
    have hj0 : (0 : Int) ≤ j := by omega
    have hj4 : (j : Int) < ((j + 1 : Nat) : Int) := by omega
    have hje : (((j + 1 : Nat) : Int) == 0) = false := beq_eq_false_iff_ne.2 (by omega)
    have hje2 : ((j : Int) + 1 == 0) = false := beq_eq_false_iff_ne.2 (by omega)
    clear hi hrow ht hz c0 c1 c2 c3 c4 c6 c7
    go_enter Tryz.func42, Tryz.ntmps42
    go_wp2_with fail
    go_ret
    exact ⟨rfl, rfl⟩
end Qu
end Go.Proofs.YtcefjigbaglmeaaGreat
