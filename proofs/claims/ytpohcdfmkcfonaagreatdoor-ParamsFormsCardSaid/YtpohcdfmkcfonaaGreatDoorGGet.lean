/-
  What codec.Get answers in this program, of any bytes at any place: a number and the place behind it, or why there is none.
  Conditions: the slice reads as bytes, of at most 2^47 of them.
-/
import Derived.Test.YtpohcdfmkcfonaaGreatDoorGBase
namespace Go.Proofs.YtpohcdfmkcfonaaGreatDoor
open Go.RowKit Go.Shelf
set_option linter.unusedVariables false
namespace Cd

theorem low_ (z : Int) (w : World) : Calls Tryz.prog 82 #[.int .u8 z] w fun e w' => e = .returned (.bool (decide (z < 128))) ∧ w = w' := by
  go_enter Tryz.func82, Tryz.ntmps82
  go_wp2
  go_ret
  exact ⟨rfl, rfl⟩

/-- The first low byte, or -1. -/
def First (zs : List Int) (n : Nat) (r : Int) : Prop :=
  (r = -1 ∧ ∀ i, i < n → 128 ≤ zs.getD i 0) ∨ (∃ j : Nat, r = j ∧ j < n ∧ (∀ i, i < j → 128 ≤ zs.getD i 0) ∧ zs.getD j 0 < 128)

set_option maxHeartbeats 400000 in
theorem indexFunc (A : Option Addr) (n c : Nat) (zs : List Int) (r : Int) (w : World) (hi : Ints .u8 w A n zs) (hn : n ≤ 9223372036854775807) (hr : First zs n r) :
    Calls Tryz.prog 81 #[.slice A n c, .func (.func 82) #[] #[]] w fun e w' => e = .returned (.int .i64 r) ∧ w = w' := by
  have HI := Lib.hid hi
  have HR := Lib.hid hr
  clear hi hr
  go_enter Tryz.func81, Tryz.ntmps81
  go_wp2_with fail
  go_loop [8] (fun i => ∃ k : Nat, k ≤ n ∧ i = .int .i64 k ∧ ∀ j, j < k → 128 ≤ zs.getD j 0) (fun i => n - (intOf i).toNat)
  case atStart => exact ⟨0, Nat.zero_le _, rfl, fun j h => absurd h (by omega)⟩
  case round =>
    obtain ⟨k, hk, rfl, hbs⟩ := hrel
    have HB := Lib.hid hbs
    clear hbs
    by_cases hlt : k < n
    · obtain ⟨b, o, rfl, hbw, hcell⟩ := HI.out.cell hlt
      rcases Int.lt_or_le (zs.getD k 0) 128 with hz | hz
      · have hrk : r = k := by
          rcases HR.out with ⟨_, h⟩ | ⟨j, h1, h2, h3, h4⟩
          · have := h k hlt; omega
          · have h5 : ¬ k < j := fun h => by have := h3 k h; omega
            have h6 : ¬ j < k := fun h => by have := HB.out j h; omega
            omega
        have HRK := Lib.hid hrk
        clear hrk
        generalize zs.getD k 0 = z at *
        have hd : decide (z < 128) = true := decide_eq_true hz
        go_wp2_with (go_at_call 82; refine (low_ _ _).mono ?_; rintro e w' ⟨rfl, rfl⟩)
        go_ret
        exact ⟨by rw [HRK.out]; rfl, rfl⟩
      · have HN : Hid (∀ j, j < k + 1 → 128 ≤ zs.getD j 0) := by
          intro j hj
          rcases Nat.lt_or_ge j k with h | h
          · exact HB.out j h
          · obtain rfl : j = k := by omega
            exact hz
        generalize zs.getD k 0 = z at *
        have hd : decide (z < 128) = false := decide_eq_false (by omega)
        go_wp2_with (go_at_call 82; refine (low_ _ _).mono ?_; rintro e w' ⟨rfl, rfl⟩)
        go_round
        case rel => exact ⟨k + 1, by omega, by go_num, HN.out⟩
        case measure => simp [intOf]; omega
    · obtain rfl : k = n := by omega
      have hrk : r = -1 := by
        rcases HR.out with ⟨h, _⟩ | ⟨j, h1, h2, h3, h4⟩
        · exact h
        · have := HB.out j h2; omega
      have HRK := Lib.hid hrk
      clear hrk
      go_wp2
      go_ret
      exact ⟨by rw [HRK.out]; rfl, rfl⟩

/-- Is what stands there the shortest form? -/
def shortB (n : Nat) (z : Int) : Bool := if n = 1 then true else if n = 10 then z == 1 else decide (0 < z)

theorem shortest (A : Option Addr) (n c : Nat) (zs : List Int) (w : World) (hi : Ints .u8 w A n zs) (hn : n ≤ 9223372036854775807) (h1 : 1 ≤ n) :
    Calls Tryz.prog 83 #[.slice A n c] w fun e w' => e = .returned (.bool (shortB n (zs.getD (n - 1) 0))) ∧ w = w' := by
  obtain ⟨b, o, rfl, hbw, hcell⟩ := hi.cell (i := n - 1) (by omega)
  have g0 : (0 : Int) ≤ (n : Int) - 1 := by omega
  have g1 : ((n : Int) - 1).toNat = n - 1 := by omega
  have g2 : (n : Int) - 1 < n := by omega
  generalize zs.getD (n - 1) 0 = z at *
  by_cases e1 : n = 1
  · have E := Lib.hid (show shortB n z = true from if_pos e1)
    have f1 : ((n : Int) == 1) = true := beq_iff_eq.2 (by omega)
    clear e1
    go_enter Tryz.func83, Tryz.ntmps83
    go_wp2
    go_ret
    exact ⟨by rw [E.out]; rfl, rfl⟩
  · have f1 : ((n : Int) == 1) = false := beq_eq_false_iff_ne.2 (by omega)
    by_cases e2 : n = 10
    · have E := Lib.hid (show shortB n z = (z == 1) by unfold shortB; rw [if_neg e1, if_pos e2])
      have f2 : ((n : Int) == 10) = true := beq_iff_eq.2 (by omega)
      clear e1 e2
      go_enter Tryz.func83, Tryz.ntmps83
      go_wp2
      go_ret
      exact ⟨by rw [E.out]; rfl, rfl⟩
    · have E := Lib.hid (show shortB n z = decide (0 < z) by unfold shortB; rw [if_neg e1, if_neg e2])
      have f2 : ((n : Int) == 10) = false := beq_eq_false_iff_ne.2 (by omega)
      clear e1 e2
      go_enter Tryz.func83, Tryz.ntmps83
      go_wp2
      go_ret
      exact ⟨by rw [E.out]; rfl, rfl⟩
end Cd
end Go.Proofs.YtpohcdfmkcfonaaGreatDoor
