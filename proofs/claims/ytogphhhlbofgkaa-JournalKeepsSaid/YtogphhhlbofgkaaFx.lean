/-
  What fixnum.Add, Sub, Sum and distraintref01.Add, Sum answer: the texts of stage 1, over the memory words of stage 3. Conditions: the amounts are words.
-/
import Derived.Test.YtogphhhlbofgkaaBits
import Derived.Test.YtogphhhlbofgkaaKMem
import Derived.StillTailTactics
import Derived.Deep.RegionHeld3
namespace Go.Proofs.Ytogphhhlbofgkaa
open Go.RowKit Go.Shelf
set_option linter.unusedVariables false

/-- The sum of the first k. -/
def sumTo (zs : List Int) : Nat → Int
  | 0 => 0
  | k + 1 => sumTo zs k + zs.getD k 0
/-- Words. -/
def Words (zs : List Int) : Prop := ∀ i, 0 ≤ zs.getD i 0 ∧ zs.getD i 0 ≤ 18446744073709551615
theorem words_of {zs : List Int} (h : ∀ z ∈ zs, 0 ≤ z ∧ z ≤ 18446744073709551615) : Words zs := by
  intro i
  rw [List.getD_eq_getElem?_getD]
  rcases Nat.lt_or_ge i zs.length with hi | hi
  · rw [List.getElem?_eq_getElem hi]
    exact h _ (List.getElem_mem hi)
  · rw [List.getElem?_eq_none hi]
    exact ⟨by decide, by decide⟩
theorem sumTo_le {zs : List Int} (h : Words zs) {k n : Nat} (hk : k ≤ n) : sumTo zs k ≤ sumTo zs n := by
  induction n with
  | zero => obtain rfl : k = 0 := by omega
            exact Int.le_refl _
  | succ n ih =>
    rcases Nat.lt_or_ge n k with hlt | hge
    · obtain rfl : k = n + 1 := by omega
      exact Int.le_refl _
    · exact Int.le_trans (ih hge) (by show _ ≤ sumTo zs n + zs.getD n 0; have := h n; omega)
theorem sumTo0 {zs : List Int} (h : Words zs) (k : Nat) : 0 ≤ sumTo zs k := sumTo_le h (Nat.zero_le k)

namespace Fix
/-- A product, as the program keeps it. -/
abbrev PV (P : Int) : Value := .agg #[.int .u64 (hi P), .int .u64 (lo P)]

theorem word_small (H L : Int) (w : World) (h : H = 0) :
    Calls Try.prog 74 #[.agg #[.int .u64 H, .int .u64 L]] w fun e w' => e = .returned (.tuple #[.int .u64 L, .int .i64 0]) ∧ ∃ c, w.alloc (.cells c 103) = w' := by
  subst h
  go_enter Try.func74, Try.ntmps74
  go_wp2
  go_ret2
  exact ⟨rfl, _, rfl⟩

theorem word_great (H L : Int) (w : World) (h : (H == 0) = false) :
    Calls Try.prog 74 #[.agg #[.int .u64 H, .int .u64 L]] w fun e w' => e = .returned (.tuple #[.int .u64 0, .int .i64 12]) ∧ ∃ c, w.alloc (.cells c 103) = w' := by
  go_enter Try.func74, Try.ntmps74
  go_wp2
  go_ret2
  exact ⟨rfl, _, rfl⟩

/-- A number as an amount, or 0 and ErrOver. -/
def amt (P : Int) : Int := if P < 18446744073709551616 then P else 0
def amtE (P : Int) : Int := if P < 18446744073709551616 then 0 else 12
theorem amt_of {P : Int} (h : P ≤ 18446744073709551615) : amt P = P ∧ amtE P = 0 := by unfold amt amtE; rw [if_pos (by omega), if_pos (by omega)]; exact ⟨rfl, rfl⟩
theorem amt_no {P : Int} (h : 18446744073709551615 < P) : amt P = 0 ∧ amtE P = 12 := by unfold amt amtE; rw [if_neg (by omega), if_neg (by omega)]; exact ⟨rfl, rfl⟩
theorem amt0 {P : Int} (h : 0 ≤ P) : 0 ≤ amt P := by unfold amt; split <;> omega
theorem amt1 {P : Int} : amt P ≤ 18446744073709551615 := by unfold amt; split <;> omega

theorem word (P : Int) (w : World) (h0 : 0 ≤ P) :
    Calls Try.prog 74 #[PV P] w fun e w' => e = .returned (.tuple #[.int .u64 (amt P), .int .i64 (amtE P)]) ∧ ∃ c, w.alloc (.cells c 103) = w' := by
  rcases Int.lt_or_le 18446744073709551615 P with h | h
  · obtain ⟨e1, e2⟩ := amt_no h
    rw [e1, e2]
    exact word_great _ _ _ (by rw [beq_eq_false_iff_ne]; unfold hi; omega)
  · obtain ⟨e1, e2⟩ := amt_of h
    rw [e1, e2, show P = lo P by unfold lo; omega]
    refine word_small _ _ _ (by unfold lo hi; omega) |>.mono fun e w' h => ⟨h.1.trans ?_, h.2⟩
    rw [show lo (lo P) = lo P by unfold lo; omega]

theorem add (a b : Int) (w : World) (a0 : 0 ≤ a) (a1 : a ≤ 18446744073709551615) (b0 : 0 ≤ b) (b1 : b ≤ 18446744073709551615) :
    Calls Try.prog 60 #[.int .u64 a, .int .u64 b] w fun e w' => e = .returned (.tuple #[.int .u64 (amt (a + b)), .int .i64 (amtE (a + b))]) ∧ Kk.Bel w w' := by
  go_enter Try.func60, Try.ntmps60
  go_wp2_with (first | simp only [add64_0 a b a0 b0] | (go_at_call 74; refine (word (a + b) _ (by omega)).mono ?_; rintro e w' ⟨rfl, x, rfl⟩))
  go_ret2
  exact ⟨rfl, (Kk.Bel.refl _).alloc _⟩

theorem sub_ok (a b : Int) (w : World) (a0 : 0 ≤ a) (a1 : a ≤ 18446744073709551615) (b0 : 0 ≤ b) (b1 : b ≤ a) :
    Calls Try.prog 68 #[.int .u64 a, .int .u64 b] w fun e w' => e = .returned (.tuple #[.int .u64 (a - b), .int .i64 0]) ∧ w = w' := by
  go_enter Try.func68, Try.ntmps68
  go_wp2
  go_ret2
  exact ⟨rfl, rfl⟩
theorem sub_no (a b : Int) (w : World) (b1 : a < b) :
    Calls Try.prog 68 #[.int .u64 a, .int .u64 b] w fun e w' => e = .returned (.tuple #[.int .u64 0, .int .i64 13]) ∧ w = w' := by
  go_enter Try.func68, Try.ntmps68
  go_wp2
  go_ret2
  exact ⟨rfl, rfl⟩
end Fix
namespace Ref
open Fix
theorem add (a b : Int) (w : World) (a0 : 0 ≤ a) (a1 : a ≤ 18446744073709551615) (b0 : 0 ≤ b) (b1 : b ≤ 18446744073709551615) :
    Calls Try.prog 62 #[.int .u64 a, .int .u64 b] w fun e w' => e = .returned (.tuple #[.int .u64 (amt (a + b)), .int .i64 (amtE (a + b))]) ∧ w = w' := by
  rcases Int.lt_or_le 18446744073709551615 (a + b) with h | h
  · obtain ⟨e1, e2⟩ := amt_no h
    rw [e1, e2]
    clear e1 e2
    go_enter Try.func62, Try.ntmps62
    go_wp2
    go_ret2
    exact ⟨rfl, rfl⟩
  · obtain ⟨e1, e2⟩ := amt_of h
    rw [e1, e2]
    clear e1 e2
    go_enter Try.func62, Try.ntmps62
    go_wp2
    go_ret2
    exact ⟨rfl, rfl⟩

end Ref
end Go.Proofs.Ytogphhhlbofgkaa
