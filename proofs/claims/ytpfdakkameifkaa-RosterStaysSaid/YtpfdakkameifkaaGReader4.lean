/-
  What Blob of a reader answers in this program, and its items in general.
  Conditions: the reader is one that NewReader made of at most 10^6 bytes.
-/
import Derived.Test.YtpfdakkameifkaaGReader3
namespace Go.Proofs.Ytpfdakkameifkaa
open Go.RowKit Go.Shelf
set_option linter.unusedVariables false
namespace Cd

/-- What Blob tells: the bytes, the place behind them, or a fault. -/
def BWay (zs : List Int) (k : Nat) (most : Int) (ys : List Int) (tl e bad : Int) : Prop :=
  ∃ x0 t0 e0 b0, Way zs k x0 t0 e0 b0 ∧ 0 ≤ x0 ∧ x0 ≤ 18446744073709551615 ∧ ((e0 ≠ 0 ∧ ys = [] ∧ tl = 0 ∧ e = e0 ∧ bad = b0) ∨ (e0 = 0 ∧ (most < 0 ∨ most < x0) ∧ ys = [] ∧ tl = 0 ∧ e = 4 ∧ bad = k) ∨
    (∃ t : Nat, t0 = t ∧ t ≤ zs.length ∧ e0 = 0 ∧ 0 ≤ most ∧ x0 ≤ most ∧ (zs.length : Int) - t < x0 ∧ ys = [] ∧ tl = 0 ∧ e = 6 ∧ bad = k) ∨
    (∃ t m : Nat, t0 = t ∧ x0 = m ∧ t + m ≤ zs.length ∧ e0 = 0 ∧ 0 ≤ most ∧ x0 ≤ most ∧ ys = (zs.drop t).take m ∧ tl = ((t + m : Nat) : Int) ∧ e = 0 ∧ bad = 0))
abbrev gotV (v : Value) (tl e bad : Int) : Value := .tuple #[v, .int .i64 tl, .agg #[.int .i64 e, .int .i64 bad]]

/-- A part of a slice, as the program cuts it. -/
theorem sl_part {A : Option Addr} {n c : Nat} {zs : List Int} {w : World} (hs : Sl w A n c zs) (k m : Nat) (hk : k + m ≤ n) :
    ∃ A', (∀ w' : World, (Instr.slice 47 (.slice A n c) (some (.int .i64 (k : Int))) (some (.int .i64 ((k + m : Nat) : Int))) none).run Try.prog w' = .ok (.slice A' m (c - k)) w') ∧ Sl w A' m (c - k) ((zs.drop k).take m) := by
  have hc := hs.cap
  refine ⟨_, fun w' => ?_, hs.ints.part hk hc, by omega, fun h => ?_⟩
  · rw [slice_lh A n c k ((k + m : Nat) : Int) w' (by omega) (by omega) (by omega)]
    simp only [Int.toNat_natCast, Nat.add_sub_cancel_left]
  · split at h
    · omega
    · have : A = none := by cases A with | none => rfl | some a => simp at h
      have := hs.nil this
      omega

end Cd
end Go.Proofs.Ytpfdakkameifkaa
