/-
  What the reference's reader answers: take, Blob.
  Conditions: the reader is one that the reference's NewReader made of at most 10^6 bytes.
-/
import Derived.Test.YthdcgkikhindiaaGQRead3
namespace Go.Proofs.Ythdcgkikhindiaa
open Go.RowKit Go.Shelf
set_option linter.unusedVariables false
namespace Cd

theorem head_sl (A : Option Addr) (n c k m : Nat) (zs : List Int) (w : World) (hi : Sl w A n c zs) (hk : k + m ≤ n) :
    ∃ A', (∀ w' : World, (Instr.slice 43 (.slice A n c) (some (.int .i64 (k : Int))) (some (.int .i64 ((k : Int) + (m : Int)))) none).run Try.prog w' = .ok (.slice A' m (c - k)) w') ∧ Sl w A' m (c - k) ((zs.drop k).take m) := by
  have hc := hi.cap
  refine ⟨if c = k then A else A.map (·.add (k * 1)), fun w' => ?_, hi.ints.part hk hc, by omega, fun h => ?_⟩
  · have h := slice_lh A n c k ((k : Int) + (m : Int)) w' (by omega) (by omega) (by omega)
    rw [show ((k : Int) + (m : Int)).toNat = k + m by omega] at h
    simp only [Int.toNat_natCast, Nat.add_sub_cancel_left] at h
    exact h
  · by_cases e : c = k
    · omega
    · rw [if_neg e] at h
      cases A with
      | none => have := hi.nil rfl; omega
      | some x => cases h

end Cd
end Go.Proofs.Ythdcgkikhindiaa
