/-
  What zeros answers: a text of noughts. Condition: at most 1000.
-/
import Derived.Test.YtaniijpppmipbaaDoorKEq
import Derived.Laws.Concat
namespace Go.Proofs.YtaniijpppmipbaaDoor
open Go.RowKit Go.Shelf
set_option linter.unusedVariables false
namespace Kk

def nought (k : Nat) : ByteArray := ⟨(List.replicate k (48 : UInt8)).toArray⟩
theorem nought_size (k : Nat) : (nought k).size = k := by
  show (List.replicate k (48 : UInt8)).toArray.size = k
  simp
theorem nought_succ (k : Nat) : nought k ++ ⟨#[48]⟩ = nought (k + 1) := by
  show ByteArray.mk (List.replicate k (48 : UInt8)).toArray ++ ByteArray.mk [48].toArray = _
  rw [ByteArray.mk_append_mk, nought, List.replicate_succ']

set_option maxRecDepth 100000 in
theorem zeros (n : Nat) (hn : n ≤ 1000) (w : World) :
    Calls Tryd.prog 33 #[.int .i64 (n : Int)] w fun e w' => e = .returned (.string (nought n)) ∧ w = w' := by
  go_enter Tryd.func33, Tryd.ntmps33
  go_wp2
  go_loop [3, 4] (fun r i => ∃ k : Nat, k ≤ n ∧ i = .int .i64 k ∧ r = .string (nought k)) (fun _ i => n - (intOf i).toNat)
  case atStart => exact ⟨0, Nat.zero_le _, rfl, rfl⟩
  case round =>
    obtain ⟨k, hk, rfl, rfl⟩ := hrel
    have hadd : (Op.stringOp .add (nought k) ⟨#[48]⟩).run Tryd.prog w = .ok (.string (nought (k + 1))) w := by
      rw [run_string_add_sum w _ _ (by rw [nought_size]; show k + 1 ≤ _; omega), nought_succ]
    by_cases hlt : k < n
    · have hlt' : (k : Int) < (n : Int) := by omega
      go_wp2
      exact ⟨⟨k + 1, by omega, by go_num, rfl⟩, by simp [intOf] <;> omega⟩
    · obtain rfl : k = n := by omega
      go_wp2
      go_ret
      exact ⟨rfl, rfl⟩
end Kk
end Go.Proofs.YtaniijpppmipbaaDoor
