/-
  What math/bits.RotateLeft64 answers in this program: the word turned to the left. Condition: from 0 to 63 bits.
-/
import Derived.Test.YtaniijpppmipbaaDoorKMath
import Derived.Test.YtaniijpppmipbaaDoorKMem
namespace Go.Proofs.YtaniijpppmipbaaDoor
open Go.RowKit Go.Shelf
set_option linter.unusedVariables false
namespace Kk

theorem and63 {k : Int} (h0 : 0 ≤ k) (h1 : k ≤ 63) : bits .and .u64 k 63 = k := by
  obtain ⟨n, rfl⟩ := Int.eq_ofNat_of_zero_le h0
  have hn : n < 64 := by omega
  have : ∀ m : Fin 64, bits .and .u64 ((m.1 : Nat) : Int) 63 = ((m.1 : Nat) : Int) := by decide +kernel
  exact this ⟨n, hn⟩

theorem rotl (x : Wd) (k : Nat) (w : World) (hk : k ≤ 63) :
    Calls Tryd.prog 66 #[.int .u64 (U x), .int .i64 (k : Int)] w fun e w' => e = .returned (.int .u64 (U (rot x k))) ∧ w = w' := by
  have h0 := U0 x
  have h1 := U1 x
  have h2 : (k : Int) ≤ 63 := by omega
  have E := and63 (k := (k : Int)) (by omega) h2
  have T := rot_u x k
  go_enter Tryd.func66, Tryd.ntmps66
  go_wp2
  go_ret
  exact ⟨rfl, rfl⟩
end Kk
end Go.Proofs.YtaniijpppmipbaaDoor
