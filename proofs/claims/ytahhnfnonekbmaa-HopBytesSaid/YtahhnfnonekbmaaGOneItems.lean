/-
  What U, Hash and Blob of a reader without a fault answer in this program: the reader's bytes lie where they lay.
  Conditions: the reader is one that NewReader made of at most 10^6 bytes.
-/
import Derived.Test.YtahhnfnonekbmaaGOneMath
namespace Go.Proofs.Ytahhnfnonekbmaa
open Go.RowKit Go.Shelf
set_option linter.unusedVariables false
namespace Cd

/-- A reader whose bytes lie at a known place, and whose fault is new. -/
def RX (w : World) (b : Nat) (A : Option Addr) (n c : Nat) (zs : List Int) (k : Nat) (f : Option (Int × Int)) (base : Nat) : Prop :=
  ∃ F, RSt w b A n c zs k F ∧ Flt w b F f ∧ ∀ x : Addr, F = some x → base ≤ x.block
theorem RX.rs {w : World} {b : Nat} {A : Option Addr} {n c : Nat} {zs : List Int} {k : Nat} {f : Option (Int × Int)} {base : Nat} (h : RX w b A n c zs k f base) : RS w b zs k f := by
  obtain ⟨F, h1, h2, _⟩ := h
  exact ⟨A, n, c, F, h1, h2⟩
theorem RX.rst {w : World} {b : Nat} {A : Option Addr} {n c : Nat} {zs : List Int} {k : Nat} {base : Nat} (h : RX w b A n c zs k none base) : RSt w b A n c zs k none := by
  obtain ⟨F, h1, ⟨_, rfl⟩ | ⟨_, _, _, h2, _⟩, _⟩ := h
  · exact h1
  · cases h2

end Cd
end Go.Proofs.Ytahhnfnonekbmaa
