/-
  distraintkit.Pick among three; whether a reader has a fault.
  Conditions: the reader is one that NewReader made of at most 10^6 bytes.
-/
import Derived.Test.YtagcpphkabkgjaaOneMath
namespace Go.Proofs.Ytagcpphkabkgjaa
open Go.RowKit Go.Shelf
set_option linter.unusedVariables false
namespace Cd

theorem RS.le {w : World} {b : Nat} {zs : List Int} {k : Nat} {f : Option (Int × Int)} (h : RS w b zs k f) : k ≤ zs.length ∧ zs.length ≤ 1000000 := by
  obtain ⟨A, n, c, F, h1, _⟩ := h
  rw [h1.sl.len]
  exact ⟨h1.le, h1.len⟩
theorem RS.lt {w : World} {b : Nat} {zs : List Int} {k : Nat} {f : Option (Int × Int)} (h : RS w b zs k f) : b < w.heap.size := by
  obtain ⟨A, n, c, F, h1, _⟩ := h
  exact h1.blk.lt

end Cd
end Go.Proofs.Ytagcpphkabkgjaa
