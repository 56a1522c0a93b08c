/-
  What U of a reader answers in this program.
  Conditions: the reader is one that NewReader made of at most 10^6 bytes.
-/
import Derived.Deep.RegionHeld3
import Derived.Deep.DeepCutAuto
import Derived.Test.YtahhnfnonekbmaaGReader
namespace Go.Proofs.Ytahhnfnonekbmaa
open Go.RowKit Go.Shelf
set_option linter.unusedVariables false
namespace Cd

/-- How a reader moves on behind an item: where the item ends, or its fault. -/
def Moves (k : Nat) (tl e bad : Int) (k' : Nat) (f' : Option (Int × Int)) : Prop := (e = 0 ∧ (k' : Int) = tl ∧ f' = none) ∨ (e ≠ 0 ∧ k' = k ∧ f' = some (e, bad))

theorem laid (w : World) (t : TypeId) : ∀ w1, Bel (w.alloc (.cells #[.int .i64 0, .int .i64 0] t)).drew w1 → w1.cell? ⟨w.heap.size, 0, none⟩ = some (.int .i64 0) ∧ w1.cell? ⟨w.heap.size, 1, none⟩ = some (.int .i64 0) ∧ w1.frozen? ⟨w.heap.size, 0, none⟩ = false ∧ w1.frozen? ⟨w.heap.size, 1, none⟩ = false ∧ Hid (Blk w1 w.heap.size #[.int .i64 0, .int .i64 0] t) := by
  intro w1 hb
  have h := (Blk.new w #[.int .i64 0, .int .i64 0] t).bel (((Bel.refl _).drew).trans hb)
  exact ⟨h.cell 0 rfl, h.cell 1 rfl, h.frozen 0, h.frozen 1, h⟩

end Cd
end Go.Proofs.Ytahhnfnonekbmaa
