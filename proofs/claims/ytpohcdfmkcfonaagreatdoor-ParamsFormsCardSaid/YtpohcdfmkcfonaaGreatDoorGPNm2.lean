/-
  The kit's SameTexts and OverTexts of lists of the eleven names. No condition.
-/
import Derived.Test.YtpohcdfmkcfonaaGreatDoorGPNm
namespace Go.Proofs.YtpohcdfmkcfonaaGreatDoor
open Go.RowKit Go.Shelf
set_option linter.unusedVariables false
namespace Pm
open Kk

/-- A row whose eleven cells are the names. -/
def Nms (w : World) (b : Nat) : Prop := ∀ i, i < 11 → w.cell? ⟨b, i, none⟩ = some (.string (nm i))
theorem Nms.bel {w w' : World} {b : Nat} (h : Nms w b) (hb : Bel w w') : Nms w' b := fun i hi => cell_bel (h i hi) hb
theorem nms_own {w : World} {base : Nat} {v : Value} (h : w.ownsRow base 9 1 v 11 (nms.map Value.string)) : ∃ g c, v = .slice (some ⟨g, 0, none⟩) 11 c ∧ base ≤ g ∧ Nms w g := by
  rcases h.2 with ⟨rfl, h0⟩ | ⟨g, cap, cur, rfl, hb, r⟩
  · omega
  · refine ⟨g, cap, rfl, hb, fun i hi => ?_⟩
    have := h.cellAt i (by omega)
    rw [this, List.getElem?_map, List.getElem?_eq_getElem (by rw [nms_len]; exact hi)]
    unfold nm
    rw [List.getD_eq_getElem?_getD, List.getElem?_eq_getElem (by rw [nms_len]; exact hi)]
    rfl

end Pm
end Go.Proofs.YtpohcdfmkcfonaaGreatDoor
