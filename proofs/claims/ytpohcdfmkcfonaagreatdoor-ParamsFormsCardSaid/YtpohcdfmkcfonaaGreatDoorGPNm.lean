/-
  What the program's Names answers, and the kit's SameTexts and OverTexts of such lists. No condition.
-/
import Derived.Test.YtpohcdfmkcfonaaGreatDoorPB
namespace Go.Proofs.YtpohcdfmkcfonaaGreatDoor
open Go.RowKit Go.Shelf
set_option linter.unusedVariables false
namespace Pm
open Kk

theorem info_str : (Tryz.prog.info? 9).map (fun i => (i.zero, i.size, i.bytes)) = some (some (.string ⟨#[]⟩), 1, 16) := by kernel_rfl
/-- The names, in a new row. -/
def NmE (w : World) (e : Ending) (w' : World) : Prop := ∃ v, e = .returned v ∧ w'.ownsRow w.heap.size 9 1 v 11 (nms.map Value.string) ∧ Bel w w'
theorem nms_take (k : Nat) (hk : k < 11) : (nms.take (k + 1)).map Value.string = (nms.take k).map Value.string ++ [.string (nm k)] := by
  rw [List.take_succ_eq_append_getElem (by rw [nms_len]; exact hk), List.map_append]
  unfold nm
  rw [List.getD_eq_getElem?_getD, List.getElem?_eq_getElem (by rw [nms_len]; exact hk)]
  rfl
theorem nms_all : (nms.take 11).map Value.string = nms.map Value.string := rfl

end Pm
end Go.Proofs.YtpohcdfmkcfonaaGreatDoor
