/-
  What the row's premise tells ParamsKnown's walk: five tables lie in their variables. No condition.
-/
import Derived.Lay
import Derived.Test.YtkblbcdinibncaaDoorGPLift
import Derived.Test.YtkblbcdinibncaaDoorGPKn
namespace Go.Proofs.YtkblbcdinibncaaDoor
open Go.ChangeShapes Go.WideShapes Go.ChangeAt Go.RowKit
set_option linter.unusedVariables false
set_option maxRecDepth 100000

abbrev laid5 : List (String × DataW Unit) := [("math/bits.deBruijn32tab", Rows.laid_math_bits_deBruijn32tab), ("math/bits.deBruijn64tab", Rows.laid_math_bits_deBruijn64tab), ("internal/strconv.uint64pow10", Rows.laid_internal_strconv_uint64pow10), ("unicode/utf8.acceptRanges", Rows.laid_unicode_utf8_acceptRanges), ("unicode/utf8.first", Rows.laid_unicode_utf8_first)]
/-- What the premise gives the walks. -/
theorem of_laid5 {W : World} (h : laidMetH Tryd.prog laid5 W) : Pm.Tab W := by
  rw [MakeChecks.laidMetH_plain _ _ _ (by kernel_rfl)] at h
  obtain ⟨ps, ⟨_, _, _, _, _, _, _, _, _, _, ⟨_, _, _, _, _, _, _, _, _, _, ⟨g0, t0, cs0, f0, p0, q0, hg0, ht0, hv0, hd0, _⟩, _⟩, _⟩, _⟩ := h
  have hg : Tryd.prog.globalNamed "internal/strconv.uint64pow10" = some 0 := by kernel_rfl
  have ht : (Tryd.prog.globals[0]?).map (·.type) = some 128 := by kernel_rfl
  obtain rfl := Option.some.inj (hg.symm.trans hg0)
  obtain rfl := Option.some.inj (ht.symm.trans ht0)
  have e : Rows.laid_internal_strconv_uint64pow10 = Lib.tabData (H := Unit) .u64 Lib.pow10Tab := by rfl
  unfold Pm.Tab Lib.TabIs
  rw [hv0, ← Lib.cells_of_tab Tryd.underlying128 Tryd.underlying23 (by kernel_rfl) (by kernel_rfl) (by rw [← e]; exact hd0)]
theorem Pm.knownLaw (w : World) (ht : Pm.Tab w) :
    Calls Tryd.prog 5 #[] w fun e w' => e = .returned (.bool true) ∧ Below w.heap.size w w' := Pm.known w ht
end Go.Proofs.YtkblbcdinibncaaDoor
