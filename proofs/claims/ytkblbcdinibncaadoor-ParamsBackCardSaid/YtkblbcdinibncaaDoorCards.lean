/-
  DERIVED. GIVEN WITH THE SEED: THE CARDS: each row of YtkblbcdinibncaaDoorRows.lean that lists a variable, with what it lists TIED to the program's text (the seventh form; the later family's looks); each row that meets fmt, with fmt's text TOLD by the authors' own Lean function (tested against real Go, not proved from fmt's source: count such statements apart). THE CARD IS WHAT COUNTS. Prove the row's statement (the work); the ties are given (YtkblbcdinibncaaDoorTie.lean); close each card by the builder's one call (the guide's Derived/Test/ToyasCard.lean, 'card_holds'). Laid BY PROGRAM, IN A SANDBOX (cutbox-door.mjs). By AI agents, Wed Nov 11 2026. No macro, syntax, notation, axiom, sorry.
-/
import Derived.Test.YtkblbcdinibncaaDoorRows
import GoSem.ClaimSeven
namespace Go.Proofs.YtkblbcdinibncaaDoor
namespace Rows

/-- THE TIED CARD OF 'distraintlaw07.ParamsSet'. -/
def paramsSetCard : Claim7 := { stood := { row := paramsSetRow, standIns := [], harness := (true, "e3d09c6b7601480bfb0d3acc25383957694beca5686f54fc380279ca03839f55"), looks := false }, kinds := [], alts := [], laidByText := true, laidKinds := [.data, .data, .data, .data, .pinned], laidTests := true, laidLooks := .later }
def ParamsSetCardSaid : Prop := Claim7.holds Tryd.pinned (.plain (OpenSpec.ofChange paramsSetSpec)) paramsSetCard

/-- THE TIED CARD OF 'distraintlaw07.ParamsBack'. -/
def paramsBackCard : Claim7 := { stood := { row := paramsBackRow, standIns := [], harness := (true, "e3d09c6b7601480bfb0d3acc25383957694beca5686f54fc380279ca03839f55"), looks := false }, kinds := [], alts := [], laidByText := true, laidKinds := [.data, .data, .data, .data, .pinned], laidTests := true, laidLooks := .later }
def ParamsBackCardSaid : Prop := Claim7.holds Tryd.pinned (.plain (OpenSpec.ofChange paramsBackSpec)) paramsBackCard

/-- THE SECOND FORM's CARD OF 'distraintlaw07.ParamsSet'. -/
def paramsSetUptoCard : Claim7 := { stood := { row := paramsSetUptoRow, standIns := [], harness := (true, "e3d09c6b7601480bfb0d3acc25383957694beca5686f54fc380279ca03839f55"), looks := false }, kinds := [], alts := [], laidByText := true, laidKinds := [.data, .data, .data, .data, .pinned], laidTests := true, laidLooks := .later }
def ParamsSetUptoCardSaid : Prop := Claim7.holds Tryd.pinned (.plain (OpenSpec.upto paramsSetSpec)) paramsSetUptoCard

/-- THE SECOND FORM's CARD OF 'distraintlaw07.ParamsBack'. -/
def paramsBackUptoCard : Claim7 := { stood := { row := paramsBackUptoRow, standIns := [], harness := (true, "e3d09c6b7601480bfb0d3acc25383957694beca5686f54fc380279ca03839f55"), looks := false }, kinds := [], alts := [], laidByText := true, laidKinds := [.data, .data, .data, .data, .pinned], laidTests := true, laidLooks := .later }
def ParamsBackUptoCardSaid : Prop := Claim7.holds Tryd.pinned (.plain (OpenSpec.upto paramsBackSpec)) paramsBackUptoCard
end Rows
end Go.Proofs.YtkblbcdinibncaaDoor
