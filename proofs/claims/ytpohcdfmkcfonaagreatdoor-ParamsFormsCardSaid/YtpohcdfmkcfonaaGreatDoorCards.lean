/-
  DERIVED. GIVEN WITH THE SEED: THE CARDS: each row of YtpohcdfmkcfonaaGreatDoorRows.lean that lists a variable, with what it lists TIED to the program's text (the seventh form; the later family's looks); each row that meets fmt, with fmt's text TOLD by the authors' own Lean function (tested against real Go, not proved from fmt's source: count such statements apart). THE CARD IS WHAT COUNTS. Prove the row's statement (the work); the ties are given (YtpohcdfmkcfonaaGreatDoorTie.lean); close each card by the builder's one call (the guide's Derived/Test/ToyasCard.lean, 'card_holds'). Laid BY PROGRAM, IN A SANDBOX (cutbox-door.mjs). By AI agents, Wed Nov 11 2026. No macro, syntax, notation, axiom, sorry.
-/
import Derived.Test.YtpohcdfmkcfonaaGreatDoorRows
import GoSem.ClaimSeven
namespace Go.Proofs.YtpohcdfmkcfonaaGreatDoor
namespace Rows

/-- THE TIED CARD OF 'distraintlaw07.ParamsForms'. -/
def paramsFormsCard : Claim7 := { stood := { row := paramsFormsRow, standIns := [], harness := (true, "29075899dc39f6bc34fe63bd4dff3f55edfd4d3109716a36f4971e9862864bcc"), looks := false }, kinds := [], alts := [], laidByText := true, laidKinds := [.data, .data, .data, .data, .pinned], laidTests := true, laidLooks := .later }
def ParamsFormsCardSaid : Prop := Claim7.holds Tryz.pinned (.plain (OpenSpec.ofChange paramsFormsSpec)) paramsFormsCard

/-- THE SECOND FORM's CARD OF 'distraintlaw07.ParamsForms'. -/
def paramsFormsUptoCard : Claim7 := { stood := { row := paramsFormsUptoRow, standIns := [], harness := (true, "29075899dc39f6bc34fe63bd4dff3f55edfd4d3109716a36f4971e9862864bcc"), looks := false }, kinds := [], alts := [], laidByText := true, laidKinds := [.data, .data, .data, .data, .pinned], laidTests := true, laidLooks := .later }
def ParamsFormsUptoCardSaid : Prop := Claim7.holds Tryz.pinned (.plain (OpenSpec.upto paramsFormsSpec)) paramsFormsUptoCard
end Rows
end Go.Proofs.YtpohcdfmkcfonaaGreatDoor
