/-
  DERIVED. GIVEN WITH THE SEED: THE CARDS: each row of YtagkphjneapoiaaDoorRows.lean that lists a variable, with what it lists TIED to the program's text (the seventh form; the later family's looks); each row that meets fmt, with fmt's text TOLD by the authors' own Lean function (tested against real Go, not proved from fmt's source: count such statements apart). THE CARD IS WHAT COUNTS. Prove the row's statement (the work); the ties are given (YtagkphjneapoiaaDoorTie.lean); close each card by the builder's one call (the guide's Derived/Test/ToyasCard.lean, 'card_holds'). Laid BY PROGRAM, IN A SANDBOX (cutbox-door.mjs). By AI agents, Wed Nov 11 2026. No macro, syntax, notation, axiom, sorry.
-/
import Derived.Test.YtagkphjneapoiaaDoorRows
import GoSem.ClaimSeven
namespace Go.Proofs.YtagkphjneapoiaaDoor
namespace Rows

/-- THE TIED CARD OF 'distraintlaw07.ParamsTell'. -/
def paramsTellCard : Claim7 := { stood := { row := paramsTellRow, standIns := [], harness := (true, "4271968c73670b9c27bda954a8646cacae348b023bf6fe09f63b2d6791cbcac9"), looks := false }, kinds := [], alts := [], laidByText := true, laidKinds := [.data, .data, .data], laidTests := true, laidLooks := .later }
def ParamsTellCardSaid : Prop := Claim7.holds Tryd.pinned (.plain (OpenSpec.ofChange paramsTellSpec)) paramsTellCard

/-- THE TIED CARD OF 'distraintlaw07.ParamsKnown'. -/
def paramsKnownCard : Claim7 := { stood := { row := paramsKnownRow, standIns := [], harness := (true, "4271968c73670b9c27bda954a8646cacae348b023bf6fe09f63b2d6791cbcac9"), looks := false }, kinds := [], alts := [], laidByText := true, laidKinds := [.data, .data, .data, .data, .pinned], laidTests := true, laidLooks := .later }
def ParamsKnownCardSaid : Prop := Claim7.holds Tryd.pinned (.plain (OpenSpec.ofChange paramsKnownSpec)) paramsKnownCard

/-- THE TIED CARD OF 'distraintlaw07.ParamsSet'. -/
def paramsSetCard : Claim7 := { stood := { row := paramsSetRow, standIns := [], harness := (true, "4271968c73670b9c27bda954a8646cacae348b023bf6fe09f63b2d6791cbcac9"), looks := false }, kinds := [], alts := [], laidByText := true, laidKinds := [.data, .data, .data, .data, .pinned], laidTests := true, laidLooks := .later }
def ParamsSetCardSaid : Prop := Claim7.holds Tryd.pinned (.plain (OpenSpec.ofChange paramsSetSpec)) paramsSetCard

/-- THE TIED CARD OF 'distraintlaw07.ParamsBack'. -/
def paramsBackCard : Claim7 := { stood := { row := paramsBackRow, standIns := [], harness := (true, "4271968c73670b9c27bda954a8646cacae348b023bf6fe09f63b2d6791cbcac9"), looks := false }, kinds := [], alts := [], laidByText := true, laidKinds := [.data, .data, .data, .data, .pinned], laidTests := true, laidLooks := .later }
def ParamsBackCardSaid : Prop := Claim7.holds Tryd.pinned (.plain (OpenSpec.ofChange paramsBackSpec)) paramsBackCard

/-- THE SECOND FORM's CARD OF 'distraintlaw07.ParamsTell'. -/
def paramsTellUptoCard : Claim7 := { stood := { row := paramsTellUptoRow, standIns := [], harness := (true, "4271968c73670b9c27bda954a8646cacae348b023bf6fe09f63b2d6791cbcac9"), looks := false }, kinds := [], alts := [], laidByText := true, laidKinds := [.data, .data, .data], laidTests := true, laidLooks := .later }
def ParamsTellUptoCardSaid : Prop := Claim7.holds Tryd.pinned (.plain (OpenSpec.upto paramsTellSpec)) paramsTellUptoCard

/-- THE SECOND FORM's CARD OF 'distraintlaw07.ParamsKnown'. -/
def paramsKnownUptoCard : Claim7 := { stood := { row := paramsKnownUptoRow, standIns := [], harness := (true, "4271968c73670b9c27bda954a8646cacae348b023bf6fe09f63b2d6791cbcac9"), looks := false }, kinds := [], alts := [], laidByText := true, laidKinds := [.data, .data, .data, .data, .pinned], laidTests := true, laidLooks := .later }
def ParamsKnownUptoCardSaid : Prop := Claim7.holds Tryd.pinned (.plain (OpenSpec.upto paramsKnownSpec)) paramsKnownUptoCard

/-- THE SECOND FORM's CARD OF 'distraintlaw07.ParamsSet'. -/
def paramsSetUptoCard : Claim7 := { stood := { row := paramsSetUptoRow, standIns := [], harness := (true, "4271968c73670b9c27bda954a8646cacae348b023bf6fe09f63b2d6791cbcac9"), looks := false }, kinds := [], alts := [], laidByText := true, laidKinds := [.data, .data, .data, .data, .pinned], laidTests := true, laidLooks := .later }
def ParamsSetUptoCardSaid : Prop := Claim7.holds Tryd.pinned (.plain (OpenSpec.upto paramsSetSpec)) paramsSetUptoCard

/-- THE SECOND FORM's CARD OF 'distraintlaw07.ParamsBack'. -/
def paramsBackUptoCard : Claim7 := { stood := { row := paramsBackUptoRow, standIns := [], harness := (true, "4271968c73670b9c27bda954a8646cacae348b023bf6fe09f63b2d6791cbcac9"), looks := false }, kinds := [], alts := [], laidByText := true, laidKinds := [.data, .data, .data, .data, .pinned], laidTests := true, laidLooks := .later }
def ParamsBackUptoCardSaid : Prop := Claim7.holds Tryd.pinned (.plain (OpenSpec.upto paramsBackSpec)) paramsBackUptoCard
end Rows
end Go.Proofs.YtagkphjneapoiaaDoor
