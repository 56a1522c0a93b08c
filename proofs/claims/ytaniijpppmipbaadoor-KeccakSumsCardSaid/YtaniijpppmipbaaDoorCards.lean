/-
  DERIVED. GIVEN WITH THE SEED: THE CARDS: each row of YtaniijpppmipbaaDoorRows.lean that lists a variable, with what it lists TIED to the program's text (the seventh form; the later family's looks); each row that meets fmt, with fmt's text TOLD by the authors' own Lean function (tested against real Go, not proved from fmt's source: count such statements apart). THE CARD IS WHAT COUNTS. Prove the row's statement (the work); the ties are given (YtaniijpppmipbaaDoorTie.lean); close each card by the builder's one call (the guide's Derived/Test/ToyasCard.lean, 'card_holds'). Laid BY PROGRAM, IN A SANDBOX (cutbox-door.mjs). By AI agents, Wed Nov 11 2026. No macro, syntax, notation, axiom, sorry.
-/
import Derived.Test.YtaniijpppmipbaaDoorRows
import GoSem.ClaimSeven
namespace Go.Proofs.YtaniijpppmipbaaDoor
namespace Rows

/-- THE TIED CARD OF 'distraintlaw03.KeccakSums'. -/
def keccakSumsCard : Claim7 := { stood := { row := keccakSumsRow, standIns := [], harness := (true, "cfe71de9769bc41cd1a29f55c4ebd5931c9f89850acf2ff31eada9de89560b6e"), looks := false }, kinds := [], alts := [], laidByText := true, laidKinds := [.data], laidTests := true, laidLooks := .later }
def KeccakSumsCardSaid : Prop := Claim7.holds Tryd.pinned (.plain (OpenSpec.ofChange keccakSumsSpec)) keccakSumsCard

/-- THE TIED CARD OF 'distraintlaw03.KeccakPieces'. -/
def keccakPiecesCard : Claim7 := { stood := { row := keccakPiecesRow, standIns := [], harness := (true, "cfe71de9769bc41cd1a29f55c4ebd5931c9f89850acf2ff31eada9de89560b6e"), looks := false }, kinds := [], alts := [], laidByText := true, laidKinds := [.data], laidTests := true, laidLooks := .later }
def KeccakPiecesCardSaid : Prop := Claim7.holds Tryd.pinned (.plain (OpenSpec.ofChange keccakPiecesSpec)) keccakPiecesCard

/-- THE TIED CARD OF 'distraintlaw03.KeccakNone'. -/
def keccakNoneCard : Claim7 := { stood := { row := keccakNoneRow, standIns := [], harness := (true, "cfe71de9769bc41cd1a29f55c4ebd5931c9f89850acf2ff31eada9de89560b6e"), looks := false }, kinds := [], alts := [], laidByText := true, laidKinds := [.data], laidTests := true, laidLooks := .later }
def KeccakNoneCardSaid : Prop := Claim7.holds Tryd.pinned (.plain (OpenSpec.ofChange keccakNoneSpec)) keccakNoneCard

/-- THE TIED CARD OF 'distraintlaw03.KeccakKnown'. -/
def keccakKnownCard : Claim7 := { stood := { row := keccakKnownRow, standIns := [], harness := (true, "cfe71de9769bc41cd1a29f55c4ebd5931c9f89850acf2ff31eada9de89560b6e"), looks := false }, kinds := [], alts := [], laidByText := true, laidKinds := [.data], laidTests := true, laidLooks := .later }
def KeccakKnownCardSaid : Prop := Claim7.holds Tryd.pinned (.plain (OpenSpec.ofChange keccakKnownSpec)) keccakKnownCard

/-- THE TIED CARD OF 'distraintlaw03.KeccakTexts'. -/
def keccakTextsCard : Claim7 := { stood := { row := keccakTextsRow, standIns := [], harness := (true, "cfe71de9769bc41cd1a29f55c4ebd5931c9f89850acf2ff31eada9de89560b6e"), looks := false }, kinds := [], alts := [], laidByText := true, laidKinds := [.data], laidTests := true, laidLooks := .later }
def KeccakTextsCardSaid : Prop := Claim7.holds Tryd.pinned (.plain (OpenSpec.ofChange keccakTextsSpec)) keccakTextsCard

/-- THE TIED CARD OF 'distraintlaw03.KeccakWhole'. -/
def keccakWholeCard : Claim7 := { stood := { row := keccakWholeRow, standIns := [], harness := (true, "cfe71de9769bc41cd1a29f55c4ebd5931c9f89850acf2ff31eada9de89560b6e"), looks := false }, kinds := [], alts := [], laidByText := true, laidKinds := [.data], laidTests := true, laidLooks := .later }
def KeccakWholeCardSaid : Prop := Claim7.holds Tryd.pinned (.plain (OpenSpec.ofChange keccakWholeSpec)) keccakWholeCard

/-- THE TIED CARD OF 'distraintlaw03.KeccakTurns'. -/
def keccakTurnsCard : Claim7 := { stood := { row := keccakTurnsRow, standIns := [], harness := (true, "cfe71de9769bc41cd1a29f55c4ebd5931c9f89850acf2ff31eada9de89560b6e"), looks := false }, kinds := [], alts := [], laidByText := true, laidKinds := [.data], laidTests := true, laidLooks := .later }
def KeccakTurnsCardSaid : Prop := Claim7.holds Tryd.pinned (.plain (OpenSpec.ofChange keccakTurnsSpec)) keccakTurnsCard

/-- THE SECOND FORM's CARD OF 'distraintlaw03.KeccakSums'. -/
def keccakSumsUptoCard : Claim7 := { stood := { row := keccakSumsUptoRow, standIns := [], harness := (true, "cfe71de9769bc41cd1a29f55c4ebd5931c9f89850acf2ff31eada9de89560b6e"), looks := false }, kinds := [], alts := [], laidByText := true, laidKinds := [.data], laidTests := true, laidLooks := .later }
def KeccakSumsUptoCardSaid : Prop := Claim7.holds Tryd.pinned (.plain (OpenSpec.upto keccakSumsSpec)) keccakSumsUptoCard

/-- THE SECOND FORM's CARD OF 'distraintlaw03.KeccakPieces'. -/
def keccakPiecesUptoCard : Claim7 := { stood := { row := keccakPiecesUptoRow, standIns := [], harness := (true, "cfe71de9769bc41cd1a29f55c4ebd5931c9f89850acf2ff31eada9de89560b6e"), looks := false }, kinds := [], alts := [], laidByText := true, laidKinds := [.data], laidTests := true, laidLooks := .later }
def KeccakPiecesUptoCardSaid : Prop := Claim7.holds Tryd.pinned (.plain (OpenSpec.upto keccakPiecesSpec)) keccakPiecesUptoCard

/-- THE SECOND FORM's CARD OF 'distraintlaw03.KeccakNone'. -/
def keccakNoneUptoCard : Claim7 := { stood := { row := keccakNoneUptoRow, standIns := [], harness := (true, "cfe71de9769bc41cd1a29f55c4ebd5931c9f89850acf2ff31eada9de89560b6e"), looks := false }, kinds := [], alts := [], laidByText := true, laidKinds := [.data], laidTests := true, laidLooks := .later }
def KeccakNoneUptoCardSaid : Prop := Claim7.holds Tryd.pinned (.plain (OpenSpec.upto keccakNoneSpec)) keccakNoneUptoCard

/-- THE SECOND FORM's CARD OF 'distraintlaw03.KeccakKnown'. -/
def keccakKnownUptoCard : Claim7 := { stood := { row := keccakKnownUptoRow, standIns := [], harness := (true, "cfe71de9769bc41cd1a29f55c4ebd5931c9f89850acf2ff31eada9de89560b6e"), looks := false }, kinds := [], alts := [], laidByText := true, laidKinds := [.data], laidTests := true, laidLooks := .later }
def KeccakKnownUptoCardSaid : Prop := Claim7.holds Tryd.pinned (.plain (OpenSpec.upto keccakKnownSpec)) keccakKnownUptoCard

/-- THE SECOND FORM's CARD OF 'distraintlaw03.KeccakTexts'. -/
def keccakTextsUptoCard : Claim7 := { stood := { row := keccakTextsUptoRow, standIns := [], harness := (true, "cfe71de9769bc41cd1a29f55c4ebd5931c9f89850acf2ff31eada9de89560b6e"), looks := false }, kinds := [], alts := [], laidByText := true, laidKinds := [.data], laidTests := true, laidLooks := .later }
def KeccakTextsUptoCardSaid : Prop := Claim7.holds Tryd.pinned (.plain (OpenSpec.upto keccakTextsSpec)) keccakTextsUptoCard

/-- THE SECOND FORM's CARD OF 'distraintlaw03.KeccakWhole'. -/
def keccakWholeUptoCard : Claim7 := { stood := { row := keccakWholeUptoRow, standIns := [], harness := (true, "cfe71de9769bc41cd1a29f55c4ebd5931c9f89850acf2ff31eada9de89560b6e"), looks := false }, kinds := [], alts := [], laidByText := true, laidKinds := [.data], laidTests := true, laidLooks := .later }
def KeccakWholeUptoCardSaid : Prop := Claim7.holds Tryd.pinned (.plain (OpenSpec.upto keccakWholeSpec)) keccakWholeUptoCard

/-- THE SECOND FORM's CARD OF 'distraintlaw03.KeccakTurns'. -/
def keccakTurnsUptoCard : Claim7 := { stood := { row := keccakTurnsUptoRow, standIns := [], harness := (true, "cfe71de9769bc41cd1a29f55c4ebd5931c9f89850acf2ff31eada9de89560b6e"), looks := false }, kinds := [], alts := [], laidByText := true, laidKinds := [.data], laidTests := true, laidLooks := .later }
def KeccakTurnsUptoCardSaid : Prop := Claim7.holds Tryd.pinned (.plain (OpenSpec.upto keccakTurnsSpec)) keccakTurnsUptoCard
end Rows
end Go.Proofs.YtaniijpppmipbaaDoor
