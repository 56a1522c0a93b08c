/-
  DERIVED. GIVEN WITH THE SEED: THE CARDS: each row of YtjbbecplkkkiiaaDoorRows.lean that lists a variable, with what it lists TIED to the program's text (the seventh form; the later family's looks); each row that meets fmt, with fmt's text TOLD by the authors' own Lean function (tested against real Go, not proved from fmt's source: count such statements apart). THE CARD IS WHAT COUNTS. Prove the row's statement (the work); the ties are given (YtjbbecplkkkiiaaDoorTie.lean); close each card by the builder's one call (the guide's Derived/Test/ToyasCard.lean, 'card_holds'). Laid BY PROGRAM, IN A SANDBOX (cutbox-door.mjs). By AI agents, Wed Nov 11 2026. No macro, syntax, notation, axiom, sorry.
-/
import Derived.Test.YtjbbecplkkkiiaaDoorRows
import GoSem.ClaimSeven
namespace Go.Proofs.YtjbbecplkkkiiaaDoor
namespace Rows

/-- THE TIED CARD OF 'distraintlaw04.VoteBytes'. -/
def voteBytesCard : Claim7 := { stood := { row := voteBytesRow, standIns := [], harness := (true, "e5754f33f437c295b147aecb9cd809aabe8159b7bf594180fbaa06bc77a50025"), looks := false }, kinds := [], alts := [], laidByText := true, laidKinds := [.data], laidTests := true, laidLooks := .later }
def VoteBytesCardSaid : Prop := Claim7.holds Tryd.pinned (.plain (OpenSpec.ofChange voteBytesSpec)) voteBytesCard

/-- THE TIED CARD OF 'distraintlaw04.VotePairs'. -/
def votePairsCard : Claim7 := { stood := { row := votePairsRow, standIns := [], harness := (true, "e5754f33f437c295b147aecb9cd809aabe8159b7bf594180fbaa06bc77a50025"), looks := false }, kinds := [], alts := [], laidByText := true, laidKinds := [.data], laidTests := true, laidLooks := .later }
def VotePairsCardSaid : Prop := Claim7.holds Tryd.pinned (.plain (OpenSpec.ofChange votePairsSpec)) votePairsCard

/-- THE TIED CARD OF 'distraintlaw04.VoteKnown'. -/
def voteKnownCard : Claim7 := { stood := { row := voteKnownRow, standIns := [], harness := (true, "e5754f33f437c295b147aecb9cd809aabe8159b7bf594180fbaa06bc77a50025"), looks := false }, kinds := [], alts := [], laidByText := true, laidKinds := [.data], laidTests := true, laidLooks := .later }
def VoteKnownCardSaid : Prop := Claim7.holds Tryd.pinned (.plain (OpenSpec.ofChange voteKnownSpec)) voteKnownCard

/-- THE TIED CARD OF 'distraintlaw04.VoteBack'. -/
def voteBackCard : Claim7 := { stood := { row := voteBackRow, standIns := [], harness := (true, "e5754f33f437c295b147aecb9cd809aabe8159b7bf594180fbaa06bc77a50025"), looks := false }, kinds := [], alts := [], laidByText := true, laidKinds := [.data], laidTests := true, laidLooks := .later }
def VoteBackCardSaid : Prop := Claim7.holds Tryd.pinned (.plain (OpenSpec.ofChange voteBackSpec)) voteBackCard

/-- THE TIED CARD OF 'distraintlaw04.VoteClash'. -/
def voteClashCard : Claim7 := { stood := { row := voteClashRow, standIns := [], harness := (true, "e5754f33f437c295b147aecb9cd809aabe8159b7bf594180fbaa06bc77a50025"), looks := false }, kinds := [], alts := [], laidByText := true, laidKinds := [.data], laidTests := true, laidLooks := .later }
def VoteClashCardSaid : Prop := Claim7.holds Tryd.pinned (.plain (OpenSpec.ofChange voteClashSpec)) voteClashCard

/-- THE SECOND FORM's CARD OF 'distraintlaw04.VoteBytes'. -/
def voteBytesUptoCard : Claim7 := { stood := { row := voteBytesUptoRow, standIns := [], harness := (true, "e5754f33f437c295b147aecb9cd809aabe8159b7bf594180fbaa06bc77a50025"), looks := false }, kinds := [], alts := [], laidByText := true, laidKinds := [.data], laidTests := true, laidLooks := .later }
def VoteBytesUptoCardSaid : Prop := Claim7.holds Tryd.pinned (.plain (OpenSpec.upto voteBytesSpec)) voteBytesUptoCard

/-- THE SECOND FORM's CARD OF 'distraintlaw04.VotePairs'. -/
def votePairsUptoCard : Claim7 := { stood := { row := votePairsUptoRow, standIns := [], harness := (true, "e5754f33f437c295b147aecb9cd809aabe8159b7bf594180fbaa06bc77a50025"), looks := false }, kinds := [], alts := [], laidByText := true, laidKinds := [.data], laidTests := true, laidLooks := .later }
def VotePairsUptoCardSaid : Prop := Claim7.holds Tryd.pinned (.plain (OpenSpec.upto votePairsSpec)) votePairsUptoCard

/-- THE SECOND FORM's CARD OF 'distraintlaw04.VoteKnown'. -/
def voteKnownUptoCard : Claim7 := { stood := { row := voteKnownUptoRow, standIns := [], harness := (true, "e5754f33f437c295b147aecb9cd809aabe8159b7bf594180fbaa06bc77a50025"), looks := false }, kinds := [], alts := [], laidByText := true, laidKinds := [.data], laidTests := true, laidLooks := .later }
def VoteKnownUptoCardSaid : Prop := Claim7.holds Tryd.pinned (.plain (OpenSpec.upto voteKnownSpec)) voteKnownUptoCard

/-- THE SECOND FORM's CARD OF 'distraintlaw04.VoteBack'. -/
def voteBackUptoCard : Claim7 := { stood := { row := voteBackUptoRow, standIns := [], harness := (true, "e5754f33f437c295b147aecb9cd809aabe8159b7bf594180fbaa06bc77a50025"), looks := false }, kinds := [], alts := [], laidByText := true, laidKinds := [.data], laidTests := true, laidLooks := .later }
def VoteBackUptoCardSaid : Prop := Claim7.holds Tryd.pinned (.plain (OpenSpec.upto voteBackSpec)) voteBackUptoCard

/-- THE SECOND FORM's CARD OF 'distraintlaw04.VoteClash'. -/
def voteClashUptoCard : Claim7 := { stood := { row := voteClashUptoRow, standIns := [], harness := (true, "e5754f33f437c295b147aecb9cd809aabe8159b7bf594180fbaa06bc77a50025"), looks := false }, kinds := [], alts := [], laidByText := true, laidKinds := [.data], laidTests := true, laidLooks := .later }
def VoteClashUptoCardSaid : Prop := Claim7.holds Tryd.pinned (.plain (OpenSpec.upto voteClashSpec)) voteClashUptoCard
end Rows
end Go.Proofs.YtjbbecplkkkiiaaDoor
