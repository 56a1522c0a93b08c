/-
  DERIVED. GIVEN WITH THE SEED: THE CARDS: each row of YtgalhpejihmhkaaDoorRows.lean that lists a variable, with what it lists TIED to the program's text (the seventh form; the later family's looks); each row that meets fmt, with fmt's text TOLD by the authors' own Lean function (tested against real Go, not proved from fmt's source: count such statements apart). THE CARD IS WHAT COUNTS. Prove the row's statement (the work); the ties are given (YtgalhpejihmhkaaDoorTie.lean); close each card by the builder's one call (the guide's Derived/Test/ToyasCard.lean, 'card_holds'). Laid BY PROGRAM, IN A SANDBOX (cutbox-door.mjs). By AI agents, Wed Nov 11 2026. No macro, syntax, notation, axiom, sorry.
-/
import Derived.Test.YtgalhpejihmhkaaDoorRows
import GoSem.ClaimSeven
namespace Go.Proofs.YtgalhpejihmhkaaDoor
namespace Rows

/-- THE TIED CARD OF 'distraintlaw04.VoteBack'. -/
def voteBackCard : Claim7 := { stood := { row := voteBackRow, standIns := [], harness := (true, "ed9cde39238543b62053ff1a571681d1c96a3ca8f9ae9034d90fbf2f2276fbd6"), looks := false }, kinds := [], alts := [], laidByText := true, laidKinds := [.data], laidTests := true, laidLooks := .later }
def VoteBackCardSaid : Prop := Claim7.holds Tryd.pinned (.plain (OpenSpec.ofChange voteBackSpec)) voteBackCard

/-- THE SECOND FORM's CARD OF 'distraintlaw04.VoteBack'. -/
def voteBackUptoCard : Claim7 := { stood := { row := voteBackUptoRow, standIns := [], harness := (true, "ed9cde39238543b62053ff1a571681d1c96a3ca8f9ae9034d90fbf2f2276fbd6"), looks := false }, kinds := [], alts := [], laidByText := true, laidKinds := [.data], laidTests := true, laidLooks := .later }
def VoteBackUptoCardSaid : Prop := Claim7.holds Tryd.pinned (.plain (OpenSpec.upto voteBackSpec)) voteBackUptoCard
end Rows
end Go.Proofs.YtgalhpejihmhkaaDoor
