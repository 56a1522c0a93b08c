/-
  No cell of these rows narrows 'for every input' (looked for: loops, veiled, ifaces, maps, wideKeys, modest, calm, conditions, laid).
  DERIVED. THE GIVEN ROWS OF THIS SEAT. 6 by the template 'for every input the law returns true; each argument reads behind the call as it read before'; 0 by the template 'total and deterministic' (their statements: YthdcgkikhindiaaTotals.lean).
  GIVEN WITH THE SEED: the statements are not yours to turn. If you find one false, say at which input.
  Laid BY PROGRAM, IN A SANDBOX (cutbox-rows.mjs): the forced cells as the released guide's own fill.sh prints them over the translation 5ad2233e07a386cc… (all of the seat's roots in one cut). By AI agents, Wed Nov 11 2026. No macro, syntax, notation, axiom, sorry.
-/
import Derived.Test.YthdcgkikhindiaaChecked
import GoSem.Claim
import GoSem.ClaimJoined
import GoSem.ClaimMapViews
import Derived.JoinedTies
import Derived.KernelRfl
namespace Go.Proofs.Ythdcgkikhindiaa
/- THE CELL 'sum', in the pinned program and in every row, IS THE sha256 OF THE DUMP (.gsa) THAT YthdcgkikhindiaaProg.lean LOADS. Nothing in Lean hashes anything: it is a label: what it is worth is what the hold of that sum in a sandbox is worth. -/
noncomputable def Try.pinned : Pinned := { name := "ythdcgkikhindiaa", sum := "5ad2233e07a386ccb22bfa1b4e57088f0b4500f4b8cf54864aedadbbef9a5547", checked := Try.checked }
namespace Rows
def none {H : Type} : Left H := { results := [], args := [] }

/-- 'distraintlaw09.BankMoves': WHATEVER THE INPUT: true; the input reads as it did. -/
def bankMovesSpec : ChangeSpec := { name := "bankMoves", fn := fun _ => fun
  | [d1, d2, d3] => { results := [.lit (.bool true)], args := [d1, d2, d3] }
  | _ => none }
def bankMovesRow : OpenClaim := { program := "ythdcgkikhindiaa", sum := "5ad2233e07a386ccb22bfa1b4e57088f0b4500f4b8cf54864aedadbbef9a5547", func := "distraint/distraintlaw09.BankMoves", spec := "bankMoves", inPlace := ["math/bits.Add64"], unfollowed := true, recurses := true, apart := false }
def BankMovesSaid : Prop := bankMovesRow.holds Try.pinned (OpenSpec.ofChange bankMovesSpec)

/-- ITS FALSE NEIGHBOUR: 'it returns false'. Refute it at one input. -/
def bankMovesWrong : ChangeSpec := { name := "bankMoves", fn := fun _ => fun
  | [d1, d2, d3] => { results := [.lit (.bool false)], args := [d1, d2, d3] }
  | _ => none }
def BankMovesWrongFalsely : Prop := bankMovesRow.holds Try.pinned (OpenSpec.ofChange bankMovesWrong)

/-- 'distraintlaw09.BankBytes': WHATEVER THE INPUT: true; the input reads as it did. -/
def bankBytesSpec : ChangeSpec := { name := "bankBytes", fn := fun _ => fun
  | [d1, d2] => { results := [.lit (.bool true)], args := [d1, d2] }
  | _ => none }
def bankBytesRow : OpenClaim := { program := "ythdcgkikhindiaa", sum := "5ad2233e07a386ccb22bfa1b4e57088f0b4500f4b8cf54864aedadbbef9a5547", func := "distraint/distraintlaw09.BankBytes", spec := "bankBytes", inPlace := ["math/bits.Add64"], unfollowed := true, recurses := true, apart := false }
def BankBytesSaid : Prop := bankBytesRow.holds Try.pinned (OpenSpec.ofChange bankBytesSpec)

/-- ITS FALSE NEIGHBOUR: 'it returns false'. Refute it at one input. -/
def bankBytesWrong : ChangeSpec := { name := "bankBytes", fn := fun _ => fun
  | [d1, d2] => { results := [.lit (.bool false)], args := [d1, d2] }
  | _ => none }
def BankBytesWrongFalsely : Prop := bankBytesRow.holds Try.pinned (OpenSpec.ofChange bankBytesWrong)

/-- 'distraintlaw09.BankKnown': WHATEVER THE INPUT: true; the input reads as it did. -/
def bankKnownSpec : ChangeSpec := { name := "bankKnown", fn := fun _ => fun
  | [] => { results := [.lit (.bool true)], args := [] }
  | _ => none }
def bankKnownRow : OpenClaim := { program := "ythdcgkikhindiaa", sum := "5ad2233e07a386ccb22bfa1b4e57088f0b4500f4b8cf54864aedadbbef9a5547", func := "distraint/distraintlaw09.BankKnown", spec := "bankKnown", inPlace := ["math/bits.Add64"], unfollowed := true, recurses := true, apart := false }
def BankKnownSaid : Prop := bankKnownRow.holds Try.pinned (OpenSpec.ofChange bankKnownSpec)

/-- ITS FALSE NEIGHBOUR: 'it returns false'. Refute it at one input. -/
def bankKnownWrong : ChangeSpec := { name := "bankKnown", fn := fun _ => fun
  | [] => { results := [.lit (.bool false)], args := [] }
  | _ => none }
def BankKnownWrongFalsely : Prop := bankKnownRow.holds Try.pinned (OpenSpec.ofChange bankKnownWrong)

/-- 'distraintlaw09.BankKeeps': WHATEVER THE INPUT: true; the input reads as it did. -/
def bankKeepsSpec : ChangeSpec := { name := "bankKeeps", fn := fun _ => fun
  | [d1, d2] => { results := [.lit (.bool true)], args := [d1, d2] }
  | _ => none }
def bankKeepsRow : OpenClaim := { program := "ythdcgkikhindiaa", sum := "5ad2233e07a386ccb22bfa1b4e57088f0b4500f4b8cf54864aedadbbef9a5547", func := "distraint/distraintlaw09.BankKeeps", spec := "bankKeeps", inPlace := ["math/bits.Add64"], unfollowed := true, recurses := true, apart := false }
def BankKeepsSaid : Prop := bankKeepsRow.holds Try.pinned (OpenSpec.ofChange bankKeepsSpec)

/-- ITS FALSE NEIGHBOUR: 'it returns false'. Refute it at one input. -/
def bankKeepsWrong : ChangeSpec := { name := "bankKeeps", fn := fun _ => fun
  | [d1, d2] => { results := [.lit (.bool false)], args := [d1, d2] }
  | _ => none }
def BankKeepsWrongFalsely : Prop := bankKeepsRow.holds Try.pinned (OpenSpec.ofChange bankKeepsWrong)

/-- 'distraintlaw09.BankBack': WHATEVER THE INPUT: true; the input reads as it did. -/
def bankBackSpec : ChangeSpec := { name := "bankBack", fn := fun _ => fun
  | [d1, d2, d3] => { results := [.lit (.bool true)], args := [d1, d2, d3] }
  | _ => none }
def bankBackRow : OpenClaim := { program := "ythdcgkikhindiaa", sum := "5ad2233e07a386ccb22bfa1b4e57088f0b4500f4b8cf54864aedadbbef9a5547", func := "distraint/distraintlaw09.BankBack", spec := "bankBack", inPlace := ["math/bits.Add64"], unfollowed := true, recurses := true, apart := false }
def BankBackSaid : Prop := bankBackRow.holds Try.pinned (OpenSpec.ofChange bankBackSpec)

/-- ITS FALSE NEIGHBOUR: 'it returns false'. Refute it at one input. -/
def bankBackWrong : ChangeSpec := { name := "bankBack", fn := fun _ => fun
  | [d1, d2, d3] => { results := [.lit (.bool false)], args := [d1, d2, d3] }
  | _ => none }
def BankBackWrongFalsely : Prop := bankBackRow.holds Try.pinned (OpenSpec.ofChange bankBackWrong)

/-- 'distraintlaw09.BankForms': WHATEVER THE INPUT: true; the input reads as it did. -/
def bankFormsSpec : ChangeSpec := { name := "bankForms", fn := fun _ => fun
  | [d1, d2, d3] => { results := [.lit (.bool true)], args := [d1, d2, d3] }
  | _ => none }
def bankFormsRow : OpenClaim := { program := "ythdcgkikhindiaa", sum := "5ad2233e07a386ccb22bfa1b4e57088f0b4500f4b8cf54864aedadbbef9a5547", func := "distraint/distraintlaw09.BankForms", spec := "bankForms", inPlace := ["math/bits.Add64"], unfollowed := true, recurses := true, apart := false }
def BankFormsSaid : Prop := bankFormsRow.holds Try.pinned (OpenSpec.ofChange bankFormsSpec)

/-- ITS FALSE NEIGHBOUR: 'it returns false'. Refute it at one input. -/
def bankFormsWrong : ChangeSpec := { name := "bankForms", fn := fun _ => fun
  | [d1, d2, d3] => { results := [.lit (.bool false)], args := [d1, d2, d3] }
  | _ => none }
def BankFormsWrongFalsely : Prop := bankFormsRow.holds Try.pinned (OpenSpec.ofChange bankFormsWrong)

/- THE SECOND FORM. 'bulk': how many values and letters a reading holds, each counted each time it is reached (what is shared counts as often as it is met; a slice's spare places count too). A statement '..UptoSaid' is the law's where the arguments, and the package variables that the reading takes, are together of bulk at most 1048576: NARROWER than '..Said'. Prove '..Said' where nothing that the law and all that it calls make is longer than what came in: it says more and counts as full. Else prove '..UptoSaid'. A law counts once. -/
mutual
def uptoBulk {H : Type} : DataW H → Nat
  | .lit (.string bytes) => bytes.length + 1
  | .lit _ => 1
  | .nil => 1
  | .ptr d => uptoBulk d + 1
  | .slice elems spare => uptoBulkAll elems + uptoBulkAll spare + 1
  | .agg parts => uptoBulkAll parts + 1
  | .iface _ d => uptoBulk d + 1
  | .map entries => uptoBulkEntries entries + 1
  | .held _ => 1
def uptoBulkAll {H : Type} : List (DataW H) → Nat
  | [] => 0
  | d :: r => uptoBulk d + uptoBulkAll r
def uptoBulkEntries {H : Type} : List (Lit × DataW H) → Nat
  | [] => 0
  | x :: r => uptoBulkEntry x + uptoBulkEntries r
def uptoBulkEntry {H : Type} : Lit × DataW H → Nat
  | (.string bytes, d) => bytes.length + uptoBulk d + 1
  | (_, d) => uptoBulk d + 1
 end
def uptoSmall : (H : Type) → List (DataW H) → Bool := fun _ ds => decide (uptoBulkAll ds ≤ 1048576)
def OpenSpec.upto (s : _root_.Go.ChangeSpec) : _root_.Go.OpenSpec := { _root_.Go.OpenSpec.ofChange s with cond := some uptoSmall }

/-- 'distraintlaw09.BankMoves', WHERE WHAT IT READS IS OF BULK AT MOST 1048576: true; the input reads as it did. -/
def bankMovesUptoRow : OpenClaim := { program := "ythdcgkikhindiaa", sum := "5ad2233e07a386ccb22bfa1b4e57088f0b4500f4b8cf54864aedadbbef9a5547", func := "distraint/distraintlaw09.BankMoves", spec := "bankMoves", inPlace := ["math/bits.Add64"], unfollowed := true, recurses := true, apart := false, narrowed := true }
def BankMovesUptoSaid : Prop := bankMovesUptoRow.holds Try.pinned (OpenSpec.upto bankMovesSpec)

/-- 'distraintlaw09.BankBytes', WHERE WHAT IT READS IS OF BULK AT MOST 1048576: true; the input reads as it did. -/
def bankBytesUptoRow : OpenClaim := { program := "ythdcgkikhindiaa", sum := "5ad2233e07a386ccb22bfa1b4e57088f0b4500f4b8cf54864aedadbbef9a5547", func := "distraint/distraintlaw09.BankBytes", spec := "bankBytes", inPlace := ["math/bits.Add64"], unfollowed := true, recurses := true, apart := false, narrowed := true }
def BankBytesUptoSaid : Prop := bankBytesUptoRow.holds Try.pinned (OpenSpec.upto bankBytesSpec)

/-- 'distraintlaw09.BankKnown', WHERE WHAT IT READS IS OF BULK AT MOST 1048576: true; the input reads as it did. -/
def bankKnownUptoRow : OpenClaim := { program := "ythdcgkikhindiaa", sum := "5ad2233e07a386ccb22bfa1b4e57088f0b4500f4b8cf54864aedadbbef9a5547", func := "distraint/distraintlaw09.BankKnown", spec := "bankKnown", inPlace := ["math/bits.Add64"], unfollowed := true, recurses := true, apart := false, narrowed := true }
def BankKnownUptoSaid : Prop := bankKnownUptoRow.holds Try.pinned (OpenSpec.upto bankKnownSpec)

/-- 'distraintlaw09.BankKeeps', WHERE WHAT IT READS IS OF BULK AT MOST 1048576: true; the input reads as it did. -/
def bankKeepsUptoRow : OpenClaim := { program := "ythdcgkikhindiaa", sum := "5ad2233e07a386ccb22bfa1b4e57088f0b4500f4b8cf54864aedadbbef9a5547", func := "distraint/distraintlaw09.BankKeeps", spec := "bankKeeps", inPlace := ["math/bits.Add64"], unfollowed := true, recurses := true, apart := false, narrowed := true }
def BankKeepsUptoSaid : Prop := bankKeepsUptoRow.holds Try.pinned (OpenSpec.upto bankKeepsSpec)

/-- 'distraintlaw09.BankBack', WHERE WHAT IT READS IS OF BULK AT MOST 1048576: true; the input reads as it did. -/
def bankBackUptoRow : OpenClaim := { program := "ythdcgkikhindiaa", sum := "5ad2233e07a386ccb22bfa1b4e57088f0b4500f4b8cf54864aedadbbef9a5547", func := "distraint/distraintlaw09.BankBack", spec := "bankBack", inPlace := ["math/bits.Add64"], unfollowed := true, recurses := true, apart := false, narrowed := true }
def BankBackUptoSaid : Prop := bankBackUptoRow.holds Try.pinned (OpenSpec.upto bankBackSpec)

/-- 'distraintlaw09.BankForms', WHERE WHAT IT READS IS OF BULK AT MOST 1048576: true; the input reads as it did. -/
def bankFormsUptoRow : OpenClaim := { program := "ythdcgkikhindiaa", sum := "5ad2233e07a386ccb22bfa1b4e57088f0b4500f4b8cf54864aedadbbef9a5547", func := "distraint/distraintlaw09.BankForms", spec := "bankForms", inPlace := ["math/bits.Add64"], unfollowed := true, recurses := true, apart := false, narrowed := true }
def BankFormsUptoSaid : Prop := bankFormsUptoRow.holds Try.pinned (OpenSpec.upto bankFormsSpec)

end Rows
end Go.Proofs.Ythdcgkikhindiaa
