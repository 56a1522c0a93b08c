/-
  No cell of these rows narrows 'for every input' (looked for: loops, veiled, ifaces, maps, wideKeys, modest, calm, conditions, laid).
  DERIVED. THE GIVEN ROWS OF THIS SEAT. 6 by the template 'for every input the law returns true; each argument reads behind the call as it read before'; 0 by the template 'total and deterministic' (their statements: YtpfdakkameifkaaTotals.lean).
  GIVEN WITH THE SEED: the statements are not yours to turn. If you find one false, say at which input.
  Laid BY PROGRAM, IN A SANDBOX (cutbox-rows.mjs): the forced cells as the released guide's own fill.sh prints them over the translation bd75579b2144b7f8… (all of the seat's roots in one cut). By AI agents, Wed Nov 11 2026. No macro, syntax, notation, axiom, sorry.
-/
import Derived.Test.YtpfdakkameifkaaChecked
import GoSem.Claim
import GoSem.ClaimJoined
import GoSem.ClaimMapViews
import Derived.JoinedTies
import Derived.KernelRfl
namespace Go.Proofs.Ytpfdakkameifkaa
/- THE CELL 'sum', in the pinned program and in every row, IS THE sha256 OF THE DUMP (.gsa) THAT YtpfdakkameifkaaProg.lean LOADS. Nothing in Lean hashes anything: it is a label: what it is worth is what the hold of that sum in a sandbox is worth. -/
noncomputable def Try.pinned : Pinned := { name := "ytpfdakkameifkaa", sum := "bd75579b2144b7f8e05c853b4696d7c4325655d36b9d220c1c5a8f212293a781", checked := Try.checked }
namespace Rows
def none {H : Type} : Left H := { results := [], args := [] }

/-- 'distraintlaw16.RosterTells': WHATEVER THE INPUT: true; the input reads as it did. -/
def rosterTellsSpec : ChangeSpec := { name := "rosterTells", fn := fun _ => fun
  | [d1, d2, d3, d4, d5] => { results := [.lit (.bool true)], args := [d1, d2, d3, d4, d5] }
  | _ => none }
def rosterTellsRow : OpenClaim := { program := "ytpfdakkameifkaa", sum := "bd75579b2144b7f8e05c853b4696d7c4325655d36b9d220c1c5a8f212293a781", func := "distraint/distraintlaw16.RosterTells", spec := "rosterTells", unfollowed := true, recurses := true, apart := false }
def RosterTellsSaid : Prop := rosterTellsRow.holds Try.pinned (OpenSpec.ofChange rosterTellsSpec)

/-- ITS FALSE NEIGHBOUR: 'it returns false'. Refute it at one input. -/
def rosterTellsWrong : ChangeSpec := { name := "rosterTells", fn := fun _ => fun
  | [d1, d2, d3, d4, d5] => { results := [.lit (.bool false)], args := [d1, d2, d3, d4, d5] }
  | _ => none }
def RosterTellsWrongFalsely : Prop := rosterTellsRow.holds Try.pinned (OpenSpec.ofChange rosterTellsWrong)

/-- 'distraintlaw16.RosterTurns': WHATEVER THE INPUT: true; the input reads as it did. -/
def rosterTurnsSpec : ChangeSpec := { name := "rosterTurns", fn := fun _ => fun
  | [d1, d2, d3, d4, d5, d6, d7] => { results := [.lit (.bool true)], args := [d1, d2, d3, d4, d5, d6, d7] }
  | _ => none }
def rosterTurnsRow : OpenClaim := { program := "ytpfdakkameifkaa", sum := "bd75579b2144b7f8e05c853b4696d7c4325655d36b9d220c1c5a8f212293a781", func := "distraint/distraintlaw16.RosterTurns", spec := "rosterTurns", unfollowed := true, recurses := true, apart := false }
def RosterTurnsSaid : Prop := rosterTurnsRow.holds Try.pinned (OpenSpec.ofChange rosterTurnsSpec)

/-- ITS FALSE NEIGHBOUR: 'it returns false'. Refute it at one input. -/
def rosterTurnsWrong : ChangeSpec := { name := "rosterTurns", fn := fun _ => fun
  | [d1, d2, d3, d4, d5, d6, d7] => { results := [.lit (.bool false)], args := [d1, d2, d3, d4, d5, d6, d7] }
  | _ => none }
def RosterTurnsWrongFalsely : Prop := rosterTurnsRow.holds Try.pinned (OpenSpec.ofChange rosterTurnsWrong)

/-- 'distraintlaw16.RosterBytes': WHATEVER THE INPUT: true; the input reads as it did. -/
def rosterBytesSpec : ChangeSpec := { name := "rosterBytes", fn := fun _ => fun
  | [d1, d2] => { results := [.lit (.bool true)], args := [d1, d2] }
  | _ => none }
def rosterBytesRow : OpenClaim := { program := "ytpfdakkameifkaa", sum := "bd75579b2144b7f8e05c853b4696d7c4325655d36b9d220c1c5a8f212293a781", func := "distraint/distraintlaw16.RosterBytes", spec := "rosterBytes", unfollowed := true, recurses := true, apart := false }
def RosterBytesSaid : Prop := rosterBytesRow.holds Try.pinned (OpenSpec.ofChange rosterBytesSpec)

/-- ITS FALSE NEIGHBOUR: 'it returns false'. Refute it at one input. -/
def rosterBytesWrong : ChangeSpec := { name := "rosterBytes", fn := fun _ => fun
  | [d1, d2] => { results := [.lit (.bool false)], args := [d1, d2] }
  | _ => none }
def RosterBytesWrongFalsely : Prop := rosterBytesRow.holds Try.pinned (OpenSpec.ofChange rosterBytesWrong)

/-- 'distraintlaw16.RosterKnown': WHATEVER THE INPUT: true; the input reads as it did. -/
def rosterKnownSpec : ChangeSpec := { name := "rosterKnown", fn := fun _ => fun
  | [] => { results := [.lit (.bool true)], args := [] }
  | _ => none }
def rosterKnownRow : OpenClaim := { program := "ytpfdakkameifkaa", sum := "bd75579b2144b7f8e05c853b4696d7c4325655d36b9d220c1c5a8f212293a781", func := "distraint/distraintlaw16.RosterKnown", spec := "rosterKnown", unfollowed := true, recurses := true, apart := false }
def RosterKnownSaid : Prop := rosterKnownRow.holds Try.pinned (OpenSpec.ofChange rosterKnownSpec)

/-- ITS FALSE NEIGHBOUR: 'it returns false'. Refute it at one input. -/
def rosterKnownWrong : ChangeSpec := { name := "rosterKnown", fn := fun _ => fun
  | [] => { results := [.lit (.bool false)], args := [] }
  | _ => none }
def RosterKnownWrongFalsely : Prop := rosterKnownRow.holds Try.pinned (OpenSpec.ofChange rosterKnownWrong)

/-- 'distraintlaw16.RosterStays': WHATEVER THE INPUT: true; the input reads as it did. -/
def rosterStaysSpec : ChangeSpec := { name := "rosterStays", fn := fun _ => fun
  | [d] => { results := [.lit (.bool true)], args := [d] }
  | _ => none }
def rosterStaysRow : OpenClaim := { program := "ytpfdakkameifkaa", sum := "bd75579b2144b7f8e05c853b4696d7c4325655d36b9d220c1c5a8f212293a781", func := "distraint/distraintlaw16.RosterStays", spec := "rosterStays", unfollowed := true, recurses := true, apart := false }
def RosterStaysSaid : Prop := rosterStaysRow.holds Try.pinned (OpenSpec.ofChange rosterStaysSpec)

/-- ITS FALSE NEIGHBOUR: 'it returns false'. Refute it at one input. -/
def rosterStaysWrong : ChangeSpec := { name := "rosterStays", fn := fun _ => fun
  | [d] => { results := [.lit (.bool false)], args := [d] }
  | _ => none }
def RosterStaysWrongFalsely : Prop := rosterStaysRow.holds Try.pinned (OpenSpec.ofChange rosterStaysWrong)

/-- 'distraintlaw16.RosterBack': WHATEVER THE INPUT: true; the input reads as it did. -/
def rosterBackSpec : ChangeSpec := { name := "rosterBack", fn := fun _ => fun
  | [d1, d2] => { results := [.lit (.bool true)], args := [d1, d2] }
  | _ => none }
def rosterBackRow : OpenClaim := { program := "ytpfdakkameifkaa", sum := "bd75579b2144b7f8e05c853b4696d7c4325655d36b9d220c1c5a8f212293a781", func := "distraint/distraintlaw16.RosterBack", spec := "rosterBack", unfollowed := true, recurses := true, apart := false }
def RosterBackSaid : Prop := rosterBackRow.holds Try.pinned (OpenSpec.ofChange rosterBackSpec)

/-- ITS FALSE NEIGHBOUR: 'it returns false'. Refute it at one input. -/
def rosterBackWrong : ChangeSpec := { name := "rosterBack", fn := fun _ => fun
  | [d1, d2] => { results := [.lit (.bool false)], args := [d1, d2] }
  | _ => none }
def RosterBackWrongFalsely : Prop := rosterBackRow.holds Try.pinned (OpenSpec.ofChange rosterBackWrong)

/- THE SECOND FORM. 'bulk': how many values and letters a reading holds, each counted each time it is reached (what is shared counts as often as it is met; a slice's spare places count too). A statement '..UptoSaid' is the law's where the arguments, and the package variables that the reading takes, are together of bulk at most 1048576: NARROWER than '..Said'. Prove '..Said' where nothing that the law and all that it calls make is longer than what came in: it says more and counts as full. Else prove '..UptoSaid'. A law counts once. -/
mutual
def uptoBulk {H : Type} : DataW H → Nat
  | .lit (.string bytes) => bytes.length + 1
  | .lit _ => 1
  | .nil => 1
  | .ptr d => uptoBulk d + 1
  | .slice elems spare => uptoBulkAll elems + uptoBulkAll spare + 1
  | .agg parts => uptoBulkAll parts + 1
  | .iface _ d => uptoBulk d + 1
  | .map entries => uptoBulkEntries entries + 1
  | .held _ => 1
def uptoBulkAll {H : Type} : List (DataW H) → Nat
  | [] => 0
  | d :: r => uptoBulk d + uptoBulkAll r
def uptoBulkEntries {H : Type} : List (Lit × DataW H) → Nat
  | [] => 0
  | x :: r => uptoBulkEntry x + uptoBulkEntries r
def uptoBulkEntry {H : Type} : Lit × DataW H → Nat
  | (.string bytes, d) => bytes.length + uptoBulk d + 1
  | (_, d) => uptoBulk d + 1
 end
def uptoSmall : (H : Type) → List (DataW H) → Bool := fun _ ds => decide (uptoBulkAll ds ≤ 1048576)
def OpenSpec.upto (s : _root_.Go.ChangeSpec) : _root_.Go.OpenSpec := { _root_.Go.OpenSpec.ofChange s with cond := some uptoSmall }

/-- 'distraintlaw16.RosterTells', WHERE WHAT IT READS IS OF BULK AT MOST 1048576: true; the input reads as it did. -/
def rosterTellsUptoRow : OpenClaim := { program := "ytpfdakkameifkaa", sum := "bd75579b2144b7f8e05c853b4696d7c4325655d36b9d220c1c5a8f212293a781", func := "distraint/distraintlaw16.RosterTells", spec := "rosterTells", unfollowed := true, recurses := true, apart := false, narrowed := true }
def RosterTellsUptoSaid : Prop := rosterTellsUptoRow.holds Try.pinned (OpenSpec.upto rosterTellsSpec)

/-- 'distraintlaw16.RosterTurns', WHERE WHAT IT READS IS OF BULK AT MOST 1048576: true; the input reads as it did. -/
def rosterTurnsUptoRow : OpenClaim := { program := "ytpfdakkameifkaa", sum := "bd75579b2144b7f8e05c853b4696d7c4325655d36b9d220c1c5a8f212293a781", func := "distraint/distraintlaw16.RosterTurns", spec := "rosterTurns", unfollowed := true, recurses := true, apart := false, narrowed := true }
def RosterTurnsUptoSaid : Prop := rosterTurnsUptoRow.holds Try.pinned (OpenSpec.upto rosterTurnsSpec)

/-- 'distraintlaw16.RosterBytes', WHERE WHAT IT READS IS OF BULK AT MOST 1048576: true; the input reads as it did. -/
def rosterBytesUptoRow : OpenClaim := { program := "ytpfdakkameifkaa", sum := "bd75579b2144b7f8e05c853b4696d7c4325655d36b9d220c1c5a8f212293a781", func := "distraint/distraintlaw16.RosterBytes", spec := "rosterBytes", unfollowed := true, recurses := true, apart := false, narrowed := true }
def RosterBytesUptoSaid : Prop := rosterBytesUptoRow.holds Try.pinned (OpenSpec.upto rosterBytesSpec)

/-- 'distraintlaw16.RosterKnown', WHERE WHAT IT READS IS OF BULK AT MOST 1048576: true; the input reads as it did. -/
def rosterKnownUptoRow : OpenClaim := { program := "ytpfdakkameifkaa", sum := "bd75579b2144b7f8e05c853b4696d7c4325655d36b9d220c1c5a8f212293a781", func := "distraint/distraintlaw16.RosterKnown", spec := "rosterKnown", unfollowed := true, recurses := true, apart := false, narrowed := true }
def RosterKnownUptoSaid : Prop := rosterKnownUptoRow.holds Try.pinned (OpenSpec.upto rosterKnownSpec)

/-- 'distraintlaw16.RosterStays', WHERE WHAT IT READS IS OF BULK AT MOST 1048576: true; the input reads as it did. -/
def rosterStaysUptoRow : OpenClaim := { program := "ytpfdakkameifkaa", sum := "bd75579b2144b7f8e05c853b4696d7c4325655d36b9d220c1c5a8f212293a781", func := "distraint/distraintlaw16.RosterStays", spec := "rosterStays", unfollowed := true, recurses := true, apart := false, narrowed := true }
def RosterStaysUptoSaid : Prop := rosterStaysUptoRow.holds Try.pinned (OpenSpec.upto rosterStaysSpec)

/-- 'distraintlaw16.RosterBack', WHERE WHAT IT READS IS OF BULK AT MOST 1048576: true; the input reads as it did. -/
def rosterBackUptoRow : OpenClaim := { program := "ytpfdakkameifkaa", sum := "bd75579b2144b7f8e05c853b4696d7c4325655d36b9d220c1c5a8f212293a781", func := "distraint/distraintlaw16.RosterBack", spec := "rosterBack", unfollowed := true, recurses := true, apart := false, narrowed := true }
def RosterBackUptoSaid : Prop := rosterBackUptoRow.holds Try.pinned (OpenSpec.upto rosterBackSpec)

end Rows
end Go.Proofs.Ytpfdakkameifkaa
