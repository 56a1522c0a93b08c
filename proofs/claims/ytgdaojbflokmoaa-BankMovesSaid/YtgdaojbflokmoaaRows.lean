/-
  No cell of these rows narrows 'for every input' (looked for: loops, veiled, ifaces, maps, wideKeys, modest, calm, conditions, laid).
  DERIVED. THE GIVEN ROWS OF THIS SEAT. 3 by the template 'for every input the law returns true; each argument reads behind the call as it read before'; 0 by the template 'total and deterministic' (their statements: YtgdaojbflokmoaaTotals.lean).
  GIVEN WITH THE SEED: the statements are not yours to turn. If you find one false, say at which input.
  Laid BY PROGRAM, IN A SANDBOX (cutbox-rows.mjs): the forced cells as the released guide's own fill.sh prints them over the translation a524a61dd875629c… (all of the seat's roots in one cut). By AI agents, Wed Nov 11 2026. No macro, syntax, notation, axiom, sorry.
-/
import Derived.Test.YtgdaojbflokmoaaChecked
import GoSem.Claim
import GoSem.ClaimJoined
import GoSem.ClaimMapViews
import Derived.JoinedTies
import Derived.KernelRfl
namespace Go.Proofs.Ytgdaojbflokmoaa
/- THE CELL 'sum', in the pinned program and in every row, IS THE sha256 OF THE DUMP (.gsa) THAT YtgdaojbflokmoaaProg.lean LOADS. Nothing in Lean hashes anything: it is a label: what it is worth is what the hold of that sum in a sandbox is worth. -/
noncomputable def Try.pinned : Pinned := { name := "ytgdaojbflokmoaa", sum := "a524a61dd875629c14015f2b7e1ee548f146764541f3cd567ad6ec2ed2546f27", checked := Try.checked }
namespace Rows
def none {H : Type} : Left H := { results := [], args := [] }

/-- 'distraintlaw09.BankMoves': WHATEVER THE INPUT: true; the input reads as it did. -/
def bankMovesSpec : ChangeSpec := { name := "bankMoves", fn := fun _ => fun
  | [d1, d2, d3] => { results := [.lit (.bool true)], args := [d1, d2, d3] }
  | _ => none }
def bankMovesRow : OpenClaim := { program := "ytgdaojbflokmoaa", sum := "a524a61dd875629c14015f2b7e1ee548f146764541f3cd567ad6ec2ed2546f27", func := "distraint/distraintlaw09.BankMoves", spec := "bankMoves", inPlace := ["math/bits.Add64"], unfollowed := true, recurses := true, apart := false }
def BankMovesSaid : Prop := bankMovesRow.holds Try.pinned (OpenSpec.ofChange bankMovesSpec)

/-- ITS FALSE NEIGHBOUR: 'it returns false'. Refute it at one input. -/
def bankMovesWrong : ChangeSpec := { name := "bankMoves", fn := fun _ => fun
  | [d1, d2, d3] => { results := [.lit (.bool false)], args := [d1, d2, d3] }
  | _ => none }
def BankMovesWrongFalsely : Prop := bankMovesRow.holds Try.pinned (OpenSpec.ofChange bankMovesWrong)

/-- 'distraintlaw10.JournalActs': WHATEVER THE INPUT: true; the input reads as it did. -/
def journalActsSpec : ChangeSpec := { name := "journalActs", fn := fun _ => fun
  | [d1, d2] => { results := [.lit (.bool true)], args := [d1, d2] }
  | _ => none }
def journalActsRow : OpenClaim := { program := "ytgdaojbflokmoaa", sum := "a524a61dd875629c14015f2b7e1ee548f146764541f3cd567ad6ec2ed2546f27", func := "distraint/distraintlaw10.JournalActs", spec := "journalActs", inPlace := ["math/bits.Add64"], unfollowed := true, recurses := true, apart := false }
def JournalActsSaid : Prop := journalActsRow.holds Try.pinned (OpenSpec.ofChange journalActsSpec)

/-- ITS FALSE NEIGHBOUR: 'it returns false'. Refute it at one input. -/
def journalActsWrong : ChangeSpec := { name := "journalActs", fn := fun _ => fun
  | [d1, d2] => { results := [.lit (.bool false)], args := [d1, d2] }
  | _ => none }
def JournalActsWrongFalsely : Prop := journalActsRow.holds Try.pinned (OpenSpec.ofChange journalActsWrong)

/-- 'distraintlaw10.JournalDeep': WHATEVER THE INPUT: true; the input reads as it did. -/
def journalDeepSpec : ChangeSpec := { name := "journalDeep", fn := fun _ => fun
  | [d1, d2] => { results := [.lit (.bool true)], args := [d1, d2] }
  | _ => none }
def journalDeepRow : OpenClaim := { program := "ytgdaojbflokmoaa", sum := "a524a61dd875629c14015f2b7e1ee548f146764541f3cd567ad6ec2ed2546f27", func := "distraint/distraintlaw10.JournalDeep", spec := "journalDeep", inPlace := ["math/bits.Add64"], unfollowed := true, recurses := true, apart := false }
def JournalDeepSaid : Prop := journalDeepRow.holds Try.pinned (OpenSpec.ofChange journalDeepSpec)

/-- ITS FALSE NEIGHBOUR: 'it returns false'. Refute it at one input. -/
def journalDeepWrong : ChangeSpec := { name := "journalDeep", fn := fun _ => fun
  | [d1, d2] => { results := [.lit (.bool false)], args := [d1, d2] }
  | _ => none }
def JournalDeepWrongFalsely : Prop := journalDeepRow.holds Try.pinned (OpenSpec.ofChange journalDeepWrong)

/- THE SECOND FORM. 'bulk': how many values and letters a reading holds, each counted each time it is reached (what is shared counts as often as it is met; a slice's spare places count too). A statement '..UptoSaid' is the law's where the arguments, and the package variables that the reading takes, are together of bulk at most 1048576: NARROWER than '..Said'. Prove '..Said' where nothing that the law and all that it calls make is longer than what came in: it says more and counts as full. Else prove '..UptoSaid'. A law counts once. -/
mutual
def uptoBulk {H : Type} : DataW H → Nat
  | .lit (.string bytes) => bytes.length + 1
  | .lit _ => 1
  | .nil => 1
  | .ptr d => uptoBulk d + 1
  | .slice elems spare => uptoBulkAll elems + uptoBulkAll spare + 1
  | .agg parts => uptoBulkAll parts + 1
  | .iface _ d => uptoBulk d + 1
  | .map entries => uptoBulkEntries entries + 1
  | .held _ => 1
def uptoBulkAll {H : Type} : List (DataW H) → Nat
  | [] => 0
  | d :: r => uptoBulk d + uptoBulkAll r
def uptoBulkEntries {H : Type} : List (Lit × DataW H) → Nat
  | [] => 0
  | x :: r => uptoBulkEntry x + uptoBulkEntries r
def uptoBulkEntry {H : Type} : Lit × DataW H → Nat
  | (.string bytes, d) => bytes.length + uptoBulk d + 1
  | (_, d) => uptoBulk d + 1
 end
def uptoSmall : (H : Type) → List (DataW H) → Bool := fun _ ds => decide (uptoBulkAll ds ≤ 1048576)
def OpenSpec.upto (s : _root_.Go.ChangeSpec) : _root_.Go.OpenSpec := { _root_.Go.OpenSpec.ofChange s with cond := some uptoSmall }

/-- 'distraintlaw09.BankMoves', WHERE WHAT IT READS IS OF BULK AT MOST 1048576: true; the input reads as it did. -/
def bankMovesUptoRow : OpenClaim := { program := "ytgdaojbflokmoaa", sum := "a524a61dd875629c14015f2b7e1ee548f146764541f3cd567ad6ec2ed2546f27", func := "distraint/distraintlaw09.BankMoves", spec := "bankMoves", inPlace := ["math/bits.Add64"], unfollowed := true, recurses := true, apart := false, narrowed := true }
def BankMovesUptoSaid : Prop := bankMovesUptoRow.holds Try.pinned (OpenSpec.upto bankMovesSpec)

/-- 'distraintlaw10.JournalActs', WHERE WHAT IT READS IS OF BULK AT MOST 1048576: true; the input reads as it did. -/
def journalActsUptoRow : OpenClaim := { program := "ytgdaojbflokmoaa", sum := "a524a61dd875629c14015f2b7e1ee548f146764541f3cd567ad6ec2ed2546f27", func := "distraint/distraintlaw10.JournalActs", spec := "journalActs", inPlace := ["math/bits.Add64"], unfollowed := true, recurses := true, apart := false, narrowed := true }
def JournalActsUptoSaid : Prop := journalActsUptoRow.holds Try.pinned (OpenSpec.upto journalActsSpec)

/-- 'distraintlaw10.JournalDeep', WHERE WHAT IT READS IS OF BULK AT MOST 1048576: true; the input reads as it did. -/
def journalDeepUptoRow : OpenClaim := { program := "ytgdaojbflokmoaa", sum := "a524a61dd875629c14015f2b7e1ee548f146764541f3cd567ad6ec2ed2546f27", func := "distraint/distraintlaw10.JournalDeep", spec := "journalDeep", inPlace := ["math/bits.Add64"], unfollowed := true, recurses := true, apart := false, narrowed := true }
def JournalDeepUptoSaid : Prop := journalDeepUptoRow.holds Try.pinned (OpenSpec.upto journalDeepSpec)

end Rows
end Go.Proofs.Ytgdaojbflokmoaa
