/-
  No cell of these rows narrows 'for every input' (looked for: loops, veiled, ifaces, maps, wideKeys, modest, calm, conditions, laid).
  DERIVED. THE GIVEN ROWS OF THIS SEAT. 5 by the template 'for every input the law returns true; each argument reads behind the call as it read before'; 0 by the template 'total and deterministic' (their statements: YtmbodfmdaocppaaTotals.lean).
  GIVEN WITH THE SEED: the statements are not yours to turn. If you find one false, say at which input.
  Laid BY PROGRAM, IN A SANDBOX (cutbox-rows.mjs): the forced cells as the released guide's own fill.sh prints them over the translation bb21a962224354e4… (all of the seat's roots in one cut). By AI agents, Wed Nov 11 2026. No macro, syntax, notation, axiom, sorry.
-/
import Derived.Test.YtmbodfmdaocppaaChecked
import GoSem.Claim
import GoSem.ClaimJoined
import GoSem.ClaimMapViews
import Derived.JoinedTies
import Derived.KernelRfl
namespace Go.Proofs.Ytmbodfmdaocppaa
/- THE CELL 'sum', in the pinned program and in every row, IS THE sha256 OF THE DUMP (.gsa) THAT YtmbodfmdaocppaaProg.lean LOADS. Nothing in Lean hashes anything: it is a label: what it is worth is what the hold of that sum in a sandbox is worth. -/
noncomputable def Try.pinned : Pinned := { name := "ytmbodfmdaocppaa", sum := "bb21a962224354e4d4aa42ae35ee1acb9525bc7672f3f882217a20e27f2b2e06", checked := Try.checked }
namespace Rows
def none {H : Type} : Left H := { results := [], args := [] }

/-- 'distraintlaw17.ActiveChooses': WHATEVER THE INPUT: true; the input reads as it did. -/
def activeChoosesSpec : ChangeSpec := { name := "activeChooses", fn := fun _ => fun
  | [d1, d2, d3] => { results := [.lit (.bool true)], args := [d1, d2, d3] }
  | _ => none }
def activeChoosesRow : OpenClaim := { program := "ytmbodfmdaocppaa", sum := "bb21a962224354e4d4aa42ae35ee1acb9525bc7672f3f882217a20e27f2b2e06", func := "distraint/distraintlaw17.ActiveChooses", spec := "activeChooses", inPlace := ["math/bits.Add64"], unfollowed := true, recurses := true, named := ["math/bits.divideError", "math/bits.overflowError"], apart := false }
def ActiveChoosesSaid : Prop := activeChoosesRow.holds Try.pinned (OpenSpec.ofChange activeChoosesSpec)

/-- ITS FALSE NEIGHBOUR: 'it returns false'. Refute it at one input. -/
def activeChoosesWrong : ChangeSpec := { name := "activeChooses", fn := fun _ => fun
  | [d1, d2, d3] => { results := [.lit (.bool false)], args := [d1, d2, d3] }
  | _ => none }
def ActiveChoosesWrongFalsely : Prop := activeChoosesRow.holds Try.pinned (OpenSpec.ofChange activeChoosesWrong)

/-- 'distraintlaw17.ActiveKnown': WHATEVER THE INPUT: true; the input reads as it did. -/
def activeKnownSpec : ChangeSpec := { name := "activeKnown", fn := fun _ => fun
  | [] => { results := [.lit (.bool true)], args := [] }
  | _ => none }
def activeKnownRow : OpenClaim := { program := "ytmbodfmdaocppaa", sum := "bb21a962224354e4d4aa42ae35ee1acb9525bc7672f3f882217a20e27f2b2e06", func := "distraint/distraintlaw17.ActiveKnown", spec := "activeKnown", inPlace := ["math/bits.Add64"], unfollowed := true, recurses := true, named := ["math/bits.divideError", "math/bits.overflowError"], apart := false }
def ActiveKnownSaid : Prop := activeKnownRow.holds Try.pinned (OpenSpec.ofChange activeKnownSpec)

/-- ITS FALSE NEIGHBOUR: 'it returns false'. Refute it at one input. -/
def activeKnownWrong : ChangeSpec := { name := "activeKnown", fn := fun _ => fun
  | [] => { results := [.lit (.bool false)], args := [] }
  | _ => none }
def ActiveKnownWrongFalsely : Prop := activeKnownRow.holds Try.pinned (OpenSpec.ofChange activeKnownWrong)

/-- 'distraintlaw17.ActiveRichest': WHATEVER THE INPUT: true; the input reads as it did. -/
def activeRichestSpec : ChangeSpec := { name := "activeRichest", fn := fun _ => fun
  | [d1, d2, d3] => { results := [.lit (.bool true)], args := [d1, d2, d3] }
  | _ => none }
def activeRichestRow : OpenClaim := { program := "ytmbodfmdaocppaa", sum := "bb21a962224354e4d4aa42ae35ee1acb9525bc7672f3f882217a20e27f2b2e06", func := "distraint/distraintlaw17.ActiveRichest", spec := "activeRichest", inPlace := ["math/bits.Add64"], unfollowed := true, recurses := true, named := ["math/bits.divideError", "math/bits.overflowError"], apart := false }
def ActiveRichestSaid : Prop := activeRichestRow.holds Try.pinned (OpenSpec.ofChange activeRichestSpec)

/-- ITS FALSE NEIGHBOUR: 'it returns false'. Refute it at one input. -/
def activeRichestWrong : ChangeSpec := { name := "activeRichest", fn := fun _ => fun
  | [d1, d2, d3] => { results := [.lit (.bool false)], args := [d1, d2, d3] }
  | _ => none }
def ActiveRichestWrongFalsely : Prop := activeRichestRow.holds Try.pinned (OpenSpec.ofChange activeRichestWrong)

/-- 'distraintlaw17.ActiveStays': WHATEVER THE INPUT: true; the input reads as it did. -/
def activeStaysSpec : ChangeSpec := { name := "activeStays", fn := fun _ => fun
  | [d1, d2, d3, d4, d5, d6] => { results := [.lit (.bool true)], args := [d1, d2, d3, d4, d5, d6] }
  | _ => none }
def activeStaysRow : OpenClaim := { program := "ytmbodfmdaocppaa", sum := "bb21a962224354e4d4aa42ae35ee1acb9525bc7672f3f882217a20e27f2b2e06", func := "distraint/distraintlaw17.ActiveStays", spec := "activeStays", inPlace := ["math/bits.Add64"], unfollowed := true, recurses := true, named := ["math/bits.divideError", "math/bits.overflowError"], apart := false }
def ActiveStaysSaid : Prop := activeStaysRow.holds Try.pinned (OpenSpec.ofChange activeStaysSpec)

/-- ITS FALSE NEIGHBOUR: 'it returns false'. Refute it at one input. -/
def activeStaysWrong : ChangeSpec := { name := "activeStays", fn := fun _ => fun
  | [d1, d2, d3, d4, d5, d6] => { results := [.lit (.bool false)], args := [d1, d2, d3, d4, d5, d6] }
  | _ => none }
def ActiveStaysWrongFalsely : Prop := activeStaysRow.holds Try.pinned (OpenSpec.ofChange activeStaysWrong)

/-- 'distraintlaw17.ActiveQuorums': WHATEVER THE INPUT: true; the input reads as it did. -/
def activeQuorumsSpec : ChangeSpec := { name := "activeQuorums", fn := fun _ => fun
  | [d1, d2, d3] => { results := [.lit (.bool true)], args := [d1, d2, d3] }
  | _ => none }
def activeQuorumsRow : OpenClaim := { program := "ytmbodfmdaocppaa", sum := "bb21a962224354e4d4aa42ae35ee1acb9525bc7672f3f882217a20e27f2b2e06", func := "distraint/distraintlaw17.ActiveQuorums", spec := "activeQuorums", inPlace := ["math/bits.Add64"], unfollowed := true, recurses := true, named := ["math/bits.divideError", "math/bits.overflowError"], apart := false }
def ActiveQuorumsSaid : Prop := activeQuorumsRow.holds Try.pinned (OpenSpec.ofChange activeQuorumsSpec)

/-- ITS FALSE NEIGHBOUR: 'it returns false'. Refute it at one input. -/
def activeQuorumsWrong : ChangeSpec := { name := "activeQuorums", fn := fun _ => fun
  | [d1, d2, d3] => { results := [.lit (.bool false)], args := [d1, d2, d3] }
  | _ => none }
def ActiveQuorumsWrongFalsely : Prop := activeQuorumsRow.holds Try.pinned (OpenSpec.ofChange activeQuorumsWrong)

/- THE SECOND FORM. 'bulk': how many values and letters a reading holds, each counted each time it is reached (what is shared counts as often as it is met; a slice's spare places count too). A statement '..UptoSaid' is the law's where the arguments, and the package variables that the reading takes, are together of bulk at most 1048576: NARROWER than '..Said'. Prove '..Said' where nothing that the law and all that it calls make is longer than what came in: it says more and counts as full. Else prove '..UptoSaid'. A law counts once. -/
mutual
def uptoBulk {H : Type} : DataW H → Nat
  | .lit (.string bytes) => bytes.length + 1
  | .lit _ => 1
  | .nil => 1
  | .ptr d => uptoBulk d + 1
  | .slice elems spare => uptoBulkAll elems + uptoBulkAll spare + 1
  | .agg parts => uptoBulkAll parts + 1
  | .iface _ d => uptoBulk d + 1
  | .map entries => uptoBulkEntries entries + 1
  | .held _ => 1
def uptoBulkAll {H : Type} : List (DataW H) → Nat
  | [] => 0
  | d :: r => uptoBulk d + uptoBulkAll r
def uptoBulkEntries {H : Type} : List (Lit × DataW H) → Nat
  | [] => 0
  | x :: r => uptoBulkEntry x + uptoBulkEntries r
def uptoBulkEntry {H : Type} : Lit × DataW H → Nat
  | (.string bytes, d) => bytes.length + uptoBulk d + 1
  | (_, d) => uptoBulk d + 1
 end
def uptoSmall : (H : Type) → List (DataW H) → Bool := fun _ ds => decide (uptoBulkAll ds ≤ 1048576)
def OpenSpec.upto (s : _root_.Go.ChangeSpec) : _root_.Go.OpenSpec := { _root_.Go.OpenSpec.ofChange s with cond := some uptoSmall }

/-- 'distraintlaw17.ActiveChooses', WHERE WHAT IT READS IS OF BULK AT MOST 1048576: true; the input reads as it did. -/
def activeChoosesUptoRow : OpenClaim := { program := "ytmbodfmdaocppaa", sum := "bb21a962224354e4d4aa42ae35ee1acb9525bc7672f3f882217a20e27f2b2e06", func := "distraint/distraintlaw17.ActiveChooses", spec := "activeChooses", inPlace := ["math/bits.Add64"], unfollowed := true, recurses := true, named := ["math/bits.divideError", "math/bits.overflowError"], apart := false, narrowed := true }
def ActiveChoosesUptoSaid : Prop := activeChoosesUptoRow.holds Try.pinned (OpenSpec.upto activeChoosesSpec)

/-- 'distraintlaw17.ActiveKnown', WHERE WHAT IT READS IS OF BULK AT MOST 1048576: true; the input reads as it did. -/
def activeKnownUptoRow : OpenClaim := { program := "ytmbodfmdaocppaa", sum := "bb21a962224354e4d4aa42ae35ee1acb9525bc7672f3f882217a20e27f2b2e06", func := "distraint/distraintlaw17.ActiveKnown", spec := "activeKnown", inPlace := ["math/bits.Add64"], unfollowed := true, recurses := true, named := ["math/bits.divideError", "math/bits.overflowError"], apart := false, narrowed := true }
def ActiveKnownUptoSaid : Prop := activeKnownUptoRow.holds Try.pinned (OpenSpec.upto activeKnownSpec)

/-- 'distraintlaw17.ActiveRichest', WHERE WHAT IT READS IS OF BULK AT MOST 1048576: true; the input reads as it did. -/
def activeRichestUptoRow : OpenClaim := { program := "ytmbodfmdaocppaa", sum := "bb21a962224354e4d4aa42ae35ee1acb9525bc7672f3f882217a20e27f2b2e06", func := "distraint/distraintlaw17.ActiveRichest", spec := "activeRichest", inPlace := ["math/bits.Add64"], unfollowed := true, recurses := true, named := ["math/bits.divideError", "math/bits.overflowError"], apart := false, narrowed := true }
def ActiveRichestUptoSaid : Prop := activeRichestUptoRow.holds Try.pinned (OpenSpec.upto activeRichestSpec)

/-- 'distraintlaw17.ActiveStays', WHERE WHAT IT READS IS OF BULK AT MOST 1048576: true; the input reads as it did. -/
def activeStaysUptoRow : OpenClaim := { program := "ytmbodfmdaocppaa", sum := "bb21a962224354e4d4aa42ae35ee1acb9525bc7672f3f882217a20e27f2b2e06", func := "distraint/distraintlaw17.ActiveStays", spec := "activeStays", inPlace := ["math/bits.Add64"], unfollowed := true, recurses := true, named := ["math/bits.divideError", "math/bits.overflowError"], apart := false, narrowed := true }
def ActiveStaysUptoSaid : Prop := activeStaysUptoRow.holds Try.pinned (OpenSpec.upto activeStaysSpec)

/-- 'distraintlaw17.ActiveQuorums', WHERE WHAT IT READS IS OF BULK AT MOST 1048576: true; the input reads as it did. -/
def activeQuorumsUptoRow : OpenClaim := { program := "ytmbodfmdaocppaa", sum := "bb21a962224354e4d4aa42ae35ee1acb9525bc7672f3f882217a20e27f2b2e06", func := "distraint/distraintlaw17.ActiveQuorums", spec := "activeQuorums", inPlace := ["math/bits.Add64"], unfollowed := true, recurses := true, named := ["math/bits.divideError", "math/bits.overflowError"], apart := false, narrowed := true }
def ActiveQuorumsUptoSaid : Prop := activeQuorumsUptoRow.holds Try.pinned (OpenSpec.upto activeQuorumsSpec)

end Rows
end Go.Proofs.Ytmbodfmdaocppaa
