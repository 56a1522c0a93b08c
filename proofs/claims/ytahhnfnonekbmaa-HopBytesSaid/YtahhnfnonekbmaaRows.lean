/-
  No cell of these rows narrows 'for every input' (looked for: loops, veiled, ifaces, maps, wideKeys, modest, calm, conditions, laid).
  DERIVED. THE GIVEN ROWS OF THIS SEAT. 6 by the template 'for every input the law returns true; each argument reads behind the call as it read before'; 0 by the template 'total and deterministic' (their statements: YtahhnfnonekbmaaTotals.lean).
  GIVEN WITH THE SEED: the statements are not yours to turn. If you find one false, say at which input.
  Laid BY PROGRAM, IN A SANDBOX (cutbox-rows.mjs): the forced cells as the released guide's own fill.sh prints them over the translation f12713ed04c5cca3… (all of the seat's roots in one cut). By AI agents, Wed Nov 11 2026. No macro, syntax, notation, axiom, sorry.
-/
import Derived.Test.YtahhnfnonekbmaaChecked
import GoSem.Claim
import GoSem.ClaimJoined
import GoSem.ClaimMapViews
import Derived.JoinedTies
import Derived.KernelRfl
namespace Go.Proofs.Ytahhnfnonekbmaa
/- THE CELL 'sum', in the pinned program and in every row, IS THE sha256 OF THE DUMP (.gsa) THAT YtahhnfnonekbmaaProg.lean LOADS. Nothing in Lean hashes anything: it is a label: what it is worth is what the hold of that sum in a sandbox is worth. -/
noncomputable def Try.pinned : Pinned := { name := "ytahhnfnonekbmaa", sum := "f12713ed04c5cca3a445a793830eaa91be004db95f4c84f31bdb78f61fb6951f", checked := Try.checked }
namespace Rows
def none {H : Type} : Left H := { results := [], args := [] }

/-- 'distraintlaw15.HopLists': WHATEVER THE INPUT: true; the input reads as it did. -/
def hopListsSpec : ChangeSpec := { name := "hopLists", fn := fun _ => fun
  | [d1, d2, d3, d4, d5] => { results := [.lit (.bool true)], args := [d1, d2, d3, d4, d5] }
  | _ => none }
def hopListsRow : OpenClaim := { program := "ytahhnfnonekbmaa", sum := "f12713ed04c5cca3a445a793830eaa91be004db95f4c84f31bdb78f61fb6951f", func := "distraint/distraintlaw15.HopLists", spec := "hopLists", unfollowed := true, recurses := true, plainKeys := false, apart := false }
def HopListsSaid : Prop := hopListsRow.holds Try.pinned (OpenSpec.ofChange hopListsSpec)

/-- ITS FALSE NEIGHBOUR: 'it returns false'. Refute it at one input. -/
def hopListsWrong : ChangeSpec := { name := "hopLists", fn := fun _ => fun
  | [d1, d2, d3, d4, d5] => { results := [.lit (.bool false)], args := [d1, d2, d3, d4, d5] }
  | _ => none }
def HopListsWrongFalsely : Prop := hopListsRow.holds Try.pinned (OpenSpec.ofChange hopListsWrong)

/-- 'distraintlaw15.HopFull': WHATEVER THE INPUT: true; the input reads as it did. -/
def hopFullSpec : ChangeSpec := { name := "hopFull", fn := fun _ => fun
  | [d1, d2, d3] => { results := [.lit (.bool true)], args := [d1, d2, d3] }
  | _ => none }
def hopFullRow : OpenClaim := { program := "ytahhnfnonekbmaa", sum := "f12713ed04c5cca3a445a793830eaa91be004db95f4c84f31bdb78f61fb6951f", func := "distraint/distraintlaw15.HopFull", spec := "hopFull", unfollowed := true, recurses := true, plainKeys := false, apart := false }
def HopFullSaid : Prop := hopFullRow.holds Try.pinned (OpenSpec.ofChange hopFullSpec)

/-- ITS FALSE NEIGHBOUR: 'it returns false'. Refute it at one input. -/
def hopFullWrong : ChangeSpec := { name := "hopFull", fn := fun _ => fun
  | [d1, d2, d3] => { results := [.lit (.bool false)], args := [d1, d2, d3] }
  | _ => none }
def HopFullWrongFalsely : Prop := hopFullRow.holds Try.pinned (OpenSpec.ofChange hopFullWrong)

/-- 'distraintlaw15.HopBytes': WHATEVER THE INPUT: true; the input reads as it did. -/
def hopBytesSpec : ChangeSpec := { name := "hopBytes", fn := fun _ => fun
  | [d1, d2] => { results := [.lit (.bool true)], args := [d1, d2] }
  | _ => none }
def hopBytesRow : OpenClaim := { program := "ytahhnfnonekbmaa", sum := "f12713ed04c5cca3a445a793830eaa91be004db95f4c84f31bdb78f61fb6951f", func := "distraint/distraintlaw15.HopBytes", spec := "hopBytes", unfollowed := true, recurses := true, plainKeys := false, apart := false }
def HopBytesSaid : Prop := hopBytesRow.holds Try.pinned (OpenSpec.ofChange hopBytesSpec)

/-- ITS FALSE NEIGHBOUR: 'it returns false'. Refute it at one input. -/
def hopBytesWrong : ChangeSpec := { name := "hopBytes", fn := fun _ => fun
  | [d1, d2] => { results := [.lit (.bool false)], args := [d1, d2] }
  | _ => none }
def HopBytesWrongFalsely : Prop := hopBytesRow.holds Try.pinned (OpenSpec.ofChange hopBytesWrong)

/-- 'distraintlaw15.HopKnown': WHATEVER THE INPUT: true; the input reads as it did. -/
def hopKnownSpec : ChangeSpec := { name := "hopKnown", fn := fun _ => fun
  | [] => { results := [.lit (.bool true)], args := [] }
  | _ => none }
def hopKnownRow : OpenClaim := { program := "ytahhnfnonekbmaa", sum := "f12713ed04c5cca3a445a793830eaa91be004db95f4c84f31bdb78f61fb6951f", func := "distraint/distraintlaw15.HopKnown", spec := "hopKnown", unfollowed := true, recurses := true, plainKeys := false, apart := false }
def HopKnownSaid : Prop := hopKnownRow.holds Try.pinned (OpenSpec.ofChange hopKnownSpec)

/-- ITS FALSE NEIGHBOUR: 'it returns false'. Refute it at one input. -/
def hopKnownWrong : ChangeSpec := { name := "hopKnown", fn := fun _ => fun
  | [] => { results := [.lit (.bool false)], args := [] }
  | _ => none }
def HopKnownWrongFalsely : Prop := hopKnownRow.holds Try.pinned (OpenSpec.ofChange hopKnownWrong)

/-- 'distraintlaw15.HopRipens': WHATEVER THE INPUT: true; the input reads as it did. -/
def hopRipensSpec : ChangeSpec := { name := "hopRipens", fn := fun _ => fun
  | [d1, d2, d3, d4, d5] => { results := [.lit (.bool true)], args := [d1, d2, d3, d4, d5] }
  | _ => none }
def hopRipensRow : OpenClaim := { program := "ytahhnfnonekbmaa", sum := "f12713ed04c5cca3a445a793830eaa91be004db95f4c84f31bdb78f61fb6951f", func := "distraint/distraintlaw15.HopRipens", spec := "hopRipens", unfollowed := true, recurses := true, plainKeys := false, apart := false }
def HopRipensSaid : Prop := hopRipensRow.holds Try.pinned (OpenSpec.ofChange hopRipensSpec)

/-- ITS FALSE NEIGHBOUR: 'it returns false'. Refute it at one input. -/
def hopRipensWrong : ChangeSpec := { name := "hopRipens", fn := fun _ => fun
  | [d1, d2, d3, d4, d5] => { results := [.lit (.bool false)], args := [d1, d2, d3, d4, d5] }
  | _ => none }
def HopRipensWrongFalsely : Prop := hopRipensRow.holds Try.pinned (OpenSpec.ofChange hopRipensWrong)

/-- 'distraintlaw15.HopBack': WHATEVER THE INPUT: true; the input reads as it did. -/
def hopBackSpec : ChangeSpec := { name := "hopBack", fn := fun _ => fun
  | [d1, d2] => { results := [.lit (.bool true)], args := [d1, d2] }
  | _ => none }
def hopBackRow : OpenClaim := { program := "ytahhnfnonekbmaa", sum := "f12713ed04c5cca3a445a793830eaa91be004db95f4c84f31bdb78f61fb6951f", func := "distraint/distraintlaw15.HopBack", spec := "hopBack", unfollowed := true, recurses := true, plainKeys := false, apart := false }
def HopBackSaid : Prop := hopBackRow.holds Try.pinned (OpenSpec.ofChange hopBackSpec)

/-- ITS FALSE NEIGHBOUR: 'it returns false'. Refute it at one input. -/
def hopBackWrong : ChangeSpec := { name := "hopBack", fn := fun _ => fun
  | [d1, d2] => { results := [.lit (.bool false)], args := [d1, d2] }
  | _ => none }
def HopBackWrongFalsely : Prop := hopBackRow.holds Try.pinned (OpenSpec.ofChange hopBackWrong)

/- THE SECOND FORM. 'bulk': how many values and letters a reading holds, each counted each time it is reached (what is shared counts as often as it is met; a slice's spare places count too). A statement '..UptoSaid' is the law's where the arguments, and the package variables that the reading takes, are together of bulk at most 1048576: NARROWER than '..Said'. Prove '..Said' where nothing that the law and all that it calls make is longer than what came in: it says more and counts as full. Else prove '..UptoSaid'. A law counts once. -/
mutual
def uptoBulk {H : Type} : DataW H → Nat
  | .lit (.string bytes) => bytes.length + 1
  | .lit _ => 1
  | .nil => 1
  | .ptr d => uptoBulk d + 1
  | .slice elems spare => uptoBulkAll elems + uptoBulkAll spare + 1
  | .agg parts => uptoBulkAll parts + 1
  | .iface _ d => uptoBulk d + 1
  | .map entries => uptoBulkEntries entries + 1
  | .held _ => 1
def uptoBulkAll {H : Type} : List (DataW H) → Nat
  | [] => 0
  | d :: r => uptoBulk d + uptoBulkAll r
def uptoBulkEntries {H : Type} : List (Lit × DataW H) → Nat
  | [] => 0
  | x :: r => uptoBulkEntry x + uptoBulkEntries r
def uptoBulkEntry {H : Type} : Lit × DataW H → Nat
  | (.string bytes, d) => bytes.length + uptoBulk d + 1
  | (_, d) => uptoBulk d + 1
 end
def uptoSmall : (H : Type) → List (DataW H) → Bool := fun _ ds => decide (uptoBulkAll ds ≤ 1048576)
def OpenSpec.upto (s : _root_.Go.ChangeSpec) : _root_.Go.OpenSpec := { _root_.Go.OpenSpec.ofChange s with cond := some uptoSmall }

/-- 'distraintlaw15.HopLists', WHERE WHAT IT READS IS OF BULK AT MOST 1048576: true; the input reads as it did. -/
def hopListsUptoRow : OpenClaim := { program := "ytahhnfnonekbmaa", sum := "f12713ed04c5cca3a445a793830eaa91be004db95f4c84f31bdb78f61fb6951f", func := "distraint/distraintlaw15.HopLists", spec := "hopLists", unfollowed := true, recurses := true, plainKeys := false, apart := false, narrowed := true }
def HopListsUptoSaid : Prop := hopListsUptoRow.holds Try.pinned (OpenSpec.upto hopListsSpec)

/-- 'distraintlaw15.HopFull', WHERE WHAT IT READS IS OF BULK AT MOST 1048576: true; the input reads as it did. -/
def hopFullUptoRow : OpenClaim := { program := "ytahhnfnonekbmaa", sum := "f12713ed04c5cca3a445a793830eaa91be004db95f4c84f31bdb78f61fb6951f", func := "distraint/distraintlaw15.HopFull", spec := "hopFull", unfollowed := true, recurses := true, plainKeys := false, apart := false, narrowed := true }
def HopFullUptoSaid : Prop := hopFullUptoRow.holds Try.pinned (OpenSpec.upto hopFullSpec)

/-- 'distraintlaw15.HopBytes', WHERE WHAT IT READS IS OF BULK AT MOST 1048576: true; the input reads as it did. -/
def hopBytesUptoRow : OpenClaim := { program := "ytahhnfnonekbmaa", sum := "f12713ed04c5cca3a445a793830eaa91be004db95f4c84f31bdb78f61fb6951f", func := "distraint/distraintlaw15.HopBytes", spec := "hopBytes", unfollowed := true, recurses := true, plainKeys := false, apart := false, narrowed := true }
def HopBytesUptoSaid : Prop := hopBytesUptoRow.holds Try.pinned (OpenSpec.upto hopBytesSpec)

/-- 'distraintlaw15.HopKnown', WHERE WHAT IT READS IS OF BULK AT MOST 1048576: true; the input reads as it did. -/
def hopKnownUptoRow : OpenClaim := { program := "ytahhnfnonekbmaa", sum := "f12713ed04c5cca3a445a793830eaa91be004db95f4c84f31bdb78f61fb6951f", func := "distraint/distraintlaw15.HopKnown", spec := "hopKnown", unfollowed := true, recurses := true, plainKeys := false, apart := false, narrowed := true }
def HopKnownUptoSaid : Prop := hopKnownUptoRow.holds Try.pinned (OpenSpec.upto hopKnownSpec)

/-- 'distraintlaw15.HopRipens', WHERE WHAT IT READS IS OF BULK AT MOST 1048576: true; the input reads as it did. -/
def hopRipensUptoRow : OpenClaim := { program := "ytahhnfnonekbmaa", sum := "f12713ed04c5cca3a445a793830eaa91be004db95f4c84f31bdb78f61fb6951f", func := "distraint/distraintlaw15.HopRipens", spec := "hopRipens", unfollowed := true, recurses := true, plainKeys := false, apart := false, narrowed := true }
def HopRipensUptoSaid : Prop := hopRipensUptoRow.holds Try.pinned (OpenSpec.upto hopRipensSpec)

/-- 'distraintlaw15.HopBack', WHERE WHAT IT READS IS OF BULK AT MOST 1048576: true; the input reads as it did. -/
def hopBackUptoRow : OpenClaim := { program := "ytahhnfnonekbmaa", sum := "f12713ed04c5cca3a445a793830eaa91be004db95f4c84f31bdb78f61fb6951f", func := "distraint/distraintlaw15.HopBack", spec := "hopBack", unfollowed := true, recurses := true, plainKeys := false, apart := false, narrowed := true }
def HopBackUptoSaid : Prop := hopBackUptoRow.holds Try.pinned (OpenSpec.upto hopBackSpec)

end Rows
end Go.Proofs.Ytahhnfnonekbmaa
