/-
  No cell of these rows narrows 'for every input' (looked for: loops, veiled, ifaces, maps, wideKeys, modest, calm, conditions, laid).
  DERIVED. THE GIVEN ROWS OF THIS SEAT. 5 by the template 'for every input the law returns true; each argument reads behind the call as it read before'; 0 by the template 'total and deterministic' (their statements: YtlhahjpjlahdiaaTotals.lean).
  GIVEN WITH THE SEED: the statements are not yours to turn. If you find one false, say at which input.
  Laid BY PROGRAM, IN A SANDBOX (cutbox-rows.mjs): the forced cells as the released guide's own fill.sh prints them over the translation f9709c558cebef23… (all of the seat's roots in one cut). By AI agents, Wed Nov 11 2026. No macro, syntax, notation, axiom, sorry.
-/
import Derived.Test.YtlhahjpjlahdiaaChecked
import GoSem.Claim
import GoSem.ClaimJoined
import GoSem.ClaimMapViews
import Derived.JoinedTies
import Derived.KernelRfl
namespace Go.Proofs.Ytlhahjpjlahdiaa
/- THE CELL 'sum', in the pinned program and in every row, IS THE sha256 OF THE DUMP (.gsa) THAT YtlhahjpjlahdiaaProg.lean LOADS. Nothing in Lean hashes anything: it is a label: what it is worth is what the hold of that sum in a sandbox is worth. -/
noncomputable def Try.pinned : Pinned := { name := "ytlhahjpjlahdiaa", sum := "f9709c558cebef2353bf85b5651ccab0ed5e7f885f95696a5cc0cea3925e6122", checked := Try.checked }
namespace Rows
def none {H : Type} : Left H := { results := [], args := [] }

/-- 'distraintlaw08.PeriodHeights': WHATEVER THE INPUT: true; the input reads as it did. -/
def periodHeightsSpec : ChangeSpec := { name := "periodHeights", fn := fun _ => fun
  | [d1, d2, d3] => { results := [.lit (.bool true)], args := [d1, d2, d3] }
  | _ => none }
def periodHeightsRow : OpenClaim := { program := "ytlhahjpjlahdiaa", sum := "f9709c558cebef2353bf85b5651ccab0ed5e7f885f95696a5cc0cea3925e6122", func := "distraint/distraintlaw08.PeriodHeights", spec := "periodHeights", unfollowed := true, recurses := true, apart := false }
def PeriodHeightsSaid : Prop := periodHeightsRow.holds Try.pinned (OpenSpec.ofChange periodHeightsSpec)

/-- ITS FALSE NEIGHBOUR: 'it returns false'. Refute it at one input. -/
def periodHeightsWrong : ChangeSpec := { name := "periodHeights", fn := fun _ => fun
  | [d1, d2, d3] => { results := [.lit (.bool false)], args := [d1, d2, d3] }
  | _ => none }
def PeriodHeightsWrongFalsely : Prop := periodHeightsRow.holds Try.pinned (OpenSpec.ofChange periodHeightsWrong)

/-- 'distraintlaw08.PeriodTells': WHATEVER THE INPUT: true; the input reads as it did. -/
def periodTellsSpec : ChangeSpec := { name := "periodTells", fn := fun _ => fun
  | [d1, d2, d3] => { results := [.lit (.bool true)], args := [d1, d2, d3] }
  | _ => none }
def periodTellsRow : OpenClaim := { program := "ytlhahjpjlahdiaa", sum := "f9709c558cebef2353bf85b5651ccab0ed5e7f885f95696a5cc0cea3925e6122", func := "distraint/distraintlaw08.PeriodTells", spec := "periodTells", unfollowed := true, recurses := true, apart := false }
def PeriodTellsSaid : Prop := periodTellsRow.holds Try.pinned (OpenSpec.ofChange periodTellsSpec)

/-- ITS FALSE NEIGHBOUR: 'it returns false'. Refute it at one input. -/
def periodTellsWrong : ChangeSpec := { name := "periodTells", fn := fun _ => fun
  | [d1, d2, d3] => { results := [.lit (.bool false)], args := [d1, d2, d3] }
  | _ => none }
def PeriodTellsWrongFalsely : Prop := periodTellsRow.holds Try.pinned (OpenSpec.ofChange periodTellsWrong)

/-- 'distraintlaw08.PeriodKnown': WHATEVER THE INPUT: true; the input reads as it did. -/
def periodKnownSpec : ChangeSpec := { name := "periodKnown", fn := fun _ => fun
  | [] => { results := [.lit (.bool true)], args := [] }
  | _ => none }
def periodKnownRow : OpenClaim := { program := "ytlhahjpjlahdiaa", sum := "f9709c558cebef2353bf85b5651ccab0ed5e7f885f95696a5cc0cea3925e6122", func := "distraint/distraintlaw08.PeriodKnown", spec := "periodKnown", unfollowed := true, recurses := true, apart := false }
def PeriodKnownSaid : Prop := periodKnownRow.holds Try.pinned (OpenSpec.ofChange periodKnownSpec)

/-- ITS FALSE NEIGHBOUR: 'it returns false'. Refute it at one input. -/
def periodKnownWrong : ChangeSpec := { name := "periodKnown", fn := fun _ => fun
  | [] => { results := [.lit (.bool false)], args := [] }
  | _ => none }
def PeriodKnownWrongFalsely : Prop := periodKnownRow.holds Try.pinned (OpenSpec.ofChange periodKnownWrong)

/-- 'distraintlaw08.PeriodEpochs': WHATEVER THE INPUT: true; the input reads as it did. -/
def periodEpochsSpec : ChangeSpec := { name := "periodEpochs", fn := fun _ => fun
  | [d1, d2, d3] => { results := [.lit (.bool true)], args := [d1, d2, d3] }
  | _ => none }
def periodEpochsRow : OpenClaim := { program := "ytlhahjpjlahdiaa", sum := "f9709c558cebef2353bf85b5651ccab0ed5e7f885f95696a5cc0cea3925e6122", func := "distraint/distraintlaw08.PeriodEpochs", spec := "periodEpochs", unfollowed := true, recurses := true, apart := false }
def PeriodEpochsSaid : Prop := periodEpochsRow.holds Try.pinned (OpenSpec.ofChange periodEpochsSpec)

/-- ITS FALSE NEIGHBOUR: 'it returns false'. Refute it at one input. -/
def periodEpochsWrong : ChangeSpec := { name := "periodEpochs", fn := fun _ => fun
  | [d1, d2, d3] => { results := [.lit (.bool false)], args := [d1, d2, d3] }
  | _ => none }
def PeriodEpochsWrongFalsely : Prop := periodEpochsRow.holds Try.pinned (OpenSpec.ofChange periodEpochsWrong)

/-- 'distraintlaw08.PeriodLasts': WHATEVER THE INPUT: true; the input reads as it did. -/
def periodLastsSpec : ChangeSpec := { name := "periodLasts", fn := fun _ => fun
  | [d1, d2, d3, d4] => { results := [.lit (.bool true)], args := [d1, d2, d3, d4] }
  | _ => none }
def periodLastsRow : OpenClaim := { program := "ytlhahjpjlahdiaa", sum := "f9709c558cebef2353bf85b5651ccab0ed5e7f885f95696a5cc0cea3925e6122", func := "distraint/distraintlaw08.PeriodLasts", spec := "periodLasts", unfollowed := true, recurses := true, apart := false }
def PeriodLastsSaid : Prop := periodLastsRow.holds Try.pinned (OpenSpec.ofChange periodLastsSpec)

/-- ITS FALSE NEIGHBOUR: 'it returns false'. Refute it at one input. -/
def periodLastsWrong : ChangeSpec := { name := "periodLasts", fn := fun _ => fun
  | [d1, d2, d3, d4] => { results := [.lit (.bool false)], args := [d1, d2, d3, d4] }
  | _ => none }
def PeriodLastsWrongFalsely : Prop := periodLastsRow.holds Try.pinned (OpenSpec.ofChange periodLastsWrong)

/- THE SECOND FORM. 'bulk': how many values and letters a reading holds, each counted each time it is reached (what is shared counts as often as it is met; a slice's spare places count too). A statement '..UptoSaid' is the law's where the arguments, and the package variables that the reading takes, are together of bulk at most 1048576: NARROWER than '..Said'. Prove '..Said' where nothing that the law and all that it calls make is longer than what came in: it says more and counts as full. Else prove '..UptoSaid'. A law counts once. -/
mutual
def uptoBulk {H : Type} : DataW H → Nat
  | .lit (.string bytes) => bytes.length + 1
  | .lit _ => 1
  | .nil => 1
  | .ptr d => uptoBulk d + 1
  | .slice elems spare => uptoBulkAll elems + uptoBulkAll spare + 1
  | .agg parts => uptoBulkAll parts + 1
  | .iface _ d => uptoBulk d + 1
  | .map entries => uptoBulkEntries entries + 1
  | .held _ => 1
def uptoBulkAll {H : Type} : List (DataW H) → Nat
  | [] => 0
  | d :: r => uptoBulk d + uptoBulkAll r
def uptoBulkEntries {H : Type} : List (Lit × DataW H) → Nat
  | [] => 0
  | x :: r => uptoBulkEntry x + uptoBulkEntries r
def uptoBulkEntry {H : Type} : Lit × DataW H → Nat
  | (.string bytes, d) => bytes.length + uptoBulk d + 1
  | (_, d) => uptoBulk d + 1
 end
def uptoSmall : (H : Type) → List (DataW H) → Bool := fun _ ds => decide (uptoBulkAll ds ≤ 1048576)
def OpenSpec.upto (s : _root_.Go.ChangeSpec) : _root_.Go.OpenSpec := { _root_.Go.OpenSpec.ofChange s with cond := some uptoSmall }

/-- 'distraintlaw08.PeriodHeights', WHERE WHAT IT READS IS OF BULK AT MOST 1048576: true; the input reads as it did. -/
def periodHeightsUptoRow : OpenClaim := { program := "ytlhahjpjlahdiaa", sum := "f9709c558cebef2353bf85b5651ccab0ed5e7f885f95696a5cc0cea3925e6122", func := "distraint/distraintlaw08.PeriodHeights", spec := "periodHeights", unfollowed := true, recurses := true, apart := false, narrowed := true }
def PeriodHeightsUptoSaid : Prop := periodHeightsUptoRow.holds Try.pinned (OpenSpec.upto periodHeightsSpec)

/-- 'distraintlaw08.PeriodTells', WHERE WHAT IT READS IS OF BULK AT MOST 1048576: true; the input reads as it did. -/
def periodTellsUptoRow : OpenClaim := { program := "ytlhahjpjlahdiaa", sum := "f9709c558cebef2353bf85b5651ccab0ed5e7f885f95696a5cc0cea3925e6122", func := "distraint/distraintlaw08.PeriodTells", spec := "periodTells", unfollowed := true, recurses := true, apart := false, narrowed := true }
def PeriodTellsUptoSaid : Prop := periodTellsUptoRow.holds Try.pinned (OpenSpec.upto periodTellsSpec)

/-- 'distraintlaw08.PeriodKnown', WHERE WHAT IT READS IS OF BULK AT MOST 1048576: true; the input reads as it did. -/
def periodKnownUptoRow : OpenClaim := { program := "ytlhahjpjlahdiaa", sum := "f9709c558cebef2353bf85b5651ccab0ed5e7f885f95696a5cc0cea3925e6122", func := "distraint/distraintlaw08.PeriodKnown", spec := "periodKnown", unfollowed := true, recurses := true, apart := false, narrowed := true }
def PeriodKnownUptoSaid : Prop := periodKnownUptoRow.holds Try.pinned (OpenSpec.upto periodKnownSpec)

/-- 'distraintlaw08.PeriodEpochs', WHERE WHAT IT READS IS OF BULK AT MOST 1048576: true; the input reads as it did. -/
def periodEpochsUptoRow : OpenClaim := { program := "ytlhahjpjlahdiaa", sum := "f9709c558cebef2353bf85b5651ccab0ed5e7f885f95696a5cc0cea3925e6122", func := "distraint/distraintlaw08.PeriodEpochs", spec := "periodEpochs", unfollowed := true, recurses := true, apart := false, narrowed := true }
def PeriodEpochsUptoSaid : Prop := periodEpochsUptoRow.holds Try.pinned (OpenSpec.upto periodEpochsSpec)

/-- 'distraintlaw08.PeriodLasts', WHERE WHAT IT READS IS OF BULK AT MOST 1048576: true; the input reads as it did. -/
def periodLastsUptoRow : OpenClaim := { program := "ytlhahjpjlahdiaa", sum := "f9709c558cebef2353bf85b5651ccab0ed5e7f885f95696a5cc0cea3925e6122", func := "distraint/distraintlaw08.PeriodLasts", spec := "periodLasts", unfollowed := true, recurses := true, apart := false, narrowed := true }
def PeriodLastsUptoSaid : Prop := periodLastsUptoRow.holds Try.pinned (OpenSpec.upto periodLastsSpec)

end Rows
end Go.Proofs.Ytlhahjpjlahdiaa
