/-
  NARROWER THAN 'FOR EVERY INPUT', by the rows' own cells (each row's printed sentence says how): KeccakSums: laid · KeccakPieces: laid · KeccakNone: laid · KeccakKnown: laid · KeccakTexts: laid · KeccakWhole: laid · KeccakTurns: laid.
  DERIVED. THE GIVEN ROWS OF THIS SEAT. 7 by the template 'for every input the law returns true; each argument reads behind the call as it read before'; 0 by the template 'total and deterministic' (their statements: YtaniijpppmipbaaDoorTotals.lean).
  GIVEN WITH THE SEED: the statements are not yours to turn. If you find one false, say at which input.
  Laid BY PROGRAM, IN A SANDBOX (cutbox-rows.mjs): the forced cells as the released guide's own fill.sh prints them over the translation 2cd549da9ead89c9… (all of the seat's roots in one cut). By AI agents, Wed Nov 11 2026. No macro, syntax, notation, axiom, sorry.
-/
import Derived.Test.YtaniijpppmipbaaDoorChecked
import GoSem.Claim
import GoSem.ClaimJoined
import GoSem.ClaimMapViews
import Derived.JoinedTies
import Derived.KernelRfl
namespace Go.Proofs.YtaniijpppmipbaaDoor
/- THE CELL 'sum', in the pinned program and in every row, IS THE sha256 OF THE DUMP (.gsa) THAT YtaniijpppmipbaaDoorProg.lean LOADS. Nothing in Lean hashes anything: it is a label: what it is worth is what the hold of that sum in a sandbox is worth. -/
noncomputable def Tryd.pinned : Pinned := { name := "ytaniijpppmipbaadoor", sum := "2cd549da9ead89c9bb96d01cf08134da90d4accc1a65fcfb6886fba50930c274", checked := Tryd.checked }
namespace Rows
def none {H : Type} : Left H := { results := [], args := [] }

/- WHAT THE LISTED PACKAGE-LEVEL VARIABLES READ AS WHEN THE CALL BEGINS. Each datum BY PROGRAM (the guide's laid-datum.mjs) off the statement by which the dump's own 'gosem.cut.vars' lays the variable. In a bare row this is a premise. The card (YtaniijpppmipbaaDoorCards.lean) ties it to the program's text. -/
def laid_distraint_keccak_turns {H : Type} : DataW H := .agg [.agg [.lit (.int .i64 0), .lit (.int .i64 1), .lit (.int .i64 62), .lit (.int .i64 28), .lit (.int .i64 27)], .agg [.lit (.int .i64 36), .lit (.int .i64 44), .lit (.int .i64 6), .lit (.int .i64 55), .lit (.int .i64 20)], .agg [.lit (.int .i64 3), .lit (.int .i64 10), .lit (.int .i64 43), .lit (.int .i64 25), .lit (.int .i64 39)], .agg [.lit (.int .i64 41), .lit (.int .i64 45), .lit (.int .i64 15), .lit (.int .i64 21), .lit (.int .i64 8)], .agg [.lit (.int .i64 18), .lit (.int .i64 2), .lit (.int .i64 61), .lit (.int .i64 56), .lit (.int .i64 14)]]

/-- 'distraintlaw03.KeccakSums': WHATEVER THE INPUT: true; the input reads as it did. -/
def keccakSumsSpec : ChangeSpec := { name := "keccakSums", fn := fun _ => fun
  | [d1, d2, d3, d4, d5] => { results := [.lit (.bool true)], args := [d1, d2, d3, d4, d5] }
  | _ => none }
def keccakSumsRow : OpenClaim := { program := "ytaniijpppmipbaadoor", sum := "2cd549da9ead89c9bb96d01cf08134da90d4accc1a65fcfb6886fba50930c274", func := "distraint/distraintlaw03.KeccakSums", spec := "keccakSums", inPlace := ["internal/abi.NoEscape", "internal/bytealg.IndexByteString"], unfollowed := true, recurses := true, named := ["distraint/keccak.turns"], apart := false, laid := [("distraint/keccak.turns", laid_distraint_keccak_turns)] }
def KeccakSumsSaid : Prop := keccakSumsRow.holds Tryd.pinned (OpenSpec.ofChange keccakSumsSpec)

/-- ITS FALSE NEIGHBOUR: 'it returns false'. Refute it at one input. -/
def keccakSumsWrong : ChangeSpec := { name := "keccakSums", fn := fun _ => fun
  | [d1, d2, d3, d4, d5] => { results := [.lit (.bool false)], args := [d1, d2, d3, d4, d5] }
  | _ => none }
def KeccakSumsWrongFalsely : Prop := keccakSumsRow.holds Tryd.pinned (OpenSpec.ofChange keccakSumsWrong)

/-- 'distraintlaw03.KeccakPieces': WHATEVER THE INPUT: true; the input reads as it did. -/
def keccakPiecesSpec : ChangeSpec := { name := "keccakPieces", fn := fun _ => fun
  | [d1, d2] => { results := [.lit (.bool true)], args := [d1, d2] }
  | _ => none }
def keccakPiecesRow : OpenClaim := { program := "ytaniijpppmipbaadoor", sum := "2cd549da9ead89c9bb96d01cf08134da90d4accc1a65fcfb6886fba50930c274", func := "distraint/distraintlaw03.KeccakPieces", spec := "keccakPieces", inPlace := ["internal/abi.NoEscape"], unfollowed := true, recurses := true, named := ["distraint/keccak.turns"], apart := false, laid := [("distraint/keccak.turns", laid_distraint_keccak_turns)] }
def KeccakPiecesSaid : Prop := keccakPiecesRow.holds Tryd.pinned (OpenSpec.ofChange keccakPiecesSpec)

/-- ITS FALSE NEIGHBOUR: 'it returns false'. Refute it at one input. -/
def keccakPiecesWrong : ChangeSpec := { name := "keccakPieces", fn := fun _ => fun
  | [d1, d2] => { results := [.lit (.bool false)], args := [d1, d2] }
  | _ => none }
def KeccakPiecesWrongFalsely : Prop := keccakPiecesRow.holds Tryd.pinned (OpenSpec.ofChange keccakPiecesWrong)

/-- 'distraintlaw03.KeccakNone': WHATEVER THE INPUT: true; the input reads as it did. -/
def keccakNoneSpec : ChangeSpec := { name := "keccakNone", fn := fun _ => fun
  | [d] => { results := [.lit (.bool true)], args := [d] }
  | _ => none }
def keccakNoneRow : OpenClaim := { program := "ytaniijpppmipbaadoor", sum := "2cd549da9ead89c9bb96d01cf08134da90d4accc1a65fcfb6886fba50930c274", func := "distraint/distraintlaw03.KeccakNone", spec := "keccakNone", inPlace := ["internal/abi.NoEscape"], unfollowed := true, recurses := true, named := ["distraint/keccak.turns"], apart := false, laid := [("distraint/keccak.turns", laid_distraint_keccak_turns)] }
def KeccakNoneSaid : Prop := keccakNoneRow.holds Tryd.pinned (OpenSpec.ofChange keccakNoneSpec)

/-- ITS FALSE NEIGHBOUR: 'it returns false'. Refute it at one input. -/
def keccakNoneWrong : ChangeSpec := { name := "keccakNone", fn := fun _ => fun
  | [d] => { results := [.lit (.bool false)], args := [d] }
  | _ => none }
def KeccakNoneWrongFalsely : Prop := keccakNoneRow.holds Tryd.pinned (OpenSpec.ofChange keccakNoneWrong)

/-- 'distraintlaw03.KeccakKnown': WHATEVER THE INPUT: true; the input reads as it did. -/
def keccakKnownSpec : ChangeSpec := { name := "keccakKnown", fn := fun _ => fun
  | [] => { results := [.lit (.bool true)], args := [] }
  | _ => none }
def keccakKnownRow : OpenClaim := { program := "ytaniijpppmipbaadoor", sum := "2cd549da9ead89c9bb96d01cf08134da90d4accc1a65fcfb6886fba50930c274", func := "distraint/distraintlaw03.KeccakKnown", spec := "keccakKnown", inPlace := ["internal/bytealg.IndexByteString", "internal/abi.NoEscape"], unfollowed := true, recurses := true, named := ["distraint/keccak.turns"], apart := false, laid := [("distraint/keccak.turns", laid_distraint_keccak_turns)] }
def KeccakKnownSaid : Prop := keccakKnownRow.holds Tryd.pinned (OpenSpec.ofChange keccakKnownSpec)

/-- ITS FALSE NEIGHBOUR: 'it returns false'. Refute it at one input. -/
def keccakKnownWrong : ChangeSpec := { name := "keccakKnown", fn := fun _ => fun
  | [] => { results := [.lit (.bool false)], args := [] }
  | _ => none }
def KeccakKnownWrongFalsely : Prop := keccakKnownRow.holds Tryd.pinned (OpenSpec.ofChange keccakKnownWrong)

/-- 'distraintlaw03.KeccakTexts': WHATEVER THE INPUT: true; the input reads as it did. -/
def keccakTextsSpec : ChangeSpec := { name := "keccakTexts", fn := fun _ => fun
  | [d1, d2, d3] => { results := [.lit (.bool true)], args := [d1, d2, d3] }
  | _ => none }
def keccakTextsRow : OpenClaim := { program := "ytaniijpppmipbaadoor", sum := "2cd549da9ead89c9bb96d01cf08134da90d4accc1a65fcfb6886fba50930c274", func := "distraint/distraintlaw03.KeccakTexts", spec := "keccakTexts", inPlace := ["internal/bytealg.IndexByteString", "internal/abi.NoEscape"], unfollowed := true, recurses := true, named := ["distraint/keccak.turns"], apart := false, laid := [("distraint/keccak.turns", laid_distraint_keccak_turns)] }
def KeccakTextsSaid : Prop := keccakTextsRow.holds Tryd.pinned (OpenSpec.ofChange keccakTextsSpec)

/-- ITS FALSE NEIGHBOUR: 'it returns false'. Refute it at one input. -/
def keccakTextsWrong : ChangeSpec := { name := "keccakTexts", fn := fun _ => fun
  | [d1, d2, d3] => { results := [.lit (.bool false)], args := [d1, d2, d3] }
  | _ => none }
def KeccakTextsWrongFalsely : Prop := keccakTextsRow.holds Tryd.pinned (OpenSpec.ofChange keccakTextsWrong)

/-- 'distraintlaw03.KeccakWhole': WHATEVER THE INPUT: true; the input reads as it did. -/
def keccakWholeSpec : ChangeSpec := { name := "keccakWhole", fn := fun _ => fun
  | [d1, d2] => { results := [.lit (.bool true)], args := [d1, d2] }
  | _ => none }
def keccakWholeRow : OpenClaim := { program := "ytaniijpppmipbaadoor", sum := "2cd549da9ead89c9bb96d01cf08134da90d4accc1a65fcfb6886fba50930c274", func := "distraint/distraintlaw03.KeccakWhole", spec := "keccakWhole", inPlace := ["internal/bytealg.IndexByteString", "internal/abi.NoEscape"], unfollowed := true, recurses := true, named := ["distraint/keccak.turns"], apart := false, laid := [("distraint/keccak.turns", laid_distraint_keccak_turns)] }
def KeccakWholeSaid : Prop := keccakWholeRow.holds Tryd.pinned (OpenSpec.ofChange keccakWholeSpec)

/-- ITS FALSE NEIGHBOUR: 'it returns false'. Refute it at one input. -/
def keccakWholeWrong : ChangeSpec := { name := "keccakWhole", fn := fun _ => fun
  | [d1, d2] => { results := [.lit (.bool false)], args := [d1, d2] }
  | _ => none }
def KeccakWholeWrongFalsely : Prop := keccakWholeRow.holds Tryd.pinned (OpenSpec.ofChange keccakWholeWrong)

/-- 'distraintlaw03.KeccakTurns': WHATEVER THE INPUT: true; the input reads as it did. -/
def keccakTurnsSpec : ChangeSpec := { name := "keccakTurns", fn := fun _ => fun
  | [d1, d2, d3] => { results := [.lit (.bool true)], args := [d1, d2, d3] }
  | _ => none }
def keccakTurnsRow : OpenClaim := { program := "ytaniijpppmipbaadoor", sum := "2cd549da9ead89c9bb96d01cf08134da90d4accc1a65fcfb6886fba50930c274", func := "distraint/distraintlaw03.KeccakTurns", spec := "keccakTurns", inPlace := ["internal/bytealg.IndexByteString", "internal/abi.NoEscape"], unfollowed := true, recurses := true, named := ["distraint/keccak.turns"], apart := false, laid := [("distraint/keccak.turns", laid_distraint_keccak_turns)] }
def KeccakTurnsSaid : Prop := keccakTurnsRow.holds Tryd.pinned (OpenSpec.ofChange keccakTurnsSpec)

/-- ITS FALSE NEIGHBOUR: 'it returns false'. Refute it at one input. -/
def keccakTurnsWrong : ChangeSpec := { name := "keccakTurns", fn := fun _ => fun
  | [d1, d2, d3] => { results := [.lit (.bool false)], args := [d1, d2, d3] }
  | _ => none }
def KeccakTurnsWrongFalsely : Prop := keccakTurnsRow.holds Tryd.pinned (OpenSpec.ofChange keccakTurnsWrong)

/- THE SECOND FORM. 'bulk': how many values and letters a reading holds, each counted each time it is reached (what is shared counts as often as it is met; a slice's spare places count too). A statement '..UptoSaid' is the law's where the arguments, and the package variables that the reading takes, are together of bulk at most 1048576: NARROWER than '..Said'. Prove '..Said' where nothing that the law and all that it calls make is longer than what came in: it says more and counts as full. Else prove '..UptoSaid'. A law counts once. -/
mutual
def uptoBulk {H : Type} : DataW H → Nat
  | .lit (.string bytes) => bytes.length + 1
  | .lit _ => 1
  | .nil => 1
  | .ptr d => uptoBulk d + 1
  | .slice elems spare => uptoBulkAll elems + uptoBulkAll spare + 1
  | .agg parts => uptoBulkAll parts + 1
  | .iface _ d => uptoBulk d + 1
  | .map entries => uptoBulkEntries entries + 1
  | .held _ => 1
def uptoBulkAll {H : Type} : List (DataW H) → Nat
  | [] => 0
  | d :: r => uptoBulk d + uptoBulkAll r
def uptoBulkEntries {H : Type} : List (Lit × DataW H) → Nat
  | [] => 0
  | x :: r => uptoBulkEntry x + uptoBulkEntries r
def uptoBulkEntry {H : Type} : Lit × DataW H → Nat
  | (.string bytes, d) => bytes.length + uptoBulk d + 1
  | (_, d) => uptoBulk d + 1
 end
def uptoSmall : (H : Type) → List (DataW H) → Bool := fun _ ds => decide (uptoBulkAll ds ≤ 1048576)
def OpenSpec.upto (s : _root_.Go.ChangeSpec) : _root_.Go.OpenSpec := { _root_.Go.OpenSpec.ofChange s with cond := some uptoSmall }

/-- 'distraintlaw03.KeccakSums', WHERE WHAT IT READS IS OF BULK AT MOST 1048576: true; the input reads as it did. -/
def keccakSumsUptoRow : OpenClaim := { program := "ytaniijpppmipbaadoor", sum := "2cd549da9ead89c9bb96d01cf08134da90d4accc1a65fcfb6886fba50930c274", func := "distraint/distraintlaw03.KeccakSums", spec := "keccakSums", inPlace := ["internal/abi.NoEscape", "internal/bytealg.IndexByteString"], unfollowed := true, recurses := true, named := ["distraint/keccak.turns"], apart := false, laid := [("distraint/keccak.turns", laid_distraint_keccak_turns)], narrowed := true }
def KeccakSumsUptoSaid : Prop := keccakSumsUptoRow.holds Tryd.pinned (OpenSpec.upto keccakSumsSpec)

/-- 'distraintlaw03.KeccakPieces', WHERE WHAT IT READS IS OF BULK AT MOST 1048576: true; the input reads as it did. -/
def keccakPiecesUptoRow : OpenClaim := { program := "ytaniijpppmipbaadoor", sum := "2cd549da9ead89c9bb96d01cf08134da90d4accc1a65fcfb6886fba50930c274", func := "distraint/distraintlaw03.KeccakPieces", spec := "keccakPieces", inPlace := ["internal/abi.NoEscape"], unfollowed := true, recurses := true, named := ["distraint/keccak.turns"], apart := false, laid := [("distraint/keccak.turns", laid_distraint_keccak_turns)], narrowed := true }
def KeccakPiecesUptoSaid : Prop := keccakPiecesUptoRow.holds Tryd.pinned (OpenSpec.upto keccakPiecesSpec)

/-- 'distraintlaw03.KeccakNone', WHERE WHAT IT READS IS OF BULK AT MOST 1048576: true; the input reads as it did. -/
def keccakNoneUptoRow : OpenClaim := { program := "ytaniijpppmipbaadoor", sum := "2cd549da9ead89c9bb96d01cf08134da90d4accc1a65fcfb6886fba50930c274", func := "distraint/distraintlaw03.KeccakNone", spec := "keccakNone", inPlace := ["internal/abi.NoEscape"], unfollowed := true, recurses := true, named := ["distraint/keccak.turns"], apart := false, laid := [("distraint/keccak.turns", laid_distraint_keccak_turns)], narrowed := true }
def KeccakNoneUptoSaid : Prop := keccakNoneUptoRow.holds Tryd.pinned (OpenSpec.upto keccakNoneSpec)

/-- 'distraintlaw03.KeccakKnown', WHERE WHAT IT READS IS OF BULK AT MOST 1048576: true; the input reads as it did. -/
def keccakKnownUptoRow : OpenClaim := { program := "ytaniijpppmipbaadoor", sum := "2cd549da9ead89c9bb96d01cf08134da90d4accc1a65fcfb6886fba50930c274", func := "distraint/distraintlaw03.KeccakKnown", spec := "keccakKnown", inPlace := ["internal/bytealg.IndexByteString", "internal/abi.NoEscape"], unfollowed := true, recurses := true, named := ["distraint/keccak.turns"], apart := false, laid := [("distraint/keccak.turns", laid_distraint_keccak_turns)], narrowed := true }
def KeccakKnownUptoSaid : Prop := keccakKnownUptoRow.holds Tryd.pinned (OpenSpec.upto keccakKnownSpec)

/-- 'distraintlaw03.KeccakTexts', WHERE WHAT IT READS IS OF BULK AT MOST 1048576: true; the input reads as it did. -/
def keccakTextsUptoRow : OpenClaim := { program := "ytaniijpppmipbaadoor", sum := "2cd549da9ead89c9bb96d01cf08134da90d4accc1a65fcfb6886fba50930c274", func := "distraint/distraintlaw03.KeccakTexts", spec := "keccakTexts", inPlace := ["internal/bytealg.IndexByteString", "internal/abi.NoEscape"], unfollowed := true, recurses := true, named := ["distraint/keccak.turns"], apart := false, laid := [("distraint/keccak.turns", laid_distraint_keccak_turns)], narrowed := true }
def KeccakTextsUptoSaid : Prop := keccakTextsUptoRow.holds Tryd.pinned (OpenSpec.upto keccakTextsSpec)

/-- 'distraintlaw03.KeccakWhole', WHERE WHAT IT READS IS OF BULK AT MOST 1048576: true; the input reads as it did. -/
def keccakWholeUptoRow : OpenClaim := { program := "ytaniijpppmipbaadoor", sum := "2cd549da9ead89c9bb96d01cf08134da90d4accc1a65fcfb6886fba50930c274", func := "distraint/distraintlaw03.KeccakWhole", spec := "keccakWhole", inPlace := ["internal/bytealg.IndexByteString", "internal/abi.NoEscape"], unfollowed := true, recurses := true, named := ["distraint/keccak.turns"], apart := false, laid := [("distraint/keccak.turns", laid_distraint_keccak_turns)], narrowed := true }
def KeccakWholeUptoSaid : Prop := keccakWholeUptoRow.holds Tryd.pinned (OpenSpec.upto keccakWholeSpec)

/-- 'distraintlaw03.KeccakTurns', WHERE WHAT IT READS IS OF BULK AT MOST 1048576: true; the input reads as it did. -/
def keccakTurnsUptoRow : OpenClaim := { program := "ytaniijpppmipbaadoor", sum := "2cd549da9ead89c9bb96d01cf08134da90d4accc1a65fcfb6886fba50930c274", func := "distraint/distraintlaw03.KeccakTurns", spec := "keccakTurns", inPlace := ["internal/bytealg.IndexByteString", "internal/abi.NoEscape"], unfollowed := true, recurses := true, named := ["distraint/keccak.turns"], apart := false, laid := [("distraint/keccak.turns", laid_distraint_keccak_turns)], narrowed := true }
def KeccakTurnsUptoSaid : Prop := keccakTurnsUptoRow.holds Tryd.pinned (OpenSpec.upto keccakTurnsSpec)

end Rows
end Go.Proofs.YtaniijpppmipbaaDoor
