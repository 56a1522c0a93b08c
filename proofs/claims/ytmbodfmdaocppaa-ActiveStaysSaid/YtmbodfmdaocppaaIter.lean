/-
  What codec.encoding answers in this program: an iterator over the bytes of a word, for every loop body that keeps what lay below.
  Conditions: the word is from 0 to 2^64 - 1.
-/
import Derived.Test.YtmbodfmdaocppaaEnc
import Derived.RangeFuncNested
import Derived.RangeFuncBound
import Derived.RangeFuncCalls
import Derived.RangeFuncLeaves
import Derived.RangeFuncBox
import Derived.Shelf.Abstract
import Derived.Shelf.RegionOpen
import Derived.WalkKit
import Derived.OwnWalkIn
import Derived.TacticsInMore
import Derived.LoopNIn
import Derived.LoopIn
import Derived.Maps.AppendAt
import Derived.Lib.Hide
import Derived.Test.YtmbodfmdaocppaaChecked
namespace Go.Proofs.Ytmbodfmdaocppaa
open Go.RowKit Go.Shelf
set_option linter.unusedVariables false
attribute [local go_sem] Oper.semAt_some
namespace Cd

end Cd
end Go.Proofs.Ytmbodfmdaocppaa
