/-
  Tuples of eight integers are told apart: an instance that is found at once. No program.
-/
import Derived.Test.YtcefjigbaglmeaaGreatGRw
namespace Go.Proofs.YtcefjigbaglmeaaGreat
set_option synthInstance.maxSize 4096 in
set_option synthInstance.maxHeartbeats 400000 in
instance dec8 : DecidableEq (Int × Int × Int × Int × Int × Int × Int × Int) := inferInstance
end Go.Proofs.YtcefjigbaglmeaaGreat
