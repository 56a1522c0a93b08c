/-
  What codec.Put and codec.Size answer in this program: the bytes of a word, and how many they are.
  Conditions: the word is from 0 to 2^64 - 1.
-/
import Derived.Test.YtmbodfmdaocppaaIter
namespace Go.Proofs.Ytmbodfmdaocppaa
open Go.RowKit Go.Shelf
set_option linter.unusedVariables false
attribute [local go_sem] Oper.semAt_some
theorem Try.info_u8 : (Try.prog.info? 5).map (fun i => (i.zero, i.size, i.bytes)) = some (some (.int .u8 0), 1, 1) := by kernel_rfl
namespace Cd

end Cd
end Go.Proofs.Ytmbodfmdaocppaa
