/-
  The law BankKnown returns true: the chapter's examples are answered as it says. No condition (the law has no argument).
-/
import Derived.Test.YtgdaojbflokmoaaBH
namespace Go.Proofs.Ytgdaojbflokmoaa
open Go.RowKit Go.Shelf
set_option linter.unusedVariables false
namespace Bk
open Pm

end Bk
end Go.Proofs.Ytgdaojbflokmoaa
