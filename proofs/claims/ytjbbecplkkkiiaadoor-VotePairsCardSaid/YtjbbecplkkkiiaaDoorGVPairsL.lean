/-
  The walk of the law VotePairs, over votes as they come in. Condition: the table of turns lies in its variable.
-/
import Derived.Test.YtjbbecplkkkiiaaDoorGVLift
import Derived.Test.YtjbbecplkkkiiaaDoorGVPairs
namespace Go.Proofs.YtjbbecplkkkiiaaDoor
open Go.RowKit Go.Shelf
set_option linter.unusedVariables false
namespace Vt
theorem pairsL (v1 s1 t1 g1 : Int) (h1 : List Int) (v2 s2 t2 g2 : Int) (h2 : List Int) (v3 s3 g3 : Int) (h3 : List Int) (v4 s4 g4 : Int) (h4 : List Int) (w : World) (f1 : attF v1 s1 t1 g1 h1) (f2 : attF v2 s2 t2 g2 h2) (f3 : propF v3 s3 g3 h3) (f4 : propF v4 s4 g4 h4) (hT : Kk.Tn w) :
    Calls Tryd.prog 4 #[.agg (attC v1 s1 t1 h1 g1).toArray, .agg (attC v2 s2 t2 h2 g2).toArray, .agg (propC v3 s3 h3 g3).toArray, .agg (propC v4 s4 h4 g4).toArray] w fun e w' => e = .returned (.bool true) ∧ Kk.Bel w w' :=
  pairsLaw v1 s1 t1 g1 h1 v2 s2 t2 g2 h2 v3 s3 g3 h3 v4 s4 g4 h4 w f1.len f1.by_ f2.len f2.by_ f3.len f3.by_ f4.len f4.by_ hT
end Vt
end Go.Proofs.YtjbbecplkkkiiaaDoor
