/-
  What is wrong with what comes in. By the verifier.
-/
import Derived.Test.YtildjlaphkjegaaPVars
namespace Go.Proofs.Ytildjlaphkjegaa
open Go.RowKit
set_option linter.unusedVariables false

/-- What is wrong with what comes in, and with fuel. -/
def Pg.chkIn (l : List Int) (fuel : Int) : Nat := if 50 < l.length then 2 else if l.any Pg.beyond then 3 else if 0 ≤ fuel ∧ fuel ≤ 500 then 0 else 3
end Go.Proofs.Ytildjlaphkjegaa
