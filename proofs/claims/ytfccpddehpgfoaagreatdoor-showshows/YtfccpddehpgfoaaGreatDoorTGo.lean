/-
  Each reader of a tree goes on. By the verifier.
-/
import Derived.Test.YtfccpddehpgfoaaGreatDoorXH
namespace Go.Proofs.YtfccpddehpgfoaaGreatDoor
open Go.RowKit
set_option linter.unusedVariables false
section
variable {l : List Tp.T} {e : Int}
end
end Go.Proofs.YtfccpddehpgfoaaGreatDoor
