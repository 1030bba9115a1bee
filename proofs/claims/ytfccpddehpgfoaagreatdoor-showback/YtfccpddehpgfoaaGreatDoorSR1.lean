/- By the verifier. -/
import Derived.Test.YtfccpddehpgfoaaGreatDoorYB
import Derived.Test.YtfccpddehpgfoaaGreatDoorYD
set_option maxRecDepth 100000
set_option maxHeartbeats 6400000
namespace Go.Proofs.YtfccpddehpgfoaaGreatDoor
open Go.RowKit
set_option linter.unusedVariables false
section
end
end Go.Proofs.YtfccpddehpgfoaaGreatDoor
