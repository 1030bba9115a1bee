/- By the verifier. -/
import Derived.Test.YtfccpddehpgfoaaGreatDoorSR1
import Derived.Test.YtfccpddehpgfoaaGreatDoorYE
set_option maxRecDepth 100000
set_option maxHeartbeats 3200000
namespace Go.Proofs.YtfccpddehpgfoaaGreatDoor
open Go.RowKit
set_option linter.unusedVariables false
theorem Zdy (i : Int) (h : Pr.NK i) : (Qd.num i).size ≤ 20 := ZiX i (by have := h.1; omega) (by have := h.2; omega)
end Go.Proofs.YtfccpddehpgfoaaGreatDoor
