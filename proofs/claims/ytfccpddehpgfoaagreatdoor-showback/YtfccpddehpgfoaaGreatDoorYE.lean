/- By the verifier. -/
import Derived.Test.YtfccpddehpgfoaaGreatDoorXO
import Derived.Test.YtfccpddehpgfoaaGreatDoorYC
set_option maxRecDepth 100000
set_option maxHeartbeats 3200000
namespace Go.Proofs.YtfccpddehpgfoaaGreatDoor
open Go.RowKit
set_option linter.unusedVariables false
section
variable {T : Array Value} {w : World} {Q : Exit → Act → World → Prop} {q : Tk.C} {s : Tk.Sl} {bx i : Nat}
end
section
variable {T : Array Value} {w : World} {Q : Exit → Act → World → Prop} {q : Tk.C} {s : Tk.Sl} {bx i : Nat}
end
end Go.Proofs.YtfccpddehpgfoaaGreatDoor
