/- By the verifier. -/
import Derived.Test.YtfccpddehpgfoaaGreatDoorYA
set_option maxRecDepth 100000
set_option maxHeartbeats 800000
namespace Go.Proofs.YtfccpddehpgfoaaGreatDoor
open Go.RowKit
set_option linter.unusedVariables false
def Pr.by (l : List UInt8) : ByteArray := ⟨l.toArray⟩
theorem ZjL (l : List UInt8) : (Pr.by l).size = l.length := List.size_toArray
section
variable (num : Int → ByteArray) {m n : Nat} (A : List UInt8) (k : Nat) (nm ot : ByteArray)
end
end Go.Proofs.YtfccpddehpgfoaaGreatDoor
