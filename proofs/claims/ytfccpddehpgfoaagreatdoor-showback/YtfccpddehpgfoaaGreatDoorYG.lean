/- By the verifier. -/
import Derived.Test.YtfccpddehpgfoaaGreatDoorYF
set_option maxRecDepth 100000
set_option maxHeartbeats 3200000
namespace Go.Proofs.YtfccpddehpgfoaaGreatDoor
open Go.RowKit
set_option linter.unusedVariables false
section
variable {T : Array Value} {w : World} {Q : Exit → Act → World → Prop} {q : Tk.F} {s : Tk.Sl} {bt bx i : Nat}
end
section
variable {T : Array Value} {w : World} {Q : Exit → Act → World → Prop} {s : Tk.Sl}
end
section
variable (num : Int → ByteArray) {m n : Nat} (A : List UInt8)
end
def Tt.fb {m n : Nat} (mn : Bool) (x : Tk.FT m n) : List UInt8 := if mn = true then Pr.main Qd.num 0 (Pr.cmd Qd.num n 2) x else Pr.func Qd.num 0 (Pr.cmd Qd.num n 2) x
end Go.Proofs.YtfccpddehpgfoaaGreatDoor
