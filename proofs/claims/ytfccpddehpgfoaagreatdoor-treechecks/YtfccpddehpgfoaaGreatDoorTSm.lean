/-
  The small text, read. By the verifier.
-/
import Derived.Test.YtfccpddehpgfoaaGreatDoorTPz
namespace Go.Proofs.YtfccpddehpgfoaaGreatDoor
open Go.RowKit
set_option linter.unusedVariables false
def Tk.smallT : ByteArray := ⟨#[102, 117, 110, 99, 32, 102, 40, 97, 41, 32, 123, 10, 32, 32, 114, 101, 116, 117, 114, 110, 32, 40, 97, 32, 43, 32, 49, 41, 59, 10, 125, 10, 109, 97, 105, 110, 32, 123, 10, 32, 32, 118, 97, 114, 32, 120, 59, 10, 32, 32, 120, 32, 61, 32, 102, 40, 50, 41, 59, 10, 32, 32, 112, 114, 105, 110, 116, 32, 120, 59, 10, 125, 10]⟩
def Tk.kindC {m : Nat} : (n : Nat) → Tk.CT m n → Int
 | 0, _ => 0
 | _ + 1, c => c.1.1
def Tk.otherC {m : Nat} : (n : Nat) → Tk.CT m n → ByteArray
 | 0, _ => ⟨#[]⟩
 | _ + 1, c => c.1.2.2.2
def Tk.begunL {m n : Nat} (x : List (Tk.FT m n)) : Bool := decide (x.length = 2) && match x[1]? with
 | none => false
 | some f => decide (f.cs.length = 2) && match f.cs[0]? with
  | none => false
  | some c => decide (Tk.kindC n c = 3) && (Tk.otherC n c).toList == [102]
def Tk.smallR : Bool := match Tp.out Tk.smallT with
 | .error _ => false
 | .ok x => Tk.begunL x && decide (Tk.chkT x = 0)
theorem Tk.small_ok : Tk.smallR = true := by decide +kernel
end Go.Proofs.YtfccpddehpgfoaaGreatDoor
