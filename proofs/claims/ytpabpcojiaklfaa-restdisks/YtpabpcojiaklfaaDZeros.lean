/-
  A sector of zeros. By the verifier.
-/
import Derived.Test.YtpabpcojiaklfaaDSame
import Derived.Laws.IdiomStrings
namespace Go.Proofs.Ytpabpcojiaklfaa
open Go.RowKit
set_option linter.unusedVariables false

def Dk.zeros (k : Nat) : ByteArray := ⟨(List.replicate k 0).toArray⟩

theorem Dk.zeros_size (k : Nat) : (Dk.zeros k).size = k := by
  show (List.replicate k (0 : UInt8)).toArray.size = k
  simp

theorem Dk.zeros_succ (k : Nat) : Dk.zeros k ++ ⟨#[0]⟩ = Dk.zeros (k + 1) := by
  have e : ∀ a b : ByteArray, a.data = b.data → a = b := fun a b h => by cases a; cases b; simp_all
  apply e
  rw [ByteArray.data_append]
  show (List.replicate k (0 : UInt8)).toArray ++ #[0] = (List.replicate (k + 1) (0 : UInt8)).toArray
  rw [List.replicate_succ']
  apply Array.toList_inj.1
  simp
end Go.Proofs.Ytpabpcojiaklfaa
