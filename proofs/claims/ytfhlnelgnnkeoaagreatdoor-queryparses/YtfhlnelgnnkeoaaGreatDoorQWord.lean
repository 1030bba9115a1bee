/-
  askWord of the document. By the verifier.
-/
import Derived.Test.YtfhlnelgnnkeoaaGreatDoorQMean
import Derived.Test.YtfhlnelgnnkeoaaGreatDoorQRule
namespace Go.Proofs.YtfhlnelgnnkeoaaGreatDoor
open Go.RowKit
set_option linter.unusedVariables false

set_option maxRecDepth 100000 in
set_option maxHeartbeats 1600000 in
theorem askWord_any (k : Int) (hk : Qk.isK k = true) (w : World) :
    Calls Tryz.prog 24 #[.int .i64 k] w fun r w' => r = .returned (.string (Qk.word k)) ∧ Below w.heap.size w w' := by
  rcases Qk.kinds hk with rfl | rfl | rfl | rfl | rfl | rfl | rfl | rfl | rfl | rfl | rfl | rfl | rfl | rfl
  all_goals
    go_enter Tryz.func24, Tryz.ntmps24
    go_wp2_with fail
    go_ret
    exact ⟨rfl, (Below.refl _ _).alloc (Nat.le_refl _) _⟩
theorem Qk.any_eq : (⟨#[32]⟩ ++ ⟨#[97, 110, 121]⟩ : ByteArray) = ⟨#[32, 97, 110, 121]⟩ := by decide
end Go.Proofs.YtfhlnelgnnkeoaaGreatDoor
