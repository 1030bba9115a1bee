/-
  The query 'once' of the laws. By the verifier.
-/
import Derived.Test.YtfhlnelgnnkeoaaGreatDoorQBase
namespace Go.Proofs.YtfhlnelgnnkeoaaGreatDoor
open Go.RowKit
set_option linter.unusedVariables false

def Qk.onceT : Qk.AT 2 := ((11, 0), [((4, 0), [])])
theorem Qk.RA.leaf (w : World) (n : Nat) (k : Int) (x : Qk.AT (n + 1)) (m : Int) (hx : x = ((k, m), [])) : Qk.RA w (n + 1) ⟨k, m, ⟨none, 0, 0⟩⟩ x := by
  subst hx
  exact ⟨⟨rfl, rfl⟩, rfl, by simp, fun i y h => by simp at h⟩

set_option maxHeartbeats 800000 in
theorem once_any (w : World) :
    Calls Tryz.prog 27 #[] w fun r w' => ∃ c : Qk.E, r = .returned c.val ∧ Qk.RA w' 2 c Qk.onceT ∧ Below w.heap.size w w' := by
  go_enter Tryz.func27, Tryz.ntmps27
  go_wp2_with fail
  refine bodyPost_ret (v := .agg #[.int .i64 11, .int .i64 0, .slice (some ⟨w.heap.size + 1, 0, none⟩) 1 1]) (by simp [results, Tryz.results27, go_sem]) rfl ?_
  refine ⟨⟨11, 0, ⟨some ⟨w.heap.size + 1, 0, none⟩, 1, 1⟩⟩, rfl, ⟨⟨rfl, rfl⟩, rfl, (by decide : (1 : Nat) ≤ 9223372036854775807), fun i y h => ?_⟩, ?_⟩
  · match i, h with
    | 0, h =>
      cases h
      refine ⟨w.heap.size + 1, 0, ⟨4, 0, ⟨none, 0, 0⟩⟩, rfl, by simp, ⟨by go_simp, by go_simp, by go_simp⟩, Qk.RA.leaf _ 0 4 _ 0 rfl⟩
    | i + 1, h => exact absurd h (by show ([] : List (Qk.AT 1))[i]? ≠ _; simp)
  · exact ((Below.refl _ _).alloc (Nat.le_refl _) _).alloc (by simp) _
end Go.Proofs.YtfhlnelgnnkeoaaGreatDoor
