/-
  smallTrace of the laws. By the verifier.
-/
import Derived.Test.YtfhlnelgnnkeoaaGreatDoorITimes
namespace Go.Proofs.YtfhlnelgnnkeoaaGreatDoor
open Go.RowKit
set_option linter.unusedVariables false

def Ix.small : List Ev := [⟨1, 0, 0, 0, 0, 0⟩, ⟨3, 0, 0, 0, 0, 7⟩, ⟨2, 0, 0, 0, 0, 7⟩, ⟨1, 0, 1, 0, 0, 0⟩, ⟨4, 0, 1, 0, 0, 7⟩, ⟨7, 0, -1, 0, 0, 0⟩]

set_option maxRecDepth 100000 in
set_option maxHeartbeats 1600000 in
theorem ismallTrace_any (w : World) :
    Calls Tryz.prog 28 #[] w fun e w' => ∃ g c, e = .returned (.slice (some ⟨g, 0, none⟩) 6 c) ∧ Cl.RE w' (some ⟨g, 0, none⟩) Ix.small ∧ Below w.heap.size w w' := by
  go_enter Tryz.func28, Tryz.ntmps28
  go_wp2_with fail
  refine bodyPost_ret (v := .slice (some ⟨w.heap.size, 0, none⟩) 6 6) (by simp [results, Tryz.results28, go_sem]) rfl ⟨w.heap.size, 6, rfl, ⟨fun i x hi => ?_⟩, (Below.refl _ _).alloc (Nat.le_refl _) _⟩
  match i, hi with
  | 0, hi => cases hi; exact ⟨w.heap.size, 0, rfl, by simp, by go_simp, by go_simp, by go_simp, by go_simp, by go_simp, by go_simp⟩
  | 1, hi => cases hi; exact ⟨w.heap.size, 0, rfl, by simp, by go_simp, by go_simp, by go_simp, by go_simp, by go_simp, by go_simp⟩
  | 2, hi => cases hi; exact ⟨w.heap.size, 0, rfl, by simp, by go_simp, by go_simp, by go_simp, by go_simp, by go_simp, by go_simp⟩
  | 3, hi => cases hi; exact ⟨w.heap.size, 0, rfl, by simp, by go_simp, by go_simp, by go_simp, by go_simp, by go_simp, by go_simp⟩
  | 4, hi => cases hi; exact ⟨w.heap.size, 0, rfl, by simp, by go_simp, by go_simp, by go_simp, by go_simp, by go_simp, by go_simp⟩
  | 5, hi => cases hi; exact ⟨w.heap.size, 0, rfl, by simp, by go_simp, by go_simp, by go_simp, by go_simp, by go_simp, by go_simp⟩
  | _ + 6, hi => simp [Ix.small] at hi

theorem Ix.small_wf : ∀ e ∈ Ix.small, e.wf := by
  intro e he
  simp only [Ix.small, List.mem_cons, List.not_mem_nil, or_false] at he
  rcases he with rfl | rfl | rfl | rfl | rfl | rfl <;> exact ⟨rfl, rfl, rfl, rfl, rfl, rfl⟩
theorem Ix.wf_any : Ix.wf (-1) ∧ Ix.wf 1 ∧ Ix.wf 7 := ⟨rfl, rfl, rfl⟩
end Go.Proofs.YtfhlnelgnnkeoaaGreatDoor
