/-
  Print of package query at the query once print. By the verifier.
-/
import Derived.Test.YtfhlnelgnnkeoaaGreatDoorQP5
namespace Go.Proofs.YtfhlnelgnnkeoaaGreatDoor
open Go.RowKit
set_option linter.unusedVariables false

set_option maxRecDepth 100000 in
set_option maxHeartbeats 800000 in
theorem textOf_print (ad : Option Addr) (n c : Nat) (w : World) :
    Calls Tryz.prog 21 #[.agg #[.int .i64 4, .int .i64 0, .slice ad n c]] w fun r w' => r = .returned (.string ⟨#[112, 114, 105, 110, 116]⟩) ∧ Below w.heap.size w w' := by
  go_enter Tryz.func21, Tryz.ntmps21
  go_wp2_with fail
  refine (ruleOf_4 _).mono ?_
  rintro r w1 ⟨rfl, hb1⟩
  have HB1 := hide (below_two hb1)
  clear hb1
  go_wp2_with fail
  refine (hasNumber_any _ _ _ _ _).mono ?_
  rintro r w2 ⟨rfl, hb2⟩
  have r1 : w2.cell? ⟨w1.heap.size, 1, none⟩ = some (.int .i64 0) := (hb2.cell (p := ⟨w1.heap.size, 1, none⟩) (by simp)).trans (by simp)
  have HB2 := hide ((unhide HB1).trans ((below_two hb2).mono (unhide HB1).size))
  clear hb2
  go_wp2_with fail
  go_ret
  exact ⟨rfl, unhide HB2⟩

set_option maxRecDepth 100000 in
set_option maxHeartbeats 800000 in
theorem textOf_once (g : Nat) (w : World) (hL : Qk.Lies w g 0 ⟨4, 0, ⟨none, 0, 0⟩⟩) (hg : g < w.heap.size) :
    Calls Tryz.prog 21 #[.agg #[.int .i64 11, .int .i64 0, .slice (some ⟨g, 0, none⟩) 1 1]] w fun r w' => r = .returned (.string ⟨#[111, 110, 99, 101, 32, 112, 114, 105, 110, 116]⟩) ∧ Below w.heap.size w w' := by
  have HL := hide hL
  clear hL
  go_enter Tryz.func21, Tryz.ntmps21
  go_wp2_with fail
  refine (ruleOf_11 _).mono ?_
  rintro r w1 ⟨rfl, hb1⟩
  have q2 : w1.cell? ⟨w.heap.size, 2, none⟩ = some (.slice (some ⟨g, 0, none⟩) 1 1) := (hb1.cell (p := ⟨w.heap.size, 2, none⟩) (by simp)).trans (by simp)
  have HB1 := hide (below_two hb1)
  have hs1 : w.heap.size < w1.heap.size := by have := hb1.size; simp at this; omega
  clear hb1
  go_wp2_with fail
  refine (hasNumber_any _ _ _ _ _).mono ?_
  rintro r w2 ⟨rfl, hb2⟩
  have r1 : w2.cell? ⟨w1.heap.size, 1, none⟩ = some (.int .i64 1) := (hb2.cell (p := ⟨w1.heap.size, 1, none⟩) (by simp)).trans (by simp)
  have hb3 := below_two hb2
  replace q2 := (hb3.cell (p := ⟨w.heap.size, 2, none⟩) hs1).trans q2
  have HB2 := hide ((unhide HB1).trans (hb3.mono (unhide HB1).size))
  clear hb2 hb3
  have g0 := ((unhide HB2).cell (p := ⟨g, 0, none⟩) hg).trans (unhide HL).c0
  have g1 := ((unhide HB2).cell (p := ⟨g, 1, none⟩) hg).trans (unhide HL).c1
  have g2 := ((unhide HB2).cell (p := ⟨g, 2, none⟩) hg).trans (unhide HL).c2
  go_wp2_with fail
  refine (textOf_print none 0 0 _).mono ?_
  rintro r w3 ⟨rfl, hb3⟩
  have HB3 := hide ((unhide HB2).trans (hb3.mono (unhide HB2).size))
  clear hb3
  go_wp2_with fail
  go_ret
  exact ⟨by rfl, unhide HB3⟩

set_option maxRecDepth 100000 in
set_option maxHeartbeats 800000 in
theorem Print_once (g : Nat) (w : World) (hL : Qk.Lies w g 0 ⟨4, 0, ⟨none, 0, 0⟩⟩) (hg : g < w.heap.size) :
    Calls Tryz.prog 8 #[.agg #[.int .i64 11, .int .i64 0, .slice (some ⟨g, 0, none⟩) 1 1]] w fun r w' => r = .returned (.tuple #[.string ⟨#[111, 110, 99, 101, 32, 112, 114, 105, 110, 116]⟩, .int .i64 0]) ∧ Below w.heap.size w w' := by
  have HC := hide (fun (W : World) (h : Qk.Lies W g 0 ⟨4, 0, ⟨none, 0, 0⟩⟩) (hg : g < W.heap.size) => show Calls Tryz.prog 12 #[.agg #[.int .i64 11, .int .i64 0, .slice (some ⟨g, 0, none⟩) 1 1]] W fun r w' => r = .returned (.int .i64 0) ∧ Below W.heap.size W w' by
    have := qCheck_any 2 ⟨11, 0, ⟨some ⟨g, 0, none⟩, 1, 1⟩⟩ Qk.onceT W (Qk.RA.once_of h hg)
    rw [Qk.once_chk] at this
    exact this)
  have HL := hide hL
  clear hL
  go_enter Tryz.func8, Tryz.ntmps8
  go_wp2_with fail
  have hbA := (Below.refl w.heap.size w).alloc (Nat.le_refl _) (Obj.cells #[.int .i64 11, .int .i64 0, .slice (some ⟨g, 0, none⟩) 1 1] 24)
  refine ((unhide HC) _ ((unhide HL).later hbA (Nat.le_refl _) hg) (by simp; omega)).mono ?_
  rintro r w1 ⟨rfl, hb1⟩
  have q0 : w1.cell? ⟨w.heap.size, 0, none⟩ = some (.int .i64 11) := (hb1.cell (p := ⟨w.heap.size, 0, none⟩) (by simp)).trans (by simp)
  have q1 : w1.cell? ⟨w.heap.size, 1, none⟩ = some (.int .i64 0) := (hb1.cell (p := ⟨w.heap.size, 1, none⟩) (by simp)).trans (by simp)
  have q2 : w1.cell? ⟨w.heap.size, 2, none⟩ = some (.slice (some ⟨g, 0, none⟩) 1 1) := (hb1.cell (p := ⟨w.heap.size, 2, none⟩) (by simp)).trans (by simp)
  have HB1 := hide (below_two hb1)
  clear hb1 hbA
  go_wp2_with fail
  refine (textOf_once g _ ((unhide HL).later (unhide HB1) (Nat.le_refl _) hg) (by have := (unhide HB1).size; omega)).mono ?_
  rintro r w2 ⟨rfl, hb2⟩
  have HB2 := hide ((unhide HB1).trans (hb2.mono (unhide HB1).size))
  clear hb2
  go_wp2_with fail
  go_ret2
  exact ⟨rfl, unhide HB2⟩
end Go.Proofs.YtfhlnelgnnkeoaaGreatDoor
