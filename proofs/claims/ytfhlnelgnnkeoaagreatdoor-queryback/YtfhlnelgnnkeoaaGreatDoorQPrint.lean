/-
  Print of package query. By the verifier.
-/
import Derived.Test.YtfhlnelgnnkeoaaGreatDoorQTextOf
import Derived.Test.YtfhlnelgnnkeoaaGreatDoorQCheck
namespace Go.Proofs.YtfhlnelgnnkeoaaGreatDoor
open Go.RowKit
set_option linter.unusedVariables false

set_option maxRecDepth 100000 in
set_option maxHeartbeats 800000 in
theorem Print_ok (n : Nat) (e : Qk.E) (x : Qk.AT n) (w : World) (h : Qk.RA w n e x) (h0 : Qk.chk n x = 0) (htab : Qd.tab w) :
    Calls Tryz.prog 8 #[e.val] w fun r w' => r = .returned (.tuple #[.string (Qk.text n x), .int .i64 0]) ∧ Below w.heap.size w w' := by
  have hok := Qk.chk_ok h0
  have HC := hide (fun (W : World) (h : Qk.RA W n e x) => show Calls Tryz.prog 12 #[.agg #[.int .i64 e.k, .int .i64 e.n, .slice e.args.ad e.args.len e.args.cap]] W fun r w' => r = .returned (.int .i64 0) ∧ Below W.heap.size W w' by
    have := qCheck_any n e x W h
    rw [h0] at this
    exact this)
  have HT := hide (fun (W : World) (h : Qk.RA W n e x) (hb : Below w.heap.size w W) => show Calls Tryz.prog 21 #[.agg #[.int .i64 e.k, .int .i64 e.n, .slice e.args.ad e.args.len e.args.cap]] W fun r w' => r = .returned (.string (Qk.text n x)) ∧ Below W.heap.size W w' from textOf_any n e x W h hok.2 hok.1 (Qd.tab_later htab hb))
  have HA := hide h
  clear h h0 htab hok
  unfold Qk.E.val
  go_enter Tryz.func8, Tryz.ntmps8
  go_wp2_with fail
  refine ((unhide HC) _ ((unhide HA).alloc _)).mono ?_
  rintro r w1 ⟨rfl, hb1⟩
  have q0 : w1.cell? ⟨w.heap.size, 0, none⟩ = some (.int .i64 e.k) := (hb1.cell (p := ⟨w.heap.size, 0, none⟩) (by simp)).trans (by simp)
  have q1 : w1.cell? ⟨w.heap.size, 1, none⟩ = some (.int .i64 e.n) := (hb1.cell (p := ⟨w.heap.size, 1, none⟩) (by simp)).trans (by simp)
  have q2 : w1.cell? ⟨w.heap.size, 2, none⟩ = some (.slice e.args.ad e.args.len e.args.cap) := (hb1.cell (p := ⟨w.heap.size, 2, none⟩) (by simp)).trans (by simp)
  have HB1 := hide (below_two hb1)
  clear hb1
  go_wp2_with fail
  refine ((unhide HT) _ ((unhide HA).later (unhide HB1) (Nat.le_refl _)) (unhide HB1)).mono ?_
  rintro r w2 ⟨rfl, hb2⟩
  have HB2 := hide ((unhide HB1).trans (hb2.mono (unhide HB1).size))
  clear hb2
  go_wp2_with fail
  go_ret2
  exact ⟨rfl, unhide HB2⟩

set_option maxRecDepth 100000 in
set_option maxHeartbeats 800000 in
theorem Print_err (n : Nat) (e : Qk.E) (x : Qk.AT n) (w : World) (h : Qk.RA w n e x) (h0 : Qk.chk n x ≠ 0) :
    Calls Tryz.prog 8 #[e.val] w fun r w' => r = .returned (.tuple #[.string ⟨#[]⟩, .int .i64 (Qk.chk n x : Nat)]) ∧ Below w.heap.size w w' := by
  have HC := hide (fun (W : World) (h : Qk.RA W n e x) => qCheck_any n e x W h)
  have HA := hide h
  generalize Qk.chk n x = C at *
  have hc1 : ((C : Nat) : Int) ≠ 0 := by omega
  have hc2 : (((C : Nat) : Int) != 0) = true := by simp; omega
  clear h h0
  unfold Qk.E.val at HC ⊢
  go_enter Tryz.func8, Tryz.ntmps8
  go_wp2_with fail
  refine ((unhide HC) _ ((unhide HA).alloc _)).mono ?_
  rintro r w1 ⟨rfl, hb1⟩
  have HB1 := hide (below_two hb1)
  clear hb1
  go_wp2_with fail
  go_ret2
  exact ⟨rfl, unhide HB1⟩

end Go.Proofs.YtfhlnelgnnkeoaaGreatDoor
