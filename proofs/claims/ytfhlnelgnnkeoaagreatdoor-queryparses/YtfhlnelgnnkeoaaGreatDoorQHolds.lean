/-
  The contract of Holds of package query. By the verifier.
-/
import Derived.Test.YtfhlnelgnnkeoaaGreatDoorQMarks
namespace Go.Proofs.YtfhlnelgnnkeoaaGreatDoor
open Go.RowKit
set_option linter.unusedVariables false

/-- What Holds says is wrong. -/
def Qk.hErr (n : Nat) (x : Qk.AT n) (len : Nat) : Nat := if Qk.chk n x = 0 then (if 4000 < len then 2 else 0) else Qk.chk n x
theorem Qk.hErr_ok {n : Nat} {x : Qk.AT n} {len : Nat} (h : Qk.hErr n x len = 0) : Qk.chk n x = 0 ∧ len ≤ 4000 := by
  unfold Qk.hErr at h
  split at h
  · rename_i h1
    split at h
    · cases h
    · exact ⟨h1, by omega⟩
  · rename_i h1; exact absurd h h1

set_option maxHeartbeats 400000 in
theorem Holds_ok (n : Nat) (e : Qk.E) (x : Qk.AT n) (l : List Ev) (ad : Option Addr) (cap : Nat) (w : World) (h : Qk.RA w n e x) (hr : Cl.RE w ad l) (hw : ∀ e ∈ l, e.wf) (h0 : Qk.hErr n x l.length = 0) :
    Calls Tryz.prog 16 #[e.val, .slice ad l.length cap] w fun r w' => ∃ g, r = .returned (.tuple #[.slice (some ⟨g, 0, none⟩) l.length l.length, .int .i64 0]) ∧ w.heap.size ≤ g ∧ Qk.Row w' g (Qk.marks n x l) ∧ (Qk.marks n x l).length = l.length ∧ Below w.heap.size w w' := by
  obtain ⟨hc, hl⟩ := Qk.hErr_ok h0
  have HC := hide (fun (W : World) (h : Qk.RA W n e x) => show Calls Tryz.prog 12 #[.agg #[.int .i64 e.k, .int .i64 e.n, .slice e.args.ad e.args.len e.args.cap]] W fun r w' => r = .returned (.int .i64 0) ∧ Below W.heap.size W w' by
    have := qCheck_any n e x W h
    rw [hc] at this
    exact this)
  have HM := hide (fun (W : World) (h : Qk.RA W n e x) (h1 : Cl.RE W ad l) => marksOf_any n e x l ad cap W h (Qk.chk_ok hc).2 h1 hw hl)
  have HA := hide h
  have HR := hide hr
  clear h hr hw h0 hc
  generalize Qk.marks n x l = MX at *
  unfold Qk.E.val at HM ⊢
  have hl1 : ¬ (l.length : Int) > 4000 := by omega
  go_enter Tryz.func16, Tryz.ntmps16
  go_wp2_with fail
  refine ((unhide HC) _ ((unhide HA).alloc _)).mono ?_
  rintro r w1 ⟨rfl, hb1⟩
  have q0 : w1.cell? ⟨w.heap.size, 0, none⟩ = some (.int .i64 e.k) := (hb1.cell (p := ⟨w.heap.size, 0, none⟩) (by simp)).trans (by simp)
  have q1 : w1.cell? ⟨w.heap.size, 1, none⟩ = some (.int .i64 e.n) := (hb1.cell (p := ⟨w.heap.size, 1, none⟩) (by simp)).trans (by simp)
  have q2 : w1.cell? ⟨w.heap.size, 2, none⟩ = some (.slice e.args.ad e.args.len e.args.cap) := (hb1.cell (p := ⟨w.heap.size, 2, none⟩) (by simp)).trans (by simp)
  have HB1 := hide (below_two hb1)
  clear hb1
  go_wp2_with fail
  refine ((unhide HM) _ ((unhide HA).later (unhide HB1) (Nat.le_refl _)) ((unhide HR).later (unhide HB1) (Nat.le_refl _))).mono ?_
  rintro r w2 ⟨g, rfl, hg, hrow, hln, hb2⟩
  have HROW := hide hrow
  have HLN := hide hln
  have HB2 := hide ((unhide HB1).trans (hb2.mono (unhide HB1).size))
  have hg2 := Nat.le_trans (unhide HB1).size hg
  clear hrow hln hb2
  go_wp2_with fail
  go_ret2
  exact ⟨g, rfl, hg2, unhide HROW, unhide HLN, unhide HB2⟩

set_option maxHeartbeats 400000 in
theorem Holds_err (n : Nat) (e : Qk.E) (x : Qk.AT n) (len : Nat) (ad : Option Addr) (cap : Nat) (w : World) (h : Qk.RA w n e x) (hf : len ≤ 35184372088832) (h0 : Qk.hErr n x len ≠ 0) :
    Calls Tryz.prog 16 #[e.val, .slice ad len cap] w fun r w' => r = .returned (.tuple #[.slice none 0 0, .int .i64 (Qk.hErr n x len : Nat)]) ∧ Below w.heap.size w w' := by
  have HC := hide (fun (W : World) (h : Qk.RA W n e x) => qCheck_any n e x W h)
  have HE := hide (show Qk.hErr n x len = if Qk.chk n x = 0 then (if 4000 < len then 2 else 0) else Qk.chk n x from rfl)
  have HA := hide h
  generalize Qk.hErr n x len = HR at *
  generalize Qk.chk n x = C at *
  clear h
  unfold Qk.E.val at HC ⊢
  by_cases hc : C = 0
  · have h4 : 4000 < len := by
      have := unhide HE
      rw [if_pos hc] at this
      by_cases h : 4000 < len
      · exact h
      · rw [if_neg h] at this; exact absurd this h0
    have HZ := hide (show HR = 2 by rw [unhide HE, if_pos hc, if_pos h4])
    have hl1 : (len : Int) > 4000 := by omega
    have g0 : ((C : Int) != 0) = false := by rw [hc]; rfl
    clear hc h0
    go_enter Tryz.func16, Tryz.ntmps16
    go_wp2_with fail
    refine ((unhide HC) _ ((unhide HA).alloc _)).mono ?_
    rintro r w1 ⟨rfl, hb1⟩
    have HB1 := hide (below_two hb1)
    clear hb1
    go_wp2_with fail
    go_ret2
    exact ⟨by rw [unhide HZ]; rfl, unhide HB1⟩
  · have HZ := hide (show HR = C by rw [unhide HE, if_neg hc])
    have g0 : ((C : Int) != 0) = true := by simpa using hc
    clear hc h0
    go_enter Tryz.func16, Tryz.ntmps16
    go_wp2_with fail
    refine ((unhide HC) _ ((unhide HA).alloc _)).mono ?_
    rintro r w1 ⟨rfl, hb1⟩
    have HB1 := hide (below_two hb1)
    clear hb1
    go_wp2_with fail
    go_ret2
    exact ⟨by rw [show HR = C from unhide HZ]; rfl, unhide HB1⟩
end Go.Proofs.YtfhlnelgnnkeoaaGreatDoor
