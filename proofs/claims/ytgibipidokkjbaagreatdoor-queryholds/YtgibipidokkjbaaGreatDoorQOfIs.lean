/-
  HoldsOf of the document, as it is read. By the verifier.
-/
import Derived.Test.YtgibipidokkjbaaGreatDoorQOf
namespace Go.Proofs.YtgibipidokkjbaaGreatDoor
open Go.RowKit
set_option linter.unusedVariables false

theorem HoldsOf_is (n : Nat) (e : Qk.E) (x : Qk.AT n) (l : List Ev) (ad : Option Addr) (cap : Nat) (w : World) (h : Qk.RA w n e x) (h0 : Qk.wrong n x = 0) (hr : Cl.RE w ad l) (hf : l.length ≤ 4000) :
    Calls Tryz.prog 17 #[e.val, .slice ad l.length cap] w fun r w' => ∃ a c, r = .returned (.slice a l.length c) ∧ Dk.RB w' a (Qk.marks n x l) ∧ (Qk.marks n x l).length = l.length ∧ Below w.heap.size w w' := by
  rcases Nat.eq_zero_or_pos l.length with h1 | h1
  · have hl := List.length_eq_zero_iff.1 h1
    subst hl
    have hm : (Qk.marks n x []).length = 0 := by
      cases n with
      | zero => exact absurd h id
      | succ n => rw [Qk.marks_length]; rfl
    exact (HoldsOf_nil n e x ad cap w h h0).mono fun r w' ⟨h2, h3⟩ => ⟨none, 0, h2, ⟨fun i s hi => by rw [List.length_eq_zero_iff.1 hm] at hi; simp at hi⟩, hm, h3⟩
  · exact (HoldsOf_any n e x l ad cap w h h0 hr h1 hf).mono fun r w' ⟨g, c, h2, _, h3, h4, h5⟩ => ⟨_, c, h2, h3.reads, h4, h5⟩

end Go.Proofs.YtgibipidokkjbaaGreatDoor
