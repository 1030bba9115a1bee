/-
  The contract of the compiler's goHere. By the verifier.
-/
import Derived.Test.YtpfogjplnodacaaKPut
set_option maxRecDepth 100000
set_option maxHeartbeats 1600000
namespace Go.Proofs.Ytpfogjplnodacaa
open Go.RowKit
set_option linter.unusedVariables false
theorem Kd.M.goes {w0 W : World} {bc : Nat} {g c n : Nat} {l : List Kd.I} {a : Nat} (h : Kd.M w0 W bc (.slice (some ⟨g, 0, none⟩) n c) l a) (hn : l.length = n) {i : Nat} (hi : i < n) (t : Int) :
  Kd.M w0 (W.setCell ⟨g, i * 3 + 1, none⟩ (.int .i64 t)) bc (.slice (some ⟨g, 0, none⟩) n c) (Kd.to l i t) a ∧ Kd.Kp bc (.slice (some ⟨g, 0, none⟩) n c) (.slice (some ⟨g, 0, none⟩) n c) W (W.setCell ⟨g, i * 3 + 1, none⟩ (.int .i64 t)) := by
 subst hn
 have hgb : g ≠ bc := h.ap g rfl
 have hg := h.row.lt g rfl
 have hbc : (W.setCell ⟨g, i * 3 + 1, none⟩ (.int .i64 t)).heap[bc]? = W.heap[bc]? := Kd.set_other (Ne.symm hgb)
 refine ⟨⟨h.bel.setCell (p := ⟨g, i * 3 + 1, none⟩) hg.1 _, h.ge, (Kd.cell_kept hbc 0).trans h.c0, (Kd.cell_kept hbc 3).trans h.c3, fun i => (Kd.frz_kept hbc i).trans (h.fz i), ?_, h.ap⟩, by rw [World.size_setCell]; exact Nat.le_refl _, fun q hq h1 h2 => Kd.set_other (fun e => h2 (by rw [e]; rfl)), fun q hq => .inl hq, Kd.cell_kept hbc 1, Kd.cell_kept hbc 2⟩
 rw [Kd.to_len, Kd.cl_to l i t hi]
 exact (h.row.stored (i * 3 + 1) (.int .i64 t)).1
theorem goHere_any {w0 W : World} {bc : Nat} {rv : Value} {l : List Kd.I} {a : Nat} (h : Kd.M w0 W bc rv l a) (hl : l.length ≤ 100000) (i : Nat) (hi : i < l.length) :
  Calls Try.prog 67 #[.pointer (some ⟨bc, 0, none⟩), .int .i64 (i : Nat)] W (Kd.Post w0 bc rv W (Kd.to l i (l.length : Nat)) a) := by
 obtain ⟨g, c, hv, _, hglt⟩ := h.row.form (by omega)
 subst hv
 have hn4 : l.length ≤ c := Kd.M.form h |>.elim fun _ h => h.elim fun _ h => by have := h.1; cases this; exact h.2
 have k0 := h.c0
 have HPO := hide ((h.goes rfl hi (l.length : Nat)))
 have kc : W.cell? ⟨g, i * 3 + 1, none⟩ = some (.int .i64 (l[i]).a) := by
  rw [h.row.cellAt (i * 3 + 1) (by omega)]
  exact Kd.cl_at l i _ 1 _ (List.getElem?_eq_getElem hi) rfl
 have kf : W.frozen? ⟨g, i * 3 + 1, none⟩ = false := h.row.frozenAt _
 generalize (l[i]).a = z at *
 generalize hn : l.length = n at *
 have hi0 : (0 : Int) ≤ (i : Int) := by omega
 have hi1 : (i : Int) < (n : Int) := by omega
 have hgb : g ≠ bc := h.ap g rfl
 clear h hn
 go_enter Try.func67, Try.ntmps67
 go_region_held3 (fun V => V.cell? ⟨bc, 0, none⟩ = some (.slice (some ⟨g, 0, none⟩) n c)) (go_keep) (fail)
 all_goals
  go_wp2_with fail
  go_end0
  exact ⟨rfl, _, (unhide HPO).1.below (Below.refl _ _).drew, (unhide HPO).2.trans (Kd.Kp.below (Below.refl _ _).drew (unhide HPO).1.lt)⟩
end Go.Proofs.Ytpfogjplnodacaa
