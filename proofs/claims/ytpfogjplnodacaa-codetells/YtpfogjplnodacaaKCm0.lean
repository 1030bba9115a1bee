/-
  The contract of the compiler's cmd, kind by kind. By the verifier; written by mkk.py.
-/
import Derived.Test.YtpfogjplnodacaaKChoice
namespace Go.Proofs.Ytpfogjplnodacaa
open Go.RowKit
set_option linter.unusedVariables false
section
variable {m n : Nat} {w0 : World} {bc : Nat}
theorem Kd.M.count {W : World} {rv : Value} {l : List Kd.I} {a : Nat} (h : Kd.M w0 W bc rv l a) (k : Nat) : Kd.M w0 (W.setCell ⟨bc, 3, none⟩ (.int .i64 (k : Nat))) bc rv l k ∧ Kd.Kp bc rv rv W (W.setCell ⟨bc, 3, none⟩ (.int .i64 (k : Nat))) := by
 have o3 : ∀ j, j ≠ 3 → (W.setCell ⟨bc, 3, none⟩ (.int .i64 (k : Nat))).cell? ⟨bc, j, none⟩ = W.cell? ⟨bc, j, none⟩ := fun j hj => World.cell?_setCell_other _ _ _ _ (by intro hh; exact hj (congrArg Addr.off hh).symm)
 exact ⟨⟨h.bel.setCell (p := ⟨bc, 3, none⟩) h.ge _, h.ge, (o3 0 (by omega)).trans h.c0, World.cell?_setCell_same _ _ _ h.c3, fun i => by rw [World.frozen?_setCell]; exact h.fz i, Kd.ow_kept h.row (fun q hq => Kd.set_other (h.ap q hq)), h.ap⟩, by rw [World.size_setCell]; exact Nat.le_refl _, fun q hq h1 h2 => Kd.set_other h1, fun q hq => .inl hq, o3 1 (by omega), o3 2 (by omega)⟩
def Kd.shape {j : Nat} (y : Pg.CT m (j + 1)) : Prop := (1 ≤ y.1.1 ∧ y.1.1 ≤ 7) ∧ (y.1.1 ≠ 6 → y.2.2.2 = []) ∧ (y.1.1 ≠ 6 → y.1.1 ≠ 7 → y.2.2.1 = [])
end
end Go.Proofs.Ytpfogjplnodacaa
