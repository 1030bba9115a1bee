/- By the verifier. -/
import Derived.Test.YtfccpddehpgfoaaGreatDoorYD
namespace Go.Proofs.YtfccpddehpgfoaaGreatDoor
open Go.RowKit
set_option linter.unusedVariables false
theorem Zj9 {W : World} (h : laidMetH Tryz.prog Rows.showBackRow.laid W) : ZdL W := by
 rw [MakeChecks.laidMetH_plain _ _ _ (by kernel_rfl)] at h
 obtain ⟨ps, ⟨g0, t0, cs0, f0, p0, q0, _, _, _, _, ⟨g1, t1, cs1, f1, p1, q1, _, _, _, _, ⟨g2, t2, cs2, f2, p2, q2, hg2, ht2, hv2, hd2, _, _⟩, _⟩, _⟩, _, _⟩ := h
 obtain rfl := Option.some.inj (Zl2.symm.trans hg2)
 obtain rfl := Option.some.inj (Zlv.symm.trans ht2)
 rw [Qd.dat] at hd2
 have hc := Lib.cells_of_tab Tryz.underlying242 Tryz.underlying224 Qd.c1 Qd.c20 hd2
 have hv : W.var? Tryz.prog Qd.nm = some cs2 := hv2
 unfold ZdL Lib.TabIs
 rw [hv, ← hc]
end Go.Proofs.YtfccpddehpgfoaaGreatDoor
