/-
  The library's table of powers, out of what is laid. By the verifier.
-/
import Derived.Test.YtfhlnelgnnkeoaaGreatDoorQItoa
import Derived.MakeChecks
import Derived.Lib.LaidTab
namespace Go.Proofs.YtfhlnelgnnkeoaaGreatDoor
open Go.RowKit
set_option linter.unusedVariables false

theorem Qd.dat : (Rows.laid_internal_strconv_uint64pow10 : DataW Unit) = Lib.tabData .u64 Lib.pow10Tab := by kernel_rfl
theorem Qd.gnum : Tryz.prog.globalNamed Qd.nm = some 0 := by kernel_rfl
theorem Qd.gtype : (Tryz.prog.globals[0]?).map (·.type) = some 134 := by kernel_rfl
theorem Qd.c20 : Tryz.prog.cellsOf 134 = 20 := by kernel_rfl
theorem Qd.c1 : Tryz.prog.cellsOf 127 = 1 := by kernel_rfl
theorem Qd.tab_of {W : World} (h : laidMetH Tryz.prog Rows.queryTellsRow.laid W) : Qd.tab W := by
  rw [MakeChecks.laidMetH_plain _ _ _ (by kernel_rfl)] at h
  obtain ⟨ps, ⟨g0, t0, cs0, f0, p0, q0, _, _, _, _, ⟨g1, t1, cs1, f1, p1, q1, _, _, _, _, ⟨g2, t2, cs2, f2, p2, q2, hg2, ht2, hv2, hd2, _, _⟩, _⟩, _⟩, _, _⟩ := h
  obtain rfl := Option.some.inj (Qd.gnum.symm.trans hg2)
  obtain rfl := Option.some.inj (Qd.gtype.symm.trans ht2)
  rw [Qd.dat] at hd2
  have hc := Lib.cells_of_tab Tryz.underlying134 Tryz.underlying127 Qd.c1 Qd.c20 hd2
  have hv : W.var? Tryz.prog Qd.nm = some cs2 := hv2
  unfold Qd.tab Lib.TabIs
  rw [hv, ← hc]
end Go.Proofs.YtfhlnelgnnkeoaaGreatDoor
