/-
  What must be in any case, of code; the law CodeTells, walked. By the verifier.
-/
import Derived.Test.YtpfogjplnodacaaKComp
import Derived.Test.YtpfogjplnodacaaKCheck
import Derived.Test.YtpfogjplnodacaaKCc
import Derived.Test.YtpfogjplnodacaaJD
import Derived.Test.YtpfogjplnodacaaXSml
set_option maxRecDepth 100000
set_option maxHeartbeats 1600000
namespace Go.Proofs.Ytpfogjplnodacaa
open Go.RowKit
set_option linter.unusedVariables false
theorem Kd.small_chk : Pg.chkP Xr.small = 0 := by kernel_rfl
theorem Kd.small_fst : (Kd.fst Xr.small).length = 1 := by kernel_rfl
theorem codeBegun_any (w : World) :
  Calls Try.prog 6 #[] w fun r w' => r = .returned (.bool true) ∧ Below w.heap.size w w' := by
 go_enter Try.func6, Try.ntmps6
 go_wp2_with fail
 refine (small_any w).mono ?_
 rintro r w1 ⟨g, rfl, hp, hb1⟩
 have HB1 := hide hb1
 have HCO := hide (Compile_any ⟨some ⟨g, 0, none⟩, 1, 1⟩ Xr.small w1 hp Xr.small_fit)
 clear hp hb1
 go_wp2_with fail
 refine (unhide HCO).mono ?_
 rintro r w2 ⟨si, sf, sz, rfl, hco, _, hb2⟩
 have hco2 := hco Kd.small_chk
 have hf1 : sf.len = 1 := by rw [hco2.fst.len]; exact Kd.small_fst
 obtain ⟨ia, il, ic⟩ := si
 obtain ⟨fa, fl, fc⟩ := sf
 obtain ⟨sa, sl, sc⟩ := sz
 dsimp only at hf1
 subst hf1
 rw [Kd.small_chk, show (((0 : Nat)) : Int) = 0 from rfl]
 have hal := (Below.refl w2.heap.size w2).alloc (Nat.le_refl _) (Obj.cells #[.slice ia il ic, .slice fa 1 fc, .slice sa sl sc] 26)
 have HK := hide (show Calls Try.prog 7 #[.agg #[.slice ia il ic, .slice fa 1 fc, .slice sa sl sc]] (w2.alloc (Obj.cells #[.slice ia il ic, .slice fa 1 fc, .slice sa sl sc] 26)) (fun r w' => r = .returned (.int .i64 0) ∧ Below (w2.alloc (Obj.cells #[.slice ia il ic, .slice fa 1 fc, .slice sa sl sc] 26)).heap.size (w2.alloc (Obj.cells #[.slice ia il ic, .slice fa 1 fc, .slice sa sl sc] 26)) w') from by
  have h := kCheck_any ⟨ia, il, ic⟩ ⟨fa, 1, fc⟩ ⟨sa, sl, sc⟩ _ _ _ _ (hco2.later hal (Nat.le_refl _))
  rw [(Kd.compiled Kd.small_chk).1] at h
  exact h)
 have hn := heap_alloc_new w2 (Obj.cells #[.slice ia il ic, .slice fa 1 fc, .slice sa sl sc] 26)
 have HN := hide hn
 have HB2 := hide ((unhide HB1).trans (hb2.mono (unhide HB1).size))
 have HB3 := hide ((unhide HB2).trans (hal.mono (unhide HB2).size))
 have hlt : w2.heap.size < (w2.alloc (Obj.cells #[.slice ia il ic, .slice fa 1 fc, .slice sa sl sc] 26)).heap.size := by simp
 clear hco hco2 hb2 hal hn
 unfold Kd.sv
 go_wp2_with fail
 refine (unhide HK).mono ?_
 rintro r w4 ⟨rfl, hb4⟩
 have hn4 := (hb4.block w2.heap.size hlt).trans (unhide HN)
 have u1 := (cell_of_row w4 w2.heap.size 1 _ _ _ hn4).trans rfl
 have HB4 := hide ((unhide HB3).trans (hb4.mono (unhide HB3).size))
 clear hb4 hn4
 go_wp2_with fail
 go_ret
 exact ⟨rfl, unhide HB4⟩
end Go.Proofs.Ytpfogjplnodacaa
