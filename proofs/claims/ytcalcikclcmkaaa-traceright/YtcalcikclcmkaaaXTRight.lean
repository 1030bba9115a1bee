/-
  The law TraceRight, walked. By the verifier.
-/
import Derived.Test.YtcalcikclcmkaaaXBegun
import Derived.Test.YtcalcikclcmkaaaJD
import Derived.Test.YtcalcikclcmkaaaJK
set_option maxRecDepth 100000
set_option maxHeartbeats 1600000
namespace Go.Proofs.Ytcalcikclcmkaaa
open Go.RowKit
set_option linter.unusedVariables false
theorem tright_any {m n : Nat} (fs : Pg.Sl) (p : List (Pg.FT m n)) (l : List Ev) (ad : Option Addr) (cap : Nat) (w : World) (hp : Pg.RP w m n fs p) (hpf : Pg.parFit p) (hr : Cl.RE w ad l) (hl : l.length ≤ 35184372088832) :
  Calls Try.prog 5 #[.agg #[.slice fs.ad fs.len fs.cap], .slice ad l.length cap] w fun r w' => r = .returned (.bool true) ∧ Below w.heap.size w w' := by
 have hb0 := (Below.refl w.heap.size w).alloc (Nat.le_refl _) (Obj.cells #[.slice fs.ad fs.len fs.cap] 36)
 have q0 : (w.alloc (Obj.cells #[.slice fs.ad fs.len fs.cap] 36)).cell? ⟨w.heap.size, 0, none⟩ = some (.slice fs.ad fs.len fs.cap) := by go_simp
 have HRI := hide (Right_any fs p l ad cap _ (Pg.RP.later hp hb0 (Nat.le_refl _)) hpf (hr.later hb0 (Nat.le_refl _)) hl)
 have HCP := hide (fun (V : World) (hV : Below w.heap.size w V) => CheckProgram_any fs p V (Pg.RP.later hp hV (Nat.le_refl _)))
 have HRO := hide (fun (h : Xr.chkL p l = 0) (V : World) (hV : Below w.heap.size w V) => RightOf_any fs p l ad cap V (Pg.RP.later hp hV (Nat.le_refl _)) h (hr.later hV (Nat.le_refl _)))
 have HB0 := hide hb0
 obtain ⟨nl, hnl⟩ : ∃ nl, nl = l.length := ⟨_, rfl⟩
 have HCL := hide (show Xr.chkL p l = if Pg.chkP p = 0 then (if 4000 < nl then 2 else 0) else Pg.chkP p by rw [hnl]; rfl)
 have HRF := hide (show Xr.chkL p l ≠ 0 → Xr.right p l = false from fun h => by unfold Xr.right; rw [decide_eq_false h]; rfl)
 rw [← hnl] at HRI HRO hl ⊢
 generalize Xr.chkL p l = CL at *
 generalize Xr.right p l = RI at *
 generalize Pg.chkP p = CP at *
 clear hp hpf hr hb0 hnl
 go_enter Try.func5, Try.ntmps5
 go_wp2_with fail
 generalize w.alloc (Obj.cells #[.slice fs.ad fs.len fs.cap] 36) = W1 at *
 refine (unhide HRI).mono ?_
 rintro r w2 ⟨rfl, hb2⟩
 have q2 := (hb2.cell (p := ⟨w.heap.size, 0, none⟩) (World.block_lt_of_cell? _ _ q0)).trans q0
 have HB2 := hide ((unhide HB0).trans (hb2.mono (unhide HB0).size))
 clear hb2 q0 HB0
 go_wp2_with fail
 refine ((unhide HCP) w2 (unhide HB2)).mono ?_
 rintro r w3 ⟨rfl, hb3⟩
 have q3 := (hb3.cell (p := ⟨w.heap.size, 0, none⟩) (World.block_lt_of_cell? _ _ q2)).trans q2
 have HB3 := hide ((unhide HB2).trans (hb3.mono (unhide HB2).size))
 clear hb3 q2 HB2
 by_cases hE : CP = 0
 · by_cases h4 : 4000 < nl
   · have HC2 := hide (show CL = 2 by rw [unhide HCL, if_pos hE, if_pos h4])
     have HR2 := hide ((unhide HRF) (by rw [unhide HC2]; decide))
     have g4 : (nl : Int) > 4000 := by omega
     subst hE
     obtain rfl := unhide HC2
     obtain rfl := unhide HR2
     go_wp2_with fail
     refine (traceBegun_any _).mono ?_
     rintro r w5 ⟨rfl, hb5⟩
     have HB5 := hide ((unhide HB3).trans (hb5.mono (unhide HB3).size))
     clear hb5
     go_wp2_with fail
     go_ret
     exact ⟨rfl, unhide HB5⟩
   · have HC2 := hide (show CL = 0 by rw [unhide HCL, if_pos hE, if_neg h4])
     have g4 : ¬ (nl : Int) > 4000 := by omega
     subst hE
     obtain rfl := unhide HC2
     go_wp2_with fail
     refine (traceBegun_any _).mono ?_
     rintro r w5 ⟨rfl, hb5⟩
     have q5 := (hb5.cell (p := ⟨w.heap.size, 0, none⟩) (World.block_lt_of_cell? _ _ q3)).trans q3
     have HB5 := hide ((unhide HB3).trans (hb5.mono (unhide HB3).size))
     clear hb5
     go_wp2_with fail
     refine ((unhide HRO) (by first | rfl | trivial) w5 (unhide HB5)).mono ?_
     rintro r w6 ⟨rfl, hb6⟩
     have HB6 := hide ((unhide HB5).trans (hb6.mono (unhide HB5).size))
     clear hb6
     cases RI
     · go_wp2_with fail
       go_ret
       exact ⟨rfl, unhide HB6⟩
     · go_wp2_with fail
       go_ret
       exact ⟨rfl, unhide HB6⟩
 · have HC2 := hide (show CL = CP by rw [unhide HCL, if_neg hE])
   have HR2 := hide ((unhide HRF) (by rw [unhide HC2]; exact hE))
   have be : (((CP : Nat) : Int) == 0) = false := by simp; exact hE
   obtain rfl := unhide HC2
   obtain rfl := unhide HR2
   clear hE
   go_wp2_with fail
   refine (traceBegun_any _).mono ?_
   rintro r w5 ⟨rfl, hb5⟩
   have HB5 := hide ((unhide HB3).trans (hb5.mono (unhide HB3).size))
   clear hb5
   go_wp2_with fail
   go_ret
   exact ⟨rfl, unhide HB5⟩
end Go.Proofs.Ytcalcikclcmkaaa
