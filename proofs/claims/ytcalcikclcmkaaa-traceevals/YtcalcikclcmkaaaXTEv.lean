/-
  The law TraceEvals, walked. By the verifier.
-/
import Derived.Test.YtcalcikclcmkaaaXChkE
import Derived.Test.YtcalcikclcmkaaaXBegun
import Derived.Test.YtcalcikclcmkaaaPValue
namespace Go.Proofs.Ytcalcikclcmkaaa
open Go.RowKit
set_option linter.unusedVariables false

set_option maxRecDepth 100000 in
set_option maxHeartbeats 1600000 in
theorem tevals_any (sa : Option Addr) (sl sc : Nat) (vs : List (List Int)) (n : Nat) (e : Pg.E) (x : Pg.XT n) (w : World) (hre : Pg.RX w n e x) (hrv : Pg.RV w ⟨sa, sl, sc⟩ vs) (hfew : sl ≤ 5864062014634) :
    Calls Try.prog 3 #[.agg #[.int .i64 e.k, .int .i64 e.n, .slice e.args.ad e.args.len e.args.cap], .slice sa sl sc] w fun r w' => r = .returned (.bool true) ∧ Below w.heap.size w w' := by
  obtain ⟨ek, en, ea, el, ec⟩ := e
  dsimp only
  have hb1 := (Below.refl w.heap.size w).alloc (Nat.le_refl _) (Obj.cells #[.int .i64 ek, .int .i64 en, .slice ea el ec] 24)
  have l0 : (w.alloc (Obj.cells #[.int .i64 ek, .int .i64 en, .slice ea el ec] 24)).cell? ⟨w.heap.size, 0, none⟩ = some (.int .i64 ek) := by go_simp
  have l1 : (w.alloc (Obj.cells #[.int .i64 ek, .int .i64 en, .slice ea el ec] 24)).cell? ⟨w.heap.size, 1, none⟩ = some (.int .i64 en) := by go_simp
  have l2 : (w.alloc (Obj.cells #[.int .i64 ek, .int .i64 en, .slice ea el ec] 24)).cell? ⟨w.heap.size, 2, none⟩ = some (.slice ea el ec) := by go_simp
  have HRE := hide (fun (V : World) (hV : Below w.heap.size w V) => hre.later hV (Nat.le_refl _))
  have HRV := hide (fun (V : World) (hV : Below w.heap.size w V) => hrv.later hV (Nat.le_refl _))
  have HB1 := hide hb1
  have HEV := hide (fun (V : World) (hV : Below w.heap.size w V) => show Calls Try.prog 8 #[.agg #[.int .i64 ek, .int .i64 en, .slice ea el ec], .slice sa sl sc] V _ from Eval_any sa sl sc vs n ⟨ek, en, ⟨ea, el, ec⟩⟩ x V ((unhide HRE) V hV) ((unhide HRV) V hV))
  have HCE := hide (fun (V : World) (hV : Below w.heap.size w V) => show Calls Try.prog 9 #[.agg #[.int .i64 ek, .int .i64 en, .slice ea el ec], .slice sa sl sc] V _ from CheckEval_any sa sl sc vs n ⟨ek, en, ⟨ea, el, ec⟩⟩ x V ((unhide HRE) V hV) ((unhide HRV) V hV) hfew)
  have HVO := hide (fun (h : Xr.evE vs n x = 0) (V : World) (hV : Below w.heap.size w V) => show Calls Try.prog 10 #[.agg #[.int .i64 ek, .int .i64 en, .slice ea el ec], .slice sa sl sc] V fun r w' => r = .returned (.tuple #[.int .i64 (Xr.evV vs n x).1, .int .i64 (Xr.evV vs n x).2]) ∧ Below V.heap.size V w' from by
    have hc : Pg.chkX (Pg.sizesOf vs) n x = 0 := by
      unfold Xr.evE at h
      split at h
      · assumption
      · exact h
    have h1 := ValueOf_any sa sl sc vs n ⟨ek, en, ⟨ea, el, ec⟩⟩ x V ((unhide HRE) V hV) ((unhide HRV) V hV) (Pg.okV_chk hre hc)
    rw [show Xr.evV vs n x = Pg.val vs n x by unfold Xr.evV; rw [if_pos h]]
    exact h1)
  have HEZ := hide (show Xr.evE vs n x ≠ 0 → Xr.evV vs n x = (0, 0) from fun h => by unfold Xr.evV; rw [if_neg h])
  generalize Xr.evE vs n x = EE at *
  generalize Xr.evV vs n x = EV at *
  obtain ⟨v1, v2⟩ := EV
  clear hre hrv hb1
  go_enter Try.func3, Try.ntmps3
  go_wp2_with fail
  generalize w.alloc (Obj.cells #[.int .i64 ek, .int .i64 en, .slice ea el ec] 24) = W1 at *
  refine ((unhide HEV) W1 (unhide HB1)).mono ?_
  rintro r w2 ⟨rfl, hb2⟩
  have hlt := World.block_lt_of_cell? _ _ l0
  have m0 := (hb2.cell (p := ⟨w.heap.size, 0, none⟩) hlt).trans l0
  have m1 := (hb2.cell (p := ⟨w.heap.size, 1, none⟩) hlt).trans l1
  have m2 := (hb2.cell (p := ⟨w.heap.size, 2, none⟩) hlt).trans l2
  have HB2 := hide ((unhide HB1).trans (hb2.mono (unhide HB1).size))
  clear hb2 hlt l0 l1 l2 HB1
  go_wp2_with fail
  refine ((unhide HCE) w2 (unhide HB2)).mono ?_
  rintro r w3 ⟨rfl, hb3⟩
  have hlt := World.block_lt_of_cell? _ _ m0
  have l0 := (hb3.cell (p := ⟨w.heap.size, 0, none⟩) hlt).trans m0
  have l1 := (hb3.cell (p := ⟨w.heap.size, 1, none⟩) hlt).trans m1
  have l2 := (hb3.cell (p := ⟨w.heap.size, 2, none⟩) hlt).trans m2
  have HB3 := hide ((unhide HB2).trans (hb3.mono (unhide HB2).size))
  clear hb3 hlt m0 m1 m2 HB2
  by_cases hE : EE = 0
  · have HV := hide ((unhide HVO) hE w3 (unhide HB3))
    subst hE
    go_wp2_with fail
    refine (unhide HV).mono ?_
    rintro r w4 ⟨rfl, hb4⟩
    have HB4 := hide ((unhide HB3).trans (hb4.mono (unhide HB3).size))
    clear hb4
    go_wp2_with fail
    refine (traceBegun_any _).mono ?_
    rintro r w5 ⟨rfl, hb5⟩
    have HB5 := hide ((unhide HB4).trans (hb5.mono (unhide HB4).size))
    clear hb5
    go_wp2_with fail
    go_ret
    exact ⟨rfl, unhide HB5⟩
  · have hz := (unhide HEZ) hE
    cases hz
    have be : (((EE : Nat) : Int) == 0) = false := by simp; exact hE
    clear hE
    go_wp2_with fail
    refine (traceBegun_any _).mono ?_
    rintro r w5 ⟨rfl, hb5⟩
    have HB5 := hide ((unhide HB3).trans (hb5.mono (unhide HB3).size))
    clear hb5
    go_wp2_with fail
    go_ret
    exact ⟨rfl, unhide HB5⟩
end Go.Proofs.Ytcalcikclcmkaaa
