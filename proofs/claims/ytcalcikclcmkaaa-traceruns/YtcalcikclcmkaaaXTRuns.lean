/-
  The law TraceRuns, walked. By the verifier.
-/
import Derived.Test.YtcalcikclcmkaaaXBegun
import Derived.Test.YtcalcikclcmkaaaJD
import Derived.Test.YtcalcikclcmkaaaJJ
set_option maxRecDepth 100000
set_option maxHeartbeats 1600000
namespace Go.Proofs.Ytcalcikclcmkaaa
open Go.RowKit
set_option linter.unusedVariables false
theorem checkTrace_any {m n : Nat} (fs : Pg.Sl) (p : List (Pg.FT m n)) (ts : Pg.Sl) (inp : List Int) (fuel : Int) (w : World) (hp : Pg.RP w m n fs p) (hin : Pg.RN w ts inp) :
  Calls Try.prog 13 #[.agg #[.slice fs.ad fs.len fs.cap], .slice ts.ad ts.len ts.cap, .int .i64 fuel] w fun r w' => r = .returned (.int .i64 (Xr.chkR p inp fuel : Nat)) ∧ Below w.heap.size w w' := by
 have hb0 := (Below.refl w.heap.size w).alloc (Nat.le_refl _) (Obj.cells #[.slice fs.ad fs.len fs.cap] 36)
 have q0 : (w.alloc (Obj.cells #[.slice fs.ad fs.len fs.cap] 36)).cell? ⟨w.heap.size, 0, none⟩ = some (.slice fs.ad fs.len fs.cap) := by go_simp
 have HCP := hide (CheckProgram_any fs p _ (Pg.RP.later hp hb0 (Nat.le_refl _)))
 have HCI := hide (fun (V : World) (hV : Below w.heap.size w V) => CheckIn_any ts inp fuel V (hin.later hV (Nat.le_refl _)))
 have HB0 := hide hb0
 have HR := hide (show Xr.chkR p inp fuel = if Pg.chkP p = 0 then Pg.chkIn inp fuel else Pg.chkP p from rfl)
 generalize Xr.chkR p inp fuel = RR at *
 generalize Pg.chkP p = CP at *
 generalize Pg.chkIn inp fuel = CI at *
 clear hp hin hb0
 go_enter Try.func13, Try.ntmps13
 go_wp2_with fail
 refine (unhide HCP).mono ?_
 rintro r w2 ⟨rfl, hb2⟩
 have HB2 := hide ((unhide HB0).trans (hb2.mono (unhide HB0).size))
 clear hb2
 by_cases hE : CP = 0
 · have HV := hide ((unhide HCI) w2 (unhide HB2))
   have HRR := hide (show RR = CI by rw [unhide HR, if_pos hE])
   subst hE
   go_wp2_with fail
   refine (unhide HV).mono ?_
   rintro r w4 ⟨rfl, hw4⟩
   obtain rfl : w2 = w4 := hw4.symm
   go_wp2_with fail
   go_ret
   exact ⟨by rw [unhide HRR]; rfl, unhide HB2⟩
 · have HRR := hide (show RR = CP by rw [unhide HR, if_neg hE])
   have be : (((CP : Nat) : Int) == 0) = false := by simp; exact hE
   clear hE
   go_wp2_with fail
   go_ret
   exact ⟨by rw [unhide HRR]; rfl, unhide HB2⟩
theorem eventsAre_any (l : List Ev) (E : Nat) (ad bd : Option Addr) (cap dap k : Nat) (w : World) (hr : Cl.RE w ad l) (hr2 : E = 0 → Cl.RE w bd l) (h0 : E = 0 → k = l.length) (h1 : E ≠ 0 → l = []) (hl : l.length ≤ 4000) :
  Calls Try.prog 15 #[.slice ad l.length cap, .int .i64 (E : Nat), .int .i64 (E : Nat), .slice bd k dap] w fun r w' => r = .returned (.bool true) ∧ Below w.heap.size w w' := by
 by_cases hE : E = 0
 · have HS := hide (SameEvents_eq l ad bd cap dap w hr (hr2 hE) hl)
   obtain rfl := h0 hE
   clear hr2 h0 h1 hr
   subst hE
   go_enter Try.func15, Try.ntmps15
   go_wp2_with fail
   refine (unhide HS).mono ?_
   rintro r w4 ⟨rfl, hb4⟩
   have HB := hide hb4
   clear hb4
   go_wp2_with fail
   go_ret
   exact ⟨rfl, unhide HB⟩
 · obtain rfl := h1 hE
   have HS := hide (SameEvents_eq [] ad none cap 0 w hr ⟨fun i x hi => by simp at hi⟩ hl)
   have be : (((E : Nat) : Int) == 0) = false := by simp; exact hE
   have be2 : (((E : Nat) : Int) != 0) = true := by simp; exact hE
   clear hr2 h0 h1 hr hE
   rw [show ([] : List Ev).length = 0 from rfl] at HS ⊢
   go_enter Try.func15, Try.ntmps15
   go_wp2_with fail
   refine (unhide HS).mono ?_
   rintro r w4 ⟨rfl, hb4⟩
   have HB := hide hb4
   clear hb4
   go_wp2_with fail
   go_ret
   exact ⟨rfl, unhide HB⟩
theorem truns_any {m n : Nat} (fs : Pg.Sl) (p : List (Pg.FT m n)) (ts : Pg.Sl) (inp : List Int) (fuel : Int) (w : World) (hp : Pg.RP w m n fs p) (hpf : Pg.parFit p) (hin : Pg.RN w ts inp) :
  Calls Try.prog 4 #[.agg #[.slice fs.ad fs.len fs.cap], .slice ts.ad ts.len ts.cap, .int .i64 fuel] w fun r w' => r = .returned (.bool true) ∧ Below w.heap.size w w' := by
 have hb0 := (Below.refl w.heap.size w).alloc (Nat.le_refl _) (Obj.cells #[.slice fs.ad fs.len fs.cap] 36)
 have q0 : (w.alloc (Obj.cells #[.slice fs.ad fs.len fs.cap] 36)).cell? ⟨w.heap.size, 0, none⟩ = some (.slice fs.ad fs.len fs.cap) := by go_simp
 have HRU := hide (Run_len fs p ts inp fuel _ (Pg.RP.later hp hb0 (Nat.le_refl _)) hpf (hin.later hb0 (Nat.le_refl _)))
 have HCT := hide (fun (V : World) (hV : Below w.heap.size w V) => checkTrace_any fs p ts inp fuel V (Pg.RP.later hp hV (Nat.le_refl _)) (hin.later hV (Nat.le_refl _)))
 have HTR := hide (fun (h : Xr.chkR p inp fuel = 0) (V : World) (hV : Below w.heap.size w V) => show Calls Try.prog 14 #[.agg #[.slice fs.ad fs.len fs.cap], .slice ts.ad ts.len ts.cap, .int .i64 fuel] V fun r w' => ∃ a c, r = .returned (.slice a (Xr.out p inp fuel).length c) ∧ w'.ownsRow V.heap.size 50 6 (.slice a (Xr.out p inp fuel).length c) (Xr.out p inp fuel).length (Xr.evC (Xr.out p inp fuel)) ∧ Below V.heap.size V w' from by
  have hc : Pg.chkP p = 0 := by
   unfold Xr.chkR at h
   split at h
   · assumption
   · exact h
  have hi : Pg.chkIn inp fuel = 0 := by
   unfold Xr.chkR at h
   rw [if_pos hc] at h
   exact h
  have hff : 0 ≤ fuel ∧ fuel ≤ 500 := by
   unfold Pg.chkIn at hi
   split at hi
   · cases hi
   split at hi
   · cases hi
   split at hi
   · assumption
   · cases hi
  obtain ⟨hpp, hp0⟩ := Xr.PP.of (Pg.RP.later hp hV (Nat.le_refl _)) hc
  obtain ⟨fu, rfl⟩ : ∃ fu : Nat, fuel = (fu : Nat) := ⟨fuel.toNat, by omega⟩
  have ho : Xr.out p inp ((fu : Nat) : Int) = Xr.main p inp fu := by
   unfold Xr.out
   rw [if_pos h, Int.toNat_natCast]
  rw [ho]
  exact TraceOf_any fs p ts inp fu (by omega) V hpp hp0 (hin.later hV (Nat.le_refl _)))
 have HOZ := hide (show Xr.chkR p inp fuel ≠ 0 → Xr.out p inp fuel = [] from fun h => by unfold Xr.out; rw [if_neg h])
 have HB0 := hide hb0
 generalize Xr.chkR p inp fuel = RR at *
 generalize Xr.out p inp fuel = LL at *
 clear hp hin hb0 hpf
 obtain ⟨nl, hnl⟩ : ∃ nl, nl = LL.length := ⟨_, rfl⟩
 have HNL := hide hnl
 rw [← hnl] at HRU HTR
 go_enter Try.func4, Try.ntmps4
 go_wp2_with fail
 generalize w.alloc (Obj.cells #[.slice fs.ad fs.len fs.cap] 36) = W1 at *
 refine (unhide HRU).mono ?_
 rintro r w2 ⟨a1, c1, rfl, how, hb2, hll⟩
 have HOW := hide how
 have HLL := hide hll
 have hlt := World.block_lt_of_cell? _ _ q0
 have q2 := (hb2.cell (p := ⟨w.heap.size, 0, none⟩) hlt).trans q0
 have HB2 := hide ((unhide HB0).trans (hb2.mono (unhide HB0).size))
 clear how hll hb2 hlt q0 HB0 hnl
 go_wp2_with fail
 refine ((unhide HCT) w2 (unhide HB2)).mono ?_
 rintro r w3 ⟨rfl, hb3⟩
 have hlt := World.block_lt_of_cell? _ _ q2
 have q3 := (hb3.cell (p := ⟨w.heap.size, 0, none⟩) hlt).trans q2
 have HB3 := hide ((unhide HB2).trans (hb3.mono (unhide HB2).size))
 have HOW3 := hide (Pg.ow_below (unhide HOW) hb3)
 clear hb3 hlt q2 HB2 HOW
 by_cases hE : RR = 0
 · have HV := hide ((unhide HTR) hE w3 (unhide HB3))
   subst hE
   go_wp2_with fail
   refine (unhide HV).mono ?_
   rintro r w4 ⟨a4, c4, rfl, how4, hb4⟩
   have HB4 := hide ((unhide HB3).trans (hb4.mono (unhide HB3).size))
   have HOW4 := hide (Pg.ow_below (unhide HOW3) hb4)
   have HOX4 := hide how4
   clear hb4 how4
   go_wp2_with fail
   refine (traceBegun_any _).mono ?_
   rintro r w5 ⟨rfl, hb5⟩
   have HB5 := hide ((unhide HB4).trans (hb5.mono (unhide HB4).size))
   have HEA := hide (show Calls Try.prog 15 #[.slice a1 nl c1, .int .i64 ((0 : Nat) : Int), .int .i64 ((0 : Nat) : Int), .slice a4 nl c4] w5 _ by
    rw [unhide HNL]
    exact eventsAre_any LL 0 a1 a4 c1 c4 LL.length w5 (Xr.re_own (unhide HNL).symm (Pg.ow_below (unhide HOW4) hb5)) (fun _ => Xr.re_own (unhide HNL).symm (Pg.ow_below (unhide HOX4) hb5)) (fun _ => rfl) (fun h => absurd rfl h) (by have := unhide HLL; have := unhide HNL; omega))
   clear hb5
   go_wp2_with fail
   refine (unhide HEA).mono ?_
   rintro r w6 ⟨rfl, hb6⟩
   have HB6 := hide ((unhide HB5).trans (hb6.mono (unhide HB5).size))
   clear hb6
   go_wp2_with fail
   go_ret
   exact ⟨rfl, unhide HB6⟩
 · have hz := (unhide HOZ) hE
   have be : (((RR : Nat) : Int) == 0) = false := by simp; exact hE
   have HE := hide hE
   have HZ := hide hz
   clear hE hz
   go_wp2_with fail
   refine (traceBegun_any _).mono ?_
   rintro r w5 ⟨rfl, hb5⟩
   have HB5 := hide ((unhide HB3).trans (hb5.mono (unhide HB3).size))
   have HEA := hide (show Calls Try.prog 15 #[.slice a1 nl c1, .int .i64 (RR : Nat), .int .i64 (RR : Nat), .slice none 0 0] w5 _ by
    rw [unhide HNL]
    exact eventsAre_any LL RR a1 none c1 0 0 w5 (Xr.re_own (unhide HNL).symm (Pg.ow_below (unhide HOW3) hb5)) (fun h => absurd h (unhide HE)) (fun h => absurd h (unhide HE)) (fun _ => unhide HZ) (by have := unhide HLL; have := unhide HNL; omega))
   clear hb5
   go_wp2_with fail
   refine (unhide HEA).mono ?_
   rintro r w6 ⟨rfl, hb6⟩
   have HB6 := hide ((unhide HB5).trans (hb6.mono (unhide HB5).size))
   clear hb6
   go_wp2_with fail
   go_ret
   exact ⟨rfl, unhide HB6⟩
end Go.Proofs.Ytcalcikclcmkaaa
