/-
  The law VmRuns, walked. By the verifier.
-/
import Derived.Test.YtpfogjplnodacaaGreatRRun
import Derived.Test.YtpfogjplnodacaaGreatLR
import Derived.Test.YtpfogjplnodacaaGreatKCc
import Derived.Test.YtpfogjplnodacaaGreatPIn
set_option maxRecDepth 100000
set_option maxHeartbeats 3200000
namespace Go.Proofs.YtpfogjplnodacaaGreat
open Go.RowKit Go.Maps
set_option linter.unusedVariables false
theorem Rm.evs_len {li : List Kd.I} {fs : List Int} {ss : List (List Int)} (hc : Vd.Cd li fs ss) : ∀ (N k : Nat) (st : Vd.St), Vd.Ok li ss k st → (Vd.go li fs ss N st).s.evs.length ≤ 4 * (k + N)
 | 0, k, st, h => h.s.evs
 | N + 1, k, st, h => by
  have h0 : (st.s.ended || st.lost) = false := by rw [h.s.go, h.on]; rfl
  rw [Vd.go_more h0]
  obtain ⟨h1, h2 | h2 | h2⟩ := Vd.do_ok hc h
  · rw [Vd.go_stop (by rw [h2]; simp)]; omega
  · rw [Vd.go_stop (by rw [h2.1]; simp)]; omega
  · have := Rm.evs_len hc N (k + 1) _ h2
    omega
theorem rAre_any (l : List Ev) (E : Nat) (ad bd : Option Addr) (cap dap k : Nat) (w : World) (hr : Cl.RE w ad l) (hr2 : E = 0 → Cl.RE w bd l) (h0 : E = 0 → k = l.length) (h1 : E ≠ 0 → l = []) (hl : l.length ≤ 35184372088832) :
  Calls Tryz.prog 10 #[.slice ad l.length cap, .int .i64 (E : Nat), .int .i64 (E : Nat), .slice bd k dap] w fun r w' => r = .returned (.bool true) ∧ Below w.heap.size w w' := by
 by_cases hE : E = 0
 · have HS := hide (SameEvents_long l ad bd cap dap w hr (hr2 hE) hl)
   obtain rfl := h0 hE
   clear hr2 h0 h1 hr
   subst hE
   go_enter Tryz.func10, Tryz.ntmps10
   go_wp2_with fail
   refine (unhide HS).mono ?_
   rintro r w4 ⟨rfl, hb4⟩
   have HB := hide hb4
   clear hb4
   go_wp2_with fail
   go_ret
   exact ⟨rfl, unhide HB⟩
 · obtain rfl := h1 hE
   have HS := hide (SameEvents_long [] ad none cap 0 w hr ⟨fun i x hi => by simp at hi⟩ hl)
   have be : (((E : Nat) : Int) == 0) = false := by simp; exact hE
   have be2 : (((E : Nat) : Int) != 0) = true := by simp; exact hE
   clear hr2 h0 h1 hr hE
   rw [show ([] : List Ev).length = 0 from rfl] at HS ⊢
   go_enter Tryz.func10, Tryz.ntmps10
   go_wp2_with fail
   refine (unhide HS).mono ?_
   rintro r w4 ⟨rfl, hb4⟩
   have HB := hide hb4
   clear hb4
   go_wp2_with fail
   go_ret
   exact ⟨rfl, unhide HB⟩
theorem vruns_any (si sf sz : Pg.Sl) (li : List Kd.I) (fs : List Int) (ss : List (List Int)) (ts : Pg.Sl) (inp : List Int) (fuel : Int) (w : World) (hco : Kd.RCo w si sf sz li fs ss) (hss : ∀ sz ∈ ss, sz.length ≤ 2000000) (hin : Pg.RN w ts inp) :
  Calls Tryz.prog 3 #[.agg #[.slice si.ad si.len si.cap, .slice sf.ad sf.len sf.cap, .slice sz.ad sz.len sz.cap], .slice ts.ad ts.len ts.cap, .int .i64 fuel] w fun r w' => r = .returned (.bool true) ∧ Below w.heap.size w w' := by
 have hb0 := (Below.refl w.heap.size w).alloc (Nat.le_refl _) (Obj.cells #[.slice si.ad si.len si.cap, .slice sf.ad sf.len sf.cap, .slice sz.ad sz.len sz.cap] 26)
 have hbx := Vm.Bx.new (heap_alloc_new w (Obj.cells #[.slice si.ad si.len si.cap, .slice sf.ad sf.len sf.cap, .slice sz.ad sz.len sz.cap] 26))
 have HCO := hide (fun (V : World) (hV : Below w.heap.size w V) => hco.later hV (Nat.le_refl _))
 have HIN := hide (fun (V : World) (hV : Below w.heap.size w V) => hin.later hV (Nat.le_refl _))
 have HRU := hide (vRun_any si sf sz li fs ss ts inp fuel _ (hco.later hb0 (Nat.le_refl _)) (hin.later hb0 (Nat.le_refl _)))
 have HVB := hide vmBegun_any
 have HSS := hide hss
 have HLEN := hide (show ∀ (h1 : Kd.chk li fs ss = 0) (h2 : Pg.chkIn inp fuel = 0), (Vd.go li fs ss 50000 (Vd.start fs ss inp fuel.toNat)).s.evs.length ≤ 200000 from fun h1 h2 => by
  have h3 := Rm.evs_len (Vd.cd_of h1) 50000 0 _ (Vd.start_ok (l := li) (Vd.cd_of h1) (Vm.inp_nm h2).1 fuel.toNat)
  omega)
 have HB0 := hide hb0
 have HX0 := hide hbx
 have a0 := hbx.at_ 0 _ rfl
 have a1 := hbx.at_ 1 _ rfl
 have a2 := hbx.at_ 2 _ rfl
 clear hb0 hbx hco hin hss
 go_enter Tryz.func3, Tryz.ntmps3
 go_upto_region 1 with fail
 generalize w.alloc (Obj.cells #[.slice si.ad si.len si.cap, .slice sf.ad sf.len sf.cap, .slice sz.ad sz.len sz.cap] 26) = W1 at *
 go_wp2_with fail
 refine (unhide HRU).mono ?_
 rintro r2 w2 ⟨a, cp, rfl, hrow, hb2⟩
 have hB2 := (unhide HB0).trans (hb2.mono (unhide HB0).size)
 have hx2 := (unhide HX0).kept hb2.size (hb2.block _ (unhide HX0).lt)
 have HCC := hide (CheckCode_any si sf sz li fs ss w2 ((unhide HCO) _ hB2))
 have HRE := hide (Xr.re_own rfl hrow)
 have HB2 := hide hB2
 have HX2 := hide hx2
 clear a0 a1 a2 hrow hb2 hB2 HRU HB0 HX0
 have a0 := hx2.at_ 0 _ rfl
 have a1 := hx2.at_ 1 _ rfl
 have a2 := hx2.at_ 2 _ rfl
 clear hx2
 obtain ⟨A, hA⟩ : ∃ A, A = Vm.ans li fs ss inp fuel := ⟨_, rfl⟩
 rw [← hA] at HRE ⊢
 have HA := hide hA
 clear hA
 obtain ⟨L, ok, E⟩ := A
 dsimp only at HRE ⊢
 go_wp2_with fail
 refine (unhide HCC).mono ?_
 rintro r3 w3 ⟨rfl, hb3⟩
 have hB3 := (unhide HB2).trans (hb3.mono (unhide HB2).size)
 have hx3 := (unhide HX2).kept hb3.size (hb3.block _ (unhide HX2).lt)
 have HRE3 := hide ((unhide HRE).later hb3 (Nat.le_refl _))
 have HB3 := hide hB3
 have HX3 := hide hx3
 have HCI := hide (CheckIn_any ts inp fuel w3 ((unhide HIN) _ hB3))
 clear a0 a1 a2 hb3 hB3 HCC HRE HB2 HX2
 have a0 := hx3.at_ 0 _ rfl
 have a1 := hx3.at_ 1 _ rfl
 have a2 := hx3.at_ 2 _ rfl
 clear hx3
 by_cases h1 : Kd.chk li fs ss = 0
 · by_cases h2 : Pg.chkIn inp fuel = 0
   · have hff := Vm.inp_nm h2
     obtain ⟨fu, hfu⟩ : ∃ fu : Nat, fuel = fu := ⟨fuel.toNat, by omega⟩
     have hRC := RunCode_any si sf sz li fs ss ts inp fu w3 ((unhide HCO) _ (unhide HB3)) (Vd.cd_of h1) (unhide HSS) ((unhide HIN) _ (unhide HB3)) hff.1 (by omega)
     have hln := (unhide HLEN) h1 h2
     have hAA := unhide HA
     unfold Vm.ans at hAA
     rw [if_pos h1, if_pos h2] at hAA
     rw [hfu, Int.toNat_natCast] at hAA hln
     rw [← hfu] at hRC
     obtain ⟨D, hD⟩ : ∃ D, D = Vd.go li fs ss 50000 (Vd.start fs ss inp fu) := ⟨_, rfl⟩
     rw [← hD] at hAA hRC hln
     have hL : L = (if D.s.ended then D.s.evs else []) ∧ ok = D.s.ended ∧ E = 0 := by
      cases he : D.s.ended with
      | true => rw [he] at hAA; simp only [if_true] at hAA ⊢; cases hAA; exact ⟨rfl, rfl, rfl⟩
      | false => rw [he] at hAA; simp only [Bool.false_eq_true, if_false] at hAA ⊢; cases hAA; exact ⟨rfl, rfl, rfl⟩
     obtain ⟨hL1, hL2, hL3⟩ := hL
     have hll : L.length ≤ 200000 := by rw [hL1]; split; exact hln; exact Nat.zero_le _
     rw [← hL2] at hRC hL1
     have HRC := hide hRC
     have HL1 := hide hL1
     subst hL3
     have hCI := unhide HCI
     rw [h2] at hCI
     clear HCI
     have HCI := hide hCI
     rw [h1]
     clear hCI
     clear hRC hL1 hL2 hAA hD hff hfu hln HA HLEN
     go_wp2_with fail
     refine (unhide HCI).mono ?_
     rintro r4 w4 ⟨rfl, rfl⟩
     go_wp2_with fail
     refine (unhide HRC).mono ?_
     rintro r5 w5 ⟨L2, b, dp, hL2, rfl, hrow5, hb5⟩
     have hLL : L2 = L := by rw [hL2, ← unhide HL1]
     subst hLL
     have HRE5 := hide ((unhide HRE3).later hb5 (Nat.le_refl _))
     have HRO5 := hide (Xr.re_own rfl hrow5)
     have HB5 := hide ((unhide HB3).trans (hb5.mono (unhide HB3).size))
     clear hL2 hrow5 hb5 HRC HCI HRE3
     go_wp2_with fail
     refine ((unhide HVB) _).mono ?_
     rintro r6 w6 ⟨rfl, hb6⟩
     have HAR := hide (show Calls Tryz.prog 10 #[.slice a L2.length cp, .int .i64 0, .int .i64 0, .slice b L2.length dp] w6 fun r w' => r = .returned (.bool true) ∧ Below w6.heap.size w6 w' from rAre_any L2 0 a b cp dp L2.length w6 ((unhide HRE5).later hb6 (Nat.le_refl _)) (fun _ => (unhide HRO5).later hb6 (Nat.le_refl _)) (fun _ => rfl) (fun h => absurd rfl h) (by omega))
     have HB6 := hide ((unhide HB5).trans (hb6.mono (unhide HB5).size))
     clear hb6 HRE5 HRO5 HVB
     go_wp2_with fail
     refine (unhide HAR).mono ?_
     rintro r7 w7 ⟨rfl, hb7⟩
     have HB7 := hide ((unhide HB6).trans (hb7.mono (unhide HB6).size))
     have hok : ((ok == ok) : Bool) = true := by simp
     clear hb7
     go_wp2_with fail
     go_ret
     exact ⟨by simp, unhide HB7⟩
   · have hAA := unhide HA
     unfold Vm.ans at hAA
     rw [if_pos h1, if_neg h2] at hAA
     cases hAA
     have g1 : (((Pg.chkIn inp fuel : Nat) : Int) == 0) = false := by simpa using h2
     have HE := hide h2
     rw [h1]
     clear HA HLEN h2
     generalize Pg.chkIn inp fuel = F at *
     go_wp2_with fail
     refine (unhide HCI).mono ?_
     rintro r4 w4 ⟨rfl, rfl⟩
     go_wp2_with fail
     refine ((unhide HVB) _).mono ?_
     rintro r6 w6 ⟨rfl, hb6⟩
     have HAR := hide (rAre_any [] F a none cp 0 0 w6 ((unhide HRE3).later hb6 (Nat.le_refl _)) (fun h => absurd h (unhide HE)) (fun _ => rfl) (fun _ => rfl) (by simp))
     have HB6 := hide ((unhide HB3).trans (hb6.mono (unhide HB3).size))
     clear hb6 HRE3 HVB
     go_wp2_with fail
     refine (unhide HAR).mono ?_
     rintro r7 w7 ⟨rfl, hb7⟩
     have HB7 := hide ((unhide HB6).trans (hb7.mono (unhide HB6).size))
     clear hb7
     go_wp2_with fail
     go_ret
     exact ⟨by simp, unhide HB7⟩
 · have hAA := unhide HA
   unfold Vm.ans at hAA
   rw [if_neg h1] at hAA
   cases hAA
   have g1 : (((Kd.chk li fs ss : Nat) : Int) == 0) = false := by simpa using h1
   have HE := hide h1
   clear HA HLEN h1
   generalize Kd.chk li fs ss = F at *
   go_wp2_with fail
   refine ((unhide HVB) _).mono ?_
   rintro r6 w6 ⟨rfl, hb6⟩
   have HAR := hide (rAre_any [] F a none cp 0 0 w6 ((unhide HRE3).later hb6 (Nat.le_refl _)) (fun h => absurd h (unhide HE)) (fun _ => rfl) (fun _ => rfl) (by simp))
   have HB6 := hide ((unhide HB3).trans (hb6.mono (unhide HB3).size))
   clear hb6 HRE3 HVB
   go_wp2_with fail
   refine (unhide HAR).mono ?_
   rintro r7 w7 ⟨rfl, hb7⟩
   have HB7 := hide ((unhide HB6).trans (hb7.mono (unhide HB6).size))
   clear hb7
   go_wp2_with fail
   go_ret
   exact ⟨by simp, unhide HB7⟩
end Go.Proofs.YtpfogjplnodacaaGreat
