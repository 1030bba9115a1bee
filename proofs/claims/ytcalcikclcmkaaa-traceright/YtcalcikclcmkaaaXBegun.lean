/-
  traceBegun of the laws. By the verifier.
-/
import Derived.Test.YtcalcikclcmkaaaJA
set_option maxRecDepth 100000
set_option maxHeartbeats 3200000
namespace Go.Proofs.Ytcalcikclcmkaaa
open Go.RowKit
set_option linter.unusedVariables false
theorem Cl.RE.dropN {w : World} {g o : Nat} {l : List Ev} (h : Cl.RE w (some ⟨g, o, none⟩) l) (k : Nat) : Cl.RE w (some ⟨g, o + k * 6, none⟩) (l.drop k) := ⟨fun i x hi => by
 rw [List.getElem?_drop] at hi
 obtain ⟨b, o', h1, h2, h3, h4, h5, h6, h7, h8⟩ := h.at_ _ _ hi
 cases h1
 have e : o + k * 6 + i * 6 = o + (k + i) * 6 := by rw [Nat.add_mul]; omega
 exact ⟨g, o + k * 6, rfl, h2, by rw [e]; exact h3, by rw [e]; exact h4, by rw [e]; exact h5, by rw [e]; exact h6, by rw [e]; exact h7, by rw [e]; exact h8⟩⟩
theorem traceBegun_any (w : World) :
  Calls Try.prog 11 #[] w fun r w' => r = .returned (.bool true) ∧ Below w.heap.size w w' := by
 have HSM := hide small_any
 have HST := hide xsmallTrace_any
 have HRUN := hide (fun (V : World) (g b : Nat) (hp : Pg.RP V 1 1 ⟨some ⟨g, 0, none⟩, 1, 1⟩ Xr.small) (hb : b < V.heap.size) (hc : V.cell? ⟨b, 0, none⟩ = some (.int .i64 7)) => show Calls Try.prog 12 #[.agg #[.slice (some ⟨g, 0, none⟩) 1 1], .slice (some ⟨b, 0, none⟩) 1 1, .int .i64 9] V fun r w' => ∃ a c, r = .returned (.tuple #[.slice a 6 c, .int .i64 0]) ∧ Cl.RE w' a Xr.tr ∧ Below V.heap.size V w' from by
  have h1 := Run_any ⟨some ⟨g, 0, none⟩, 1, 1⟩ Xr.small ⟨some ⟨b, 0, none⟩, 1, 1⟩ [7] 9 V hp Xr.small_fit ⟨rfl, Nat.le_refl _, by simp, fun i z hz => by
   match i, hz with
   | 0, hz => cases hz; exact ⟨b, 0, rfl, hb, hc⟩
   | _ + 1, hz => simp at hz⟩
  rw [Xr.small_ok, Xr.small_out] at h1
  refine h1.mono ?_
  rintro r w' ⟨a, c, h2, h3, h4⟩
  exact ⟨a, c, h2, Xr.re_own rfl h3, h4⟩)
 have HEV := hide (fun (V : World) => show Calls Try.prog 8 #[.agg #[.int .i64 1, .int .i64 4, .slice none 0 0], .slice none 0 0] V fun r w' => r = .returned (.tuple #[.int .i64 4, .int .i64 0, .int .i64 0]) ∧ Below V.heap.size V w' from Eval_four V)
 have HR3 := hide (fun (V : World) (g b : Nat) (hp : Pg.RP V 1 1 ⟨some ⟨g, 0, none⟩, 1, 1⟩ Xr.small) (hr : Cl.RE V (some ⟨b, 0, none⟩) Xr.tr) => show Calls Try.prog 16 #[.agg #[.slice (some ⟨g, 0, none⟩) 1 1], .slice (some ⟨b, 0, none⟩) 3 6] V fun r w' => r = .returned (.tuple #[.bool true, .int .i64 0]) ∧ Below V.heap.size V w' from by
  have h1 := Right_any ⟨some ⟨g, 0, none⟩, 1, 1⟩ Xr.small (Xr.tr.take 3) (some ⟨b, 0, none⟩) 6 V hp Xr.small_fit (hr.takeN 3) (by show 3 ≤ 35184372088832; omega)
  rw [Xr.small_right, Xr.small_chk _ (by show 3 ≤ 6; omega)] at h1
  exact h1)
 have HR1 := hide (fun (V : World) (g b : Nat) (hp : Pg.RP V 1 1 ⟨some ⟨g, 0, none⟩, 1, 1⟩ Xr.small) (hr : Cl.RE V (some ⟨b, 0, none⟩) Xr.tr) => show Calls Try.prog 16 #[.agg #[.slice (some ⟨g, 0, none⟩) 1 1], .slice (some ⟨b, 6, none⟩) 5 5] V fun r w' => r = .returned (.tuple #[.bool false, .int .i64 0]) ∧ Below V.heap.size V w' from by
  have h1 := Right_any ⟨some ⟨g, 0, none⟩, 1, 1⟩ Xr.small (Xr.tr.drop 1) (some ⟨b, 6, none⟩) 5 V hp Xr.small_fit (hr.dropN 1) (by show 5 ≤ 35184372088832; omega)
  rw [Xr.small_wrong, Xr.small_chk _ (by show 5 ≤ 6; omega)] at h1
  exact h1)
 have HSE := hide (fun (V : World) (a b : Option Addr) (c d : Nat) (hr : Cl.RE V a Xr.tr) (hr2 : Cl.RE V b Xr.tr) => show Calls Try.prog 19 #[.slice a 6 c, .slice b 6 d] V fun e w' => e = .returned (.bool true) ∧ Below V.heap.size V w' from SameEvents_eq Xr.tr a b c d V hr hr2 (by show 6 ≤ 4000; omega))
 go_enter Try.func11, Try.ntmps11
 go_wp2_with fail
 refine ((unhide HSM) _).mono ?_
 rintro r w1 ⟨g1, rfl, hp1, hb1⟩
 have HB1 := hide hb1
 have hba := (Below.refl w1.heap.size w1).alloc (Nat.le_refl _) (Obj.cells #[.int .i64 7] 3)
 have HRU := hide ((unhide HRUN) (w1.alloc (Obj.cells #[.int .i64 7] 3)) g1 w1.heap.size (Pg.RP.later hp1 hba (Nat.le_refl _)) (by simp) (by go_simp))
 have HBA := hide ((unhide HB1).trans (hba.mono (unhide HB1).size))
 clear hp1 hb1 hba
 go_wp2_with fail
 generalize w1.alloc (Obj.cells #[.int .i64 7] 3) = V1 at *
 refine (unhide HRU).mono ?_
 rintro r w2 ⟨a2, c2, rfl, hr2, hb2⟩
 have HB2 := hide ((unhide HBA).trans (hb2.mono (unhide HBA).size))
 have HT2 := hide hr2
 clear hb2 hr2 HRU HBA HB1
 go_wp2_with fail
 refine ((unhide HEV) _).mono ?_
 rintro r w3 ⟨rfl, hb3⟩
 have HB3 := hide ((unhide HB2).trans (hb3.mono (unhide HB2).size))
 have HT3 := hide ((unhide HT2).later hb3 (Nat.le_refl _))
 clear hb3 HB2 HT2
 go_wp2_with fail
 refine ((unhide HSM) _).mono ?_
 rintro r w4 ⟨g4, rfl, hp4, hb4⟩
 have HB4 := hide ((unhide HB3).trans (hb4.mono (unhide HB3).size))
 have HT4 := hide ((unhide HT3).later hb4 (Nat.le_refl _))
 have HP4 := hide hp4
 clear hb4 hp4 HB3 HT3
 go_wp2_with fail
 refine ((unhide HST) _).mono ?_
 rintro r w5 ⟨g5, rfl, _, hs5, hb5⟩
 have HB5 := hide ((unhide HB4).trans (hb5.mono (unhide HB4).size))
 have HT5 := hide ((unhide HT4).later hb5 (Nat.le_refl _))
 have HR5 := hide ((unhide HR3) w5 g4 g5 (Pg.RP.later (unhide HP4) hb5 (Nat.le_refl _)) hs5)
 clear hb5 hs5 HB4 HT4 HP4
 go_wp2_with fail
 refine (unhide HR5).mono ?_
 rintro r w6 ⟨rfl, hb6⟩
 have HB6 := hide ((unhide HB5).trans (hb6.mono (unhide HB5).size))
 have HT6 := hide ((unhide HT5).later hb6 (Nat.le_refl _))
 clear hb6 HB5 HT5 HR5
 go_wp2_with fail
 refine ((unhide HSM) _).mono ?_
 rintro r w7 ⟨g7, rfl, hp7, hb7⟩
 have HB7 := hide ((unhide HB6).trans (hb7.mono (unhide HB6).size))
 have HT7 := hide ((unhide HT6).later hb7 (Nat.le_refl _))
 have HP7 := hide hp7
 clear hb7 hp7 HB6 HT6
 go_wp2_with fail
 refine ((unhide HST) _).mono ?_
 rintro r w8 ⟨g8, rfl, _, hs8, hb8⟩
 have HB8 := hide ((unhide HB7).trans (hb8.mono (unhide HB7).size))
 have HT8 := hide ((unhide HT7).later hb8 (Nat.le_refl _))
 have HR8 := hide ((unhide HR1) w8 g7 g8 (Pg.RP.later (unhide HP7) hb8 (Nat.le_refl _)) hs8)
 clear hb8 hs8 HB7 HT7 HP7
 go_wp2_with fail
 refine (unhide HR8).mono ?_
 rintro r w9 ⟨rfl, hb9⟩
 have HB9 := hide ((unhide HB8).trans (hb9.mono (unhide HB8).size))
 have HT9 := hide ((unhide HT8).later hb9 (Nat.le_refl _))
 clear hb9 HB8 HT8 HR8
 go_wp2_with fail
 refine ((unhide HST) _).mono ?_
 rintro r wa ⟨ga, rfl, _, hsa, hba⟩
 have HBa := hide ((unhide HB9).trans (hba.mono (unhide HB9).size))
 have HSa := hide ((unhide HSE) wa a2 (some ⟨ga, 0, none⟩) c2 6 ((unhide HT9).later hba (Nat.le_refl _)) hsa)
 clear hba hsa HB9 HT9
 go_wp2_with fail
 refine (unhide HSa).mono ?_
 rintro r wb ⟨rfl, hbb⟩
 have HBb := hide ((unhide HBa).trans (hbb.mono (unhide HBa).size))
 clear hbb HBa HSa
 go_wp2_with fail
 go_ret
 exact ⟨rfl, unhide HBb⟩
end Go.Proofs.Ytcalcikclcmkaaa
