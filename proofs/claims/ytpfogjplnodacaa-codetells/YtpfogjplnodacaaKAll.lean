/-
  The contract of package code's haveAll at the function values that Check comes to, and of areSizes. By the verifier.
-/
import Derived.Test.YtpfogjplnodacaaKChk
import Derived.Test.YtpfogjplnodacaaPRv
import Derived.Deep.RegionHeld3
import Derived.Laws.EntriesVeiled
set_option maxRecDepth 100000
set_option maxHeartbeats 1600000
namespace Go.Proofs.Ytpfogjplnodacaa
open Go.RowKit
set_option linter.unusedVariables false
theorem kindex_any (P : Int → Bool) (bx : Nat) (s : Pg.Sl) (l : List Int) (w : World) (hr : Pg.RN w s l) (hF : ∀ (z : Int) (V : World), Below w.heap.size w V → Calls Try.prog 35 #[.int .i64 z, .pointer (some ⟨bx, 0, none⟩)] V fun r w' => r = .returned (.bool (P z)) ∧ Below V.heap.size V w') :
  Calls Try.prog 49 #[.slice s.ad s.len s.cap, .func (.func 35) #[] #[.pointer (some ⟨bx, 0, none⟩)]] w fun e w' => (∃ r : Int, e = .returned (.int .i64 r) ∧ decide (0 ≤ r) = l.any P) ∧ Below w.heap.size w w' := by
 obtain ⟨sa, sl, sc⟩ := s
 have hlen : sl = l.length := hr.len
 have hfew := hr.few
 rw [← hlen] at hfew
 have HLN := hide hlen
 have HR := hide hr
 have HF := hide hF
 clear hr hlen hF
 dsimp only
 go_enter Try.func49, Try.ntmps49
 go_wp2_with fail
 go_loopw [8] (fun v wr => ∃ k : Nat, k ≤ sl ∧ v = .int .i64 k ∧ Hid (l.any P = (l.drop k).any P) ∧ Below w.heap.size w wr) (fun v _ => sl - (intOf v).toNat)
 case atStart => exact ⟨0, by omega, rfl, by show _ = _; rw [List.drop_zero], Below.refl _ _⟩
 case round =>
  obtain ⟨k, hk, rfl, hall, hbe⟩ := hrel
  have HA := hide (unhide hall)
  have HBE := hide hbe
  clear hall
  by_cases hlt : k < sl
  · have hlt2 : k < l.length := by have := unhide HLN; omega
    have hy := List.getElem?_eq_getElem hlt2
    obtain ⟨b, o, had, hb, hc⟩ := ((unhide HR).later hbe (Nat.le_refl _)).at_ k _ hy
    have HD := hide (show (l.drop k).any P = (P l[k] || (l.drop (k + 1)).any P) by rw [List.drop_eq_getElem_cons hlt2]; rfl)
    generalize l[k] = t at *
    have had' : sa = some ⟨b, o, none⟩ := had
    subst had'
    have hk1 : (0 : Int) ≤ (k : Int) := by omega
    have hk2 : (k : Int) < (sl : Int) := by omega
    clear hy had hbe
    go_wp2_with fail
    refine ((unhide HF) t _ (unhide HBE)).mono ?_
    rintro e w1 ⟨rfl, hb1⟩
    have HB1 := hide ((unhide HBE).trans (hb1.mono (unhide HBE).size))
    clear hb1
    cases h3 : P t
    · have HN := hide (show l.any P = (l.drop (k + 1)).any P by rw [unhide HA, unhide HD, h3]; rfl)
      clear h3
      go_wp2_with fail
      exact ⟨⟨k + 1, by omega, by go_num, unhide HN, unhide HB1⟩, by simp [intOf]; omega⟩
    · have HN := hide (show l.any P = true by rw [unhide HA, unhide HD, h3]; rfl)
      clear h3
      go_wp2_with fail
      go_ret
      exact ⟨⟨_, rfl, by rw [unhide HN]; simp⟩, unhide HB1⟩
  · have HN := hide (show l.any P = false by rw [unhide HA, List.drop_of_length_le (by have := unhide HLN; omega)]; rfl)
    have hk2 : ¬ (k : Int) < (sl : Int) := by omega
    clear hbe
    go_wp2_with fail
    go_ret
    exact ⟨⟨_, rfl, by rw [unhide HN]; rfl⟩, unhide HBE⟩
theorem kindexV_any (P : List Int → Bool) (bx : Nat) (s : Pg.Sl) (l : List (List Int)) (w : World) (hr : Pg.RV w s l) (hF : ∀ (t : Pg.Sl) (z : List Int) (V : World), Below w.heap.size w V → Pg.RN V t z → Calls Try.prog 38 #[.slice t.ad t.len t.cap, .pointer (some ⟨bx, 0, none⟩)] V fun r w' => r = .returned (.bool (P z)) ∧ Below V.heap.size V w') :
  Calls Try.prog 50 #[.slice s.ad s.len s.cap, .func (.func 38) #[] #[.pointer (some ⟨bx, 0, none⟩)]] w fun e w' => (∃ r : Int, e = .returned (.int .i64 r) ∧ decide (0 ≤ r) = l.any P) ∧ Below w.heap.size w w' := by
 obtain ⟨sa, sl, sc⟩ := s
 have hlen : sl = l.length := hr.len
 have hfew := hr.few
 rw [← hlen] at hfew
 have HLN := hide hlen
 have HR := hide hr
 have HF := hide hF
 clear hr hlen hF
 dsimp only
 go_enter Try.func50, Try.ntmps50
 go_wp2_with fail
 go_loopw [8] (fun v wr => ∃ k : Nat, k ≤ sl ∧ v = .int .i64 k ∧ Hid (l.any P = (l.drop k).any P) ∧ Below w.heap.size w wr) (fun v _ => sl - (intOf v).toNat)
 case atStart => exact ⟨0, by omega, rfl, by show _ = _; rw [List.drop_zero], Below.refl _ _⟩
 case round =>
  obtain ⟨k, hk, rfl, hall, hbe⟩ := hrel
  have HA := hide (unhide hall)
  have HBE := hide hbe
  clear hall
  by_cases hlt : k < sl
  · have hlt2 : k < l.length := by have := unhide HLN; omega
    have hy := List.getElem?_eq_getElem hlt2
    obtain ⟨b, o, ts, had, hb, hc, hrn⟩ := ((unhide HR).later hbe (Nat.le_refl _)).at_ k _ hy
    have HRN := hide hrn
    clear hrn
    have HD := hide (show (l.drop k).any P = (P l[k] || (l.drop (k + 1)).any P) by rw [List.drop_eq_getElem_cons hlt2]; rfl)
    generalize l[k] = t at *
    have had' : sa = some ⟨b, o, none⟩ := had
    subst had'
    have hk1 : (0 : Int) ≤ (k : Int) := by omega
    have hk2 : (k : Int) < (sl : Int) := by omega
    clear hy had hbe
    go_wp2_with fail
    refine ((unhide HF) ts t _ (unhide HBE) (unhide HRN)).mono ?_
    rintro e w1 ⟨rfl, hb1⟩
    have HB1 := hide ((unhide HBE).trans (hb1.mono (unhide HBE).size))
    clear hb1
    cases h3 : P t
    · have HN := hide (show l.any P = (l.drop (k + 1)).any P by rw [unhide HA, unhide HD, h3]; rfl)
      clear h3
      go_wp2_with fail
      exact ⟨⟨k + 1, by omega, by go_num, unhide HN, unhide HB1⟩, by simp [intOf]; omega⟩
    · have HN := hide (show l.any P = true by rw [unhide HA, unhide HD, h3]; rfl)
      clear h3
      go_wp2_with fail
      go_ret
      exact ⟨⟨_, rfl, by rw [unhide HN]; simp⟩, unhide HB1⟩
  · have HN := hide (show l.any P = false by rw [unhide HA, List.drop_of_length_le (by have := unhide HLN; omega)]; rfl)
    have hk2 : ¬ (k : Int) < (sl : Int) := by omega
    clear hbe
    go_wp2_with fail
    go_ret
    exact ⟨⟨_, rfl, by rw [unhide HN]; rfl⟩, unhide HBE⟩
theorem kcontains_any (P : Int → Bool) (bx : Nat) (s : Pg.Sl) (l : List Int) (w : World) (hr : Pg.RN w s l) (hF : ∀ (z : Int) (V : World), Below w.heap.size w V → Calls Try.prog 35 #[.int .i64 z, .pointer (some ⟨bx, 0, none⟩)] V fun r w' => r = .returned (.bool (P z)) ∧ Below V.heap.size V w') :
  Calls Try.prog 34 #[.slice s.ad s.len s.cap, .func (.func 35) #[] #[.pointer (some ⟨bx, 0, none⟩)]] w fun e w' => e = .returned (.bool (l.any P)) ∧ Below w.heap.size w w' := by
 have HI := hide (kindex_any P bx s l w hr hF)
 clear hr hF
 generalize l.any P = D at *
 go_enter Try.func34, Try.ntmps34
 go_wp2_with fail
 refine (unhide HI).mono ?_
 rintro e w1 ⟨⟨r, rfl, hd⟩, hb1⟩
 have HB1 := hide hb1
 by_cases hr0 : 0 ≤ r
 · have HD := hide (show D = true by rw [← hd]; exact decide_eq_true hr0)
   clear hd hb1
   go_wp2_with fail
   go_ret
   exact ⟨ret_bool (unhide HD).symm, unhide HB1⟩
 · have HD := hide (show D = false by rw [← hd]; exact decide_eq_false hr0)
   have HR0 := hide (decide_eq_false hr0)
   clear hd hb1
   go_wp2_with fail
   go_ret
   exact ⟨ret_bool (by first | exact (unhide HD).symm | exact (unhide HR0).trans (unhide HD).symm), unhide HB1⟩
theorem kcontainsV_any (P : List Int → Bool) (bx : Nat) (s : Pg.Sl) (l : List (List Int)) (w : World) (hr : Pg.RV w s l) (hF : ∀ (t : Pg.Sl) (z : List Int) (V : World), Below w.heap.size w V → Pg.RN V t z → Calls Try.prog 38 #[.slice t.ad t.len t.cap, .pointer (some ⟨bx, 0, none⟩)] V fun r w' => r = .returned (.bool (P z)) ∧ Below V.heap.size V w') :
  Calls Try.prog 37 #[.slice s.ad s.len s.cap, .func (.func 38) #[] #[.pointer (some ⟨bx, 0, none⟩)]] w fun e w' => e = .returned (.bool (l.any P)) ∧ Below w.heap.size w w' := by
 have HI := hide (kindexV_any P bx s l w hr hF)
 clear hr hF
 generalize l.any P = D at *
 go_enter Try.func37, Try.ntmps37
 go_wp2_with fail
 refine (unhide HI).mono ?_
 rintro e w1 ⟨⟨r, rfl, hd⟩, hb1⟩
 have HB1 := hide hb1
 by_cases hr0 : 0 ≤ r
 · have HD := hide (show D = true by rw [← hd]; exact decide_eq_true hr0)
   clear hd hb1
   go_wp2_with fail
   go_ret
   exact ⟨ret_bool (unhide HD).symm, unhide HB1⟩
 · have HD := hide (show D = false by rw [← hd]; exact decide_eq_false hr0)
   have HR0 := hide (decide_eq_false hr0)
   clear hd hb1
   go_wp2_with fail
   go_ret
   exact ⟨ret_bool (by first | exact (unhide HD).symm | exact (unhide HR0).trans (unhide HD).symm), unhide HB1⟩
theorem areSizes1_any (z : Int) (w : World) : Calls Try.prog 39 #[.int .i64 z] w fun r w' => r = .returned (.bool (!Pg.noSize z)) ∧ w' = w := by
 have HW := hide (fun V => isWithin_any z 0 8 V)
 rw [show decide (0 ≤ z ∧ z ≤ 8) = !Pg.noSize z by unfold Pg.noSize; rw [Bool.eq_iff_iff]; simp] at HW
 generalize (!Pg.noSize z) = D at *
 go_enter Try.func39, Try.ntmps39
 go_wp2_with fail
 refine ((unhide HW) _).mono ?_
 rintro r w1 ⟨rfl, rfl⟩
 go_wp2_with fail
 go_ret
 exact ⟨rfl, rfl⟩
theorem check1_any (z : Int) (bc : Nat) (si : Pg.Sl) (w : World) (h0 : w.cell? ⟨bc, 0, none⟩ = some (.slice si.ad si.len si.cap)) (hl : si.len ≤ 35184372088832) : Calls Try.prog 18 #[.int .i64 z, .pointer (some ⟨bc, 0, none⟩)] w fun r w' => r = .returned (.bool (!Kd.noAt si.len z)) ∧ w' = w := by
 have HW := hide (fun V => isIndexI_any z si V hl)
 rw [show decide (0 ≤ z ∧ z ≤ (si.len : Int) - 1) = !Kd.noAt si.len z by unfold Kd.noAt; rw [Bool.not_not]; exact decide_eq_decide.2 (by omega)] at HW
 generalize (!Kd.noAt si.len z) = D at *
 go_enter Try.func18, Try.ntmps18
 go_wp2_with fail
 refine ((unhide HW) _).mono ?_
 rintro r w1 ⟨rfl, rfl⟩
 go_wp2_with fail
 go_ret
 exact ⟨rfl, rfl⟩
end Go.Proofs.Ytpfogjplnodacaa
