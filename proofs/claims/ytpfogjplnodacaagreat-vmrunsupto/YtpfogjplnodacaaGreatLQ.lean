/-
  KChk, KAll, KHall, KCheck. By the verifier.
-/
import Derived.Test.YtpfogjplnodacaaGreatLC
import Derived.BigGuardPart
import Derived.Deep.RegionHeld3
import Derived.Laws.EntriesVeiled
import Derived.Test.YtpfogjplnodacaaGreatLG
set_option maxRecDepth 100000
set_option maxHeartbeats 3200000
namespace Go.Proofs.YtpfogjplnodacaaGreat
open Go.RowKit
set_option linter.unusedVariables false
theorem isWithin_any (n lo hi : Int) (w : World) : Calls Tryz.prog 71 #[.int .i64 n, .int .i64 lo, .int .i64 hi] w fun r w' => r = .returned (.bool (decide (lo ≤ n ∧ n ≤ hi))) ∧ w' = w := by
 by_cases h1 : lo ≤ n
 · by_cases h2 : n ≤ hi
   · rw [decide_eq_true (And.intro h1 h2)]
     go_enter Tryz.func71, Tryz.ntmps71
     go_wp2_with fail
     go_ret
     exact ⟨rfl, rfl⟩
   · rw [decide_eq_false (fun h : lo ≤ n ∧ n ≤ hi => h2 h.2)]
     go_enter Tryz.func71, Tryz.ntmps71
     go_wp2_with fail
     go_ret
     exact ⟨rfl, rfl⟩
 · rw [decide_eq_false (fun h : lo ≤ n ∧ n ≤ hi => h1 h.1)]
   go_enter Tryz.func71, Tryz.ntmps71
   go_wp2_with fail
   go_ret
   exact ⟨rfl, rfl⟩
def Kd.noA (k : Int) : Bool := decide (k = 9 ∨ k = 13 ∨ k = 14)
theorem hasA_any (k : Int) (w : World) : Calls Tryz.prog 75 #[.int .i64 k] w fun r w' => r = .returned (.bool (!Kd.noA k)) ∧ w' = w := by
 obtain ⟨D, hD⟩ : ∃ D, D = !Kd.noA k := ⟨_, rfl⟩
 rw [← hD]
 have HD := hide hD
 clear hD
 by_cases h1 : k = 9
 · have HE := hide (show D = false by rw [unhide HD, show Kd.noA k = true from decide_eq_true (by omega)]; rfl)
   subst h1
   go_enter Tryz.func75, Tryz.ntmps75
   go_wp2_with fail
   go_ret
   exact ⟨ret_bool (unhide HE).symm, rfl⟩
 have b1 : (k != 9) = true := by simpa using h1
 by_cases h2 : k = 13
 · have HE := hide (show D = false by rw [unhide HD, show Kd.noA k = true from decide_eq_true (by omega)]; rfl)
   subst h2
   go_enter Tryz.func75, Tryz.ntmps75
   go_wp2_with fail
   go_ret
   exact ⟨ret_bool (unhide HE).symm, rfl⟩
 have b2 : (k != 13) = true := by simpa using h2
 by_cases h3 : k = 14
 · have HE := hide (show D = false by rw [unhide HD, show Kd.noA k = true from decide_eq_true (by omega)]; rfl)
   subst h3
   go_enter Tryz.func75, Tryz.ntmps75
   go_wp2_with fail
   go_ret
   exact ⟨ret_bool (unhide HE).symm, rfl⟩
 have b3 : (k != 14) = true := by simpa using h3
 have HE := hide (show D = true by rw [unhide HD, show Kd.noA k = false from decide_eq_false (by omega)]; rfl)
 clear h1 h2 h3
 go_enter Tryz.func75, Tryz.ntmps75
 go_wp2_with fail
 go_ret
 exact ⟨ret_bool (unhide HE).symm, rfl⟩
theorem isIndexI_any (n : Int) (s : Pg.Sl) (w : World) (hl : s.len ≤ 35184372088832) : Calls Tryz.prog 34 #[.int .i64 n, .slice s.ad s.len s.cap] w fun r w' => r = .returned (.bool (decide (0 ≤ n ∧ n ≤ (s.len : Int) - 1))) ∧ w' = w := by
 obtain ⟨sa, sl, sc⟩ := s
 dsimp only at *
 have hw : IntKind.i64.wrap ((sl : Int) - 1) = (sl : Int) - 1 := by rw [IntKind.wrap_i64]; omega
 have HW := hide (fun V => isWithin_any n 0 ((sl : Int) - 1) V)
 generalize decide (0 ≤ n ∧ n ≤ (sl : Int) - 1) = D at *
 go_enter Tryz.func34, Tryz.ntmps34
 go_wp2_with fail
 refine ((unhide HW) _).mono ?_
 rintro r w1 ⟨rfl, rfl⟩
 go_wp2_with fail
 go_ret
 exact ⟨rfl, rfl⟩
theorem isIndexN_any (n : Int) (s : Pg.Sl) (w : World) (hl : s.len ≤ 35184372088832) : Calls Tryz.prog 108 #[.int .i64 n, .slice s.ad s.len s.cap] w fun r w' => r = .returned (.bool (decide (0 ≤ n ∧ n ≤ (s.len : Int) - 1))) ∧ w' = w := by
 obtain ⟨sa, sl, sc⟩ := s
 dsimp only at *
 have hw : IntKind.i64.wrap ((sl : Int) - 1) = (sl : Int) - 1 := by rw [IntKind.wrap_i64]; omega
 have HW := hide (fun V => isWithin_any n 0 ((sl : Int) - 1) V)
 generalize decide (0 ≤ n ∧ n ≤ (sl : Int) - 1) = D at *
 go_enter Tryz.func108, Tryz.ntmps108
 go_wp2_with fail
 refine ((unhide HW) _).mono ?_
 rintro r w1 ⟨rfl, rfl⟩
 go_wp2_with fail
 go_ret
 exact ⟨rfl, rfl⟩
abbrev Kd.B6 (si sf sz : Pg.Sl) (x : Kd.I) (w W : World) : Prop := W.cell? ⟨w.heap.size, 0, none⟩ = some (.slice si.ad si.len si.cap) ∧ W.cell? ⟨w.heap.size, 1, none⟩ = some (.slice sf.ad sf.len sf.cap) ∧ W.cell? ⟨w.heap.size, 2, none⟩ = some (.slice sz.ad sz.len sz.cap) ∧ W.cell? ⟨w.heap.size + 1, 0, none⟩ = some (.int .i64 x.k) ∧ W.cell? ⟨w.heap.size + 1, 1, none⟩ = some (.int .i64 x.a) ∧ W.cell? ⟨w.heap.size + 1, 2, none⟩ = some (.int .i64 x.b) ∧ Below w.heap.size w W
theorem Kd.B6.new (si sf sz : Pg.Sl) (x : Kd.I) (w : World) : Kd.B6 si sf sz x w ((w.alloc (Obj.cells #[.slice si.ad si.len si.cap, .slice sf.ad sf.len sf.cap, .slice sz.ad sz.len sz.cap] 26)).alloc (Obj.cells #[.int .i64 x.k, .int .i64 x.a, .int .i64 x.b] 54)) := by
 refine ⟨by go_simp, by go_simp, by go_simp, by go_simp, by go_simp, by go_simp, ((Below.refl w.heap.size w).alloc (Nat.le_refl _) _).alloc (by simp) _⟩
theorem isInRange_any (si sf sz : Pg.Sl) (x : Kd.I) (w : World) (h1 : si.len ≤ 35184372088832) (h2 : sf.len ≤ 35184372088832) :
  Calls Tryz.prog 74 #[.agg #[.slice si.ad si.len si.cap, .slice sf.ad sf.len sf.cap, .slice sz.ad sz.len sz.cap], .agg #[.int .i64 x.k, .int .i64 x.a, .int .i64 x.b]] w fun r w' => r = .returned (.bool (Kd.inR si.len sf.len x)) ∧ Below w.heap.size w w' := by
 obtain ⟨D, hD⟩ : ∃ D, D = Kd.inR si.len sf.len x := ⟨_, rfl⟩
 rw [← hD]
 have HD := hide hD
 obtain ⟨q0, q1, q2, r0, r1, r2, hbw⟩ := Kd.B6.new si sf sz x w
 have HBW := hide hbw
 clear hD hbw
 obtain ⟨k, a, b⟩ := x
 dsimp only at *
 by_cases k2 : k = 2
 · have HE := hide (show D = decide (-2147483648 ≤ a ∧ a ≤ 2147483647) by
    rw [unhide HD]; unfold Kd.inR; rw [if_pos k2]
    show (!decide (a < -2147483648 ∨ a > 2147483647)) = _
    rw [Bool.eq_iff_iff]; simp)
   subst k2
   go_enter Tryz.func74, Tryz.ntmps74
   go_wp2_with fail
   refine (isWithin_any _ _ _ _).mono ?_
   rintro r w1 ⟨rfl, rfl⟩
   rw [← unhide HE]
   go_wp2_with fail
   go_ret
   exact ⟨rfl, unhide HBW⟩
 have b2 : (k == 2) = false := by simpa using k2
 by_cases kA : k = 10 ∨ k = 11
 · have HE := hide (show D = decide (0 ≤ a ∧ a ≤ (si.len : Int) - 1) by
    rw [unhide HD]; unfold Kd.inR; rw [if_neg k2, if_pos kA]
    exact decide_eq_decide.2 (show (0 ≤ a ∧ a < (si.len : Int)) ↔ (0 ≤ a ∧ a ≤ (si.len : Int) - 1) by omega))
   have HI := hide (fun V => isIndexI_any a si V h1)
   clear k2
   rcases kA with rfl | rfl
   · go_enter Tryz.func74, Tryz.ntmps74
     go_wp2_with fail
     refine ((unhide HI) _).mono ?_
     rintro r w1 ⟨rfl, rfl⟩
     rw [← unhide HE]
     go_wp2_with fail
     go_ret
     exact ⟨rfl, unhide HBW⟩
   · go_enter Tryz.func74, Tryz.ntmps74
     go_wp2_with fail
     refine ((unhide HI) _).mono ?_
     rintro r w1 ⟨rfl, rfl⟩
     rw [← unhide HE]
     go_wp2_with fail
     go_ret
     exact ⟨rfl, unhide HBW⟩
 have bA : (k == 10) = false := by simp; omega
 have bB : (k == 11) = false := by simp; omega
 by_cases k5 : k = 5
 · have HE := hide (show D = decide (4 ≤ a ∧ a ≤ 10) by rw [unhide HD]; unfold Kd.inR; rw [if_neg k2, if_neg kA, if_pos k5])
   subst k5
   clear k2 kA
   go_enter Tryz.func74, Tryz.ntmps74
   go_wp2_with fail
   refine (isWithin_any _ _ _ _).mono ?_
   rintro r w1 ⟨rfl, rfl⟩
   rw [← unhide HE]
   go_wp2_with fail
   go_ret
   exact ⟨rfl, unhide HBW⟩
 have b5 : (k == 5) = false := by simpa using k5
 by_cases kC : k = 12
 · have HE := hide (show D = (decide (0 ≤ a ∧ a ≤ (sf.len : Int) - 1) && decide (0 ≤ b ∧ b ≤ 3)) by
    rw [unhide HD]; unfold Kd.inR; rw [if_neg k2, if_neg kA, if_neg k5, if_pos kC]
    congr 1
    exact decide_eq_decide.2 (show (0 ≤ a ∧ a < (sf.len : Int)) ↔ (0 ≤ a ∧ a ≤ (sf.len : Int) - 1) by omega))
   have HI := hide (fun V => isIndexN_any a sf V h2)
   subst kC
   clear k2 kA k5
   generalize decide (0 ≤ a ∧ a ≤ (sf.len : Int) - 1) = D1 at *
   have HW := hide (fun V => isWithin_any b 0 3 V)
   generalize decide (0 ≤ b ∧ b ≤ 3) = D2 at *
   go_enter Tryz.func74, Tryz.ntmps74
   go_wp2_with fail
   refine ((unhide HI) _).mono ?_
   rintro r w1 ⟨rfl, rfl⟩
   cases D1
   · go_wp2_with fail
     go_ret
     exact ⟨ret_bool (by rw [unhide HE]; rfl), unhide HBW⟩
   · go_wp2_with fail
     refine ((unhide HW) _).mono ?_
     rintro r w1 ⟨rfl, rfl⟩
     go_wp2_with fail
     go_ret
     exact ⟨ret_bool (by rw [unhide HE]; rfl), unhide HBW⟩
 have bC : (k == 12) = false := by simpa using kC
 have HE := hide (show D = (Kd.noA k || decide (0 ≤ a)) by
  rw [unhide HD]; unfold Kd.inR Kd.noA; rw [if_neg k2, if_neg kA, if_neg k5, if_neg kC]
  by_cases h9 : k = 9 ∨ k = 13 ∨ k = 14
  · rw [if_pos h9, decide_eq_true h9]; rfl
  · rw [if_neg h9, decide_eq_false h9]; rfl)
 have HW := hide (fun V => hasA_any k V)
 generalize Kd.noA k = D1 at *
 clear k2 kA k5 kC
 go_enter Tryz.func74, Tryz.ntmps74
 go_wp2_with fail
 refine ((unhide HW) _).mono ?_
 rintro r w1 ⟨rfl, rfl⟩
 cases D1
 · by_cases ha : 0 ≤ a
   · have HF := hide (decide_eq_true ha)
     go_wp2_with fail
     go_ret
     exact ⟨ret_bool (by rw [unhide HE, unhide HF]; rfl), unhide HBW⟩
   · have HF := hide (decide_eq_false ha)
     go_wp2_with fail
     go_ret
     exact ⟨ret_bool (by rw [unhide HE, unhide HF]; rfl), unhide HBW⟩
 · go_wp2_with fail
   go_ret
   exact ⟨ret_bool (by rw [unhide HE]; rfl), unhide HBW⟩
theorem checkInstr_any (si sf sz : Pg.Sl) (x : Kd.I) (w : World) (h1 : si.len ≤ 35184372088832) (h2 : sf.len ≤ 35184372088832) :
  Calls Tryz.prog 37 #[.agg #[.slice si.ad si.len si.cap, .slice sf.ad sf.len sf.cap, .slice sz.ad sz.len sz.cap], .agg #[.int .i64 x.k, .int .i64 x.a, .int .i64 x.b]] w fun r w' => r = .returned (.int .i64 (Kd.ck si.len sf.len x : Nat)) ∧ Below w.heap.size w w' := by
 obtain ⟨D, hD⟩ : ∃ D, D = Kd.ck si.len sf.len x := ⟨_, rfl⟩
 rw [← hD]
 have HD := hide hD
 obtain ⟨q0, q1, q2, r0, r1, r2, hbw⟩ := Kd.B6.new si sf sz x w
 have HBW := hide hbw
 have HIR := hide (fun V => isInRange_any si sf sz x V h1 h2)
 have hlt : w.heap.size + 1 < ((w.alloc (Obj.cells #[.slice si.ad si.len si.cap, .slice sf.ad sf.len sf.cap, .slice sz.ad sz.len sz.cap] 26)).alloc (Obj.cells #[.int .i64 x.k, .int .i64 x.a, .int .i64 x.b] 54)).heap.size := by simp
 clear hD hbw
 have HW := hide (fun V => isWithin_any x.k 1 14 V)
 by_cases hk : 1 ≤ x.k ∧ x.k ≤ 14
 case neg =>
  have HE := hide (show D = 7 by rw [unhide HD]; unfold Kd.ck; rw [if_neg hk])
  rw [decide_eq_false hk] at HW
  clear hk
  go_enter Tryz.func37, Tryz.ntmps37
  go_wp2_with fail
  refine ((unhide HW) _).mono ?_
  rintro r w1 ⟨rfl, rfl⟩
  go_wp2_with fail
  go_ret
  exact ⟨ret_int (by rw [unhide HE]; rfl), unhide HBW⟩
 case pos =>
  have HE := hide (show D = if Kd.inR si.len sf.len x then (if Kd.bare x then 0 else 1) else 3 by rw [unhide HD]; unfold Kd.ck; rw [if_pos hk])
  rw [decide_eq_true hk] at HW
  clear hk
  generalize Kd.inR si.len sf.len x = R at *
  go_enter Tryz.func37, Tryz.ntmps37
  go_wp2_with fail
  refine ((unhide HW) _).mono ?_
  rintro r w1 ⟨rfl, rfl⟩
  go_wp2_with fail
  generalize ((w.alloc (Obj.cells #[.slice si.ad si.len si.cap, .slice sf.ad sf.len sf.cap, .slice sz.ad sz.len sz.cap] 26)).alloc (Obj.cells #[.int .i64 x.k, .int .i64 x.a, .int .i64 x.b] 54)) = W1 at *
  refine ((unhide HIR) _).mono ?_
  rintro r w2 ⟨rfl, hb2⟩
  have r0' := (hb2.cell (p := ⟨w.heap.size + 1, 0, none⟩) hlt).trans r0
  have r1' := (hb2.cell (p := ⟨w.heap.size + 1, 1, none⟩) hlt).trans r1
  have r2' := (hb2.cell (p := ⟨w.heap.size + 1, 2, none⟩) hlt).trans r2
  have HB2 := hide ((unhide HBW).trans (hb2.mono (unhide HBW).size))
  clear hb2 r0 r1 r2 q0 q1 q2
  obtain ⟨k, a, b⟩ := x
  dsimp only at *
  cases R
  · go_wp2_with fail
    go_ret
    exact ⟨ret_int (by rw [unhide HE]; rfl), unhide HB2⟩
  · have HF := hide (show D = if Kd.bare ⟨k, a, b⟩ then 0 else 1 from unhide HE)
    have HHA := hide (fun V => hasA_any k V)
    have hbr : Kd.bare ⟨k, a, b⟩ = ((decide (a = 0) || !Kd.noA k) && (decide (b = 0) || decide (k = 12))) := rfl
    rw [hbr] at HF
    generalize Kd.noA k = N at *
    clear hbr
    by_cases ha : a = 0
    · subst ha
      by_cases hb : b = 0
      · have HG := hide (show D = 0 by rw [unhide HF, hb]; rfl)
        subst hb
        go_wp2_with fail
        go_ret
        exact ⟨ret_int (by rw [unhide HG]; rfl), unhide HB2⟩
      · have bb : (b != 0) = true := by simpa using hb
        by_cases h12 : k = 12
        · have HG := hide (show D = 0 by rw [unhide HF, h12, decide_eq_false hb]; rfl)
          subst h12
          clear hb
          go_wp2_with fail
          go_ret
          exact ⟨ret_int (by rw [unhide HG]; rfl), unhide HB2⟩
        · have b12 : (k != 12) = true := by simpa using h12
          have HG := hide (show D = 1 by rw [unhide HF, decide_eq_false hb, decide_eq_false h12]; rfl)
          clear hb h12
          go_wp2_with fail
          go_ret
          exact ⟨ret_int (by rw [unhide HG]; rfl), unhide HB2⟩
    · have ba : (a != 0) = true := by simpa using ha
      have HA0 := hide (decide_eq_false ha)
      clear ha
      go_wp2_with fail
      refine ((unhide HHA) _).mono ?_
      rintro r w3 ⟨rfl, rfl⟩
      cases N
      · by_cases hb : b = 0
        · have HG := hide (show D = 0 by rw [unhide HF, unhide HA0, hb]; rfl)
          subst hb
          go_wp2_with fail
          go_ret
          exact ⟨ret_int (by rw [unhide HG]; rfl), unhide HB2⟩
        · have bb : (b != 0) = true := by simpa using hb
          by_cases h12 : k = 12
          · have HG := hide (show D = 0 by rw [unhide HF, unhide HA0, h12, decide_eq_false hb]; rfl)
            subst h12
            clear hb
            go_wp2_with fail
            go_ret
            exact ⟨ret_int (by rw [unhide HG]; rfl), unhide HB2⟩
          · have b12 : (k != 12) = true := by simpa using h12
            have HG := hide (show D = 1 by rw [unhide HF, unhide HA0, decide_eq_false hb, decide_eq_false h12]; rfl)
            clear hb h12
            go_wp2_with fail
            go_ret
            exact ⟨ret_int (by rw [unhide HG]; rfl), unhide HB2⟩
      · have HG := hide (show D = 1 by rw [unhide HF, unhide HA0]; rfl)
        go_wp2_with fail
        go_ret
        exact ⟨ret_int (by rw [unhide HG]; rfl), unhide HB2⟩
end Go.Proofs.YtpfogjplnodacaaGreat
namespace Go.Proofs.YtpfogjplnodacaaGreat
open Go.RowKit
set_option linter.unusedVariables false
theorem kindex_any (P : Int → Bool) (bx : Nat) (s : Pg.Sl) (l : List Int) (w : World) (hr : Pg.RN w s l) (hF : ∀ (z : Int) (V : World), Below w.heap.size w V → Calls Tryz.prog 70 #[.int .i64 z, .pointer (some ⟨bx, 0, none⟩)] V fun r w' => r = .returned (.bool (P z)) ∧ Below V.heap.size V w') :
  Calls Tryz.prog 66 #[.slice s.ad s.len s.cap, .func (.func 70) #[] #[.pointer (some ⟨bx, 0, none⟩)]] w fun e w' => (∃ r : Int, e = .returned (.int .i64 r) ∧ decide (0 ≤ r) = l.any P) ∧ Below w.heap.size w w' := by
 obtain ⟨sa, sl, sc⟩ := s
 have hlen : sl = l.length := hr.len
 have hfew := hr.few
 rw [← hlen] at hfew
 have HLN := hide hlen
 have HR := hide hr
 have HF := hide hF
 clear hr hlen hF
 dsimp only
 go_enter Tryz.func66, Tryz.ntmps66
 go_wp2_with fail
 go_loopw [8] (fun v wr => ∃ k : Nat, k ≤ sl ∧ v = .int .i64 k ∧ Hid (l.any P = (l.drop k).any P) ∧ Below w.heap.size w wr) (fun v _ => sl - (intOf v).toNat)
 case atStart => exact ⟨0, by omega, rfl, by show _ = _; rw [List.drop_zero], Below.refl _ _⟩
 case round =>
  obtain ⟨k, hk, rfl, hall, hbe⟩ := hrel
  have HA := hide (unhide hall)
  have HBE := hide hbe
  clear hall
  by_cases hlt : k < sl
  · have hlt2 : k < l.length := by have := unhide HLN; omega
    have hy := List.getElem?_eq_getElem hlt2
    obtain ⟨b, o, had, hb, hc⟩ := ((unhide HR).later hbe (Nat.le_refl _)).at_ k _ hy
    have HD := hide (show (l.drop k).any P = (P l[k] || (l.drop (k + 1)).any P) by rw [List.drop_eq_getElem_cons hlt2]; rfl)
    generalize l[k] = t at *
    have had' : sa = some ⟨b, o, none⟩ := had
    subst had'
    have hk1 : (0 : Int) ≤ (k : Int) := by omega
    have hk2 : (k : Int) < (sl : Int) := by omega
    clear hy had hbe
    go_wp2_with fail
    refine ((unhide HF) t _ (unhide HBE)).mono ?_
    rintro e w1 ⟨rfl, hb1⟩
    have HB1 := hide ((unhide HBE).trans (hb1.mono (unhide HBE).size))
    clear hb1
    cases h3 : P t
    · have HN := hide (show l.any P = (l.drop (k + 1)).any P by rw [unhide HA, unhide HD, h3]; rfl)
      clear h3
      go_wp2_with fail
      exact ⟨⟨k + 1, by omega, by go_num, unhide HN, unhide HB1⟩, by simp [intOf]; omega⟩
    · have HN := hide (show l.any P = true by rw [unhide HA, unhide HD, h3]; rfl)
      clear h3
      go_wp2_with fail
      go_ret
      exact ⟨⟨_, rfl, by rw [unhide HN]; simp⟩, unhide HB1⟩
  · have HN := hide (show l.any P = false by rw [unhide HA, List.drop_of_length_le (by have := unhide HLN; omega)]; rfl)
    have hk2 : ¬ (k : Int) < (sl : Int) := by omega
    clear hbe
    go_wp2_with fail
    go_ret
    exact ⟨⟨_, rfl, by rw [unhide HN]; rfl⟩, unhide HBE⟩
theorem kindexV_any (P : List Int → Bool) (bx : Nat) (s : Pg.Sl) (l : List (List Int)) (w : World) (hr : Pg.RV w s l) (hF : ∀ (t : Pg.Sl) (z : List Int) (V : World), Below w.heap.size w V → Pg.RN V t z → Calls Tryz.prog 72 #[.slice t.ad t.len t.cap, .pointer (some ⟨bx, 0, none⟩)] V fun r w' => r = .returned (.bool (P z)) ∧ Below V.heap.size V w') :
  Calls Tryz.prog 95 #[.slice s.ad s.len s.cap, .func (.func 72) #[] #[.pointer (some ⟨bx, 0, none⟩)]] w fun e w' => (∃ r : Int, e = .returned (.int .i64 r) ∧ decide (0 ≤ r) = l.any P) ∧ Below w.heap.size w w' := by
 obtain ⟨sa, sl, sc⟩ := s
 have hlen : sl = l.length := hr.len
 have hfew := hr.few
 rw [← hlen] at hfew
 have HLN := hide hlen
 have HR := hide hr
 have HF := hide hF
 clear hr hlen hF
 dsimp only
 go_enter Tryz.func95, Tryz.ntmps95
 go_wp2_with fail
 go_loopw [8] (fun v wr => ∃ k : Nat, k ≤ sl ∧ v = .int .i64 k ∧ Hid (l.any P = (l.drop k).any P) ∧ Below w.heap.size w wr) (fun v _ => sl - (intOf v).toNat)
 case atStart => exact ⟨0, by omega, rfl, by show _ = _; rw [List.drop_zero], Below.refl _ _⟩
 case round =>
  obtain ⟨k, hk, rfl, hall, hbe⟩ := hrel
  have HA := hide (unhide hall)
  have HBE := hide hbe
  clear hall
  by_cases hlt : k < sl
  · have hlt2 : k < l.length := by have := unhide HLN; omega
    have hy := List.getElem?_eq_getElem hlt2
    obtain ⟨b, o, ts, had, hb, hc, hrn⟩ := ((unhide HR).later hbe (Nat.le_refl _)).at_ k _ hy
    have HRN := hide hrn
    clear hrn
    have HD := hide (show (l.drop k).any P = (P l[k] || (l.drop (k + 1)).any P) by rw [List.drop_eq_getElem_cons hlt2]; rfl)
    generalize l[k] = t at *
    have had' : sa = some ⟨b, o, none⟩ := had
    subst had'
    have hk1 : (0 : Int) ≤ (k : Int) := by omega
    have hk2 : (k : Int) < (sl : Int) := by omega
    clear hy had hbe
    go_wp2_with fail
    refine ((unhide HF) ts t _ (unhide HBE) (unhide HRN)).mono ?_
    rintro e w1 ⟨rfl, hb1⟩
    have HB1 := hide ((unhide HBE).trans (hb1.mono (unhide HBE).size))
    clear hb1
    cases h3 : P t
    · have HN := hide (show l.any P = (l.drop (k + 1)).any P by rw [unhide HA, unhide HD, h3]; rfl)
      clear h3
      go_wp2_with fail
      exact ⟨⟨k + 1, by omega, by go_num, unhide HN, unhide HB1⟩, by simp [intOf]; omega⟩
    · have HN := hide (show l.any P = true by rw [unhide HA, unhide HD, h3]; rfl)
      clear h3
      go_wp2_with fail
      go_ret
      exact ⟨⟨_, rfl, by rw [unhide HN]; simp⟩, unhide HB1⟩
  · have HN := hide (show l.any P = false by rw [unhide HA, List.drop_of_length_le (by have := unhide HLN; omega)]; rfl)
    have hk2 : ¬ (k : Int) < (sl : Int) := by omega
    clear hbe
    go_wp2_with fail
    go_ret
    exact ⟨⟨_, rfl, by rw [unhide HN]; rfl⟩, unhide HBE⟩
theorem kcontains_any (P : Int → Bool) (bx : Nat) (s : Pg.Sl) (l : List Int) (w : World) (hr : Pg.RN w s l) (hF : ∀ (z : Int) (V : World), Below w.heap.size w V → Calls Tryz.prog 70 #[.int .i64 z, .pointer (some ⟨bx, 0, none⟩)] V fun r w' => r = .returned (.bool (P z)) ∧ Below V.heap.size V w') :
  Calls Tryz.prog 29 #[.slice s.ad s.len s.cap, .func (.func 70) #[] #[.pointer (some ⟨bx, 0, none⟩)]] w fun e w' => e = .returned (.bool (l.any P)) ∧ Below w.heap.size w w' := by
 have HI := hide (kindex_any P bx s l w hr hF)
 clear hr hF
 generalize l.any P = D at *
 go_enter Tryz.func29, Tryz.ntmps29
 go_wp2_with fail
 refine (unhide HI).mono ?_
 rintro e w1 ⟨⟨r, rfl, hd⟩, hb1⟩
 have HB1 := hide hb1
 by_cases hr0 : 0 ≤ r
 · have HD := hide (show D = true by rw [← hd]; exact decide_eq_true hr0)
   clear hd hb1
   go_wp2_with fail
   go_ret
   exact ⟨ret_bool (unhide HD).symm, unhide HB1⟩
 · have HD := hide (show D = false by rw [← hd]; exact decide_eq_false hr0)
   have HR0 := hide (decide_eq_false hr0)
   clear hd hb1
   go_wp2_with fail
   go_ret
   exact ⟨ret_bool (by first | exact (unhide HD).symm | exact (unhide HR0).trans (unhide HD).symm), unhide HB1⟩
theorem kcontainsV_any (P : List Int → Bool) (bx : Nat) (s : Pg.Sl) (l : List (List Int)) (w : World) (hr : Pg.RV w s l) (hF : ∀ (t : Pg.Sl) (z : List Int) (V : World), Below w.heap.size w V → Pg.RN V t z → Calls Tryz.prog 72 #[.slice t.ad t.len t.cap, .pointer (some ⟨bx, 0, none⟩)] V fun r w' => r = .returned (.bool (P z)) ∧ Below V.heap.size V w') :
  Calls Tryz.prog 51 #[.slice s.ad s.len s.cap, .func (.func 72) #[] #[.pointer (some ⟨bx, 0, none⟩)]] w fun e w' => e = .returned (.bool (l.any P)) ∧ Below w.heap.size w w' := by
 have HI := hide (kindexV_any P bx s l w hr hF)
 clear hr hF
 generalize l.any P = D at *
 go_enter Tryz.func51, Tryz.ntmps51
 go_wp2_with fail
 refine (unhide HI).mono ?_
 rintro e w1 ⟨⟨r, rfl, hd⟩, hb1⟩
 have HB1 := hide hb1
 by_cases hr0 : 0 ≤ r
 · have HD := hide (show D = true by rw [← hd]; exact decide_eq_true hr0)
   clear hd hb1
   go_wp2_with fail
   go_ret
   exact ⟨ret_bool (unhide HD).symm, unhide HB1⟩
 · have HD := hide (show D = false by rw [← hd]; exact decide_eq_false hr0)
   have HR0 := hide (decide_eq_false hr0)
   clear hd hb1
   go_wp2_with fail
   go_ret
   exact ⟨ret_bool (by first | exact (unhide HD).symm | exact (unhide HR0).trans (unhide HD).symm), unhide HB1⟩
theorem areSizes1_any (z : Int) (w : World) : Calls Tryz.prog 73 #[.int .i64 z] w fun r w' => r = .returned (.bool (!Pg.noSize z)) ∧ w' = w := by
 have HW := hide (fun V => isWithin_any z 0 8 V)
 rw [show decide (0 ≤ z ∧ z ≤ 8) = !Pg.noSize z by unfold Pg.noSize; rw [Bool.eq_iff_iff]; simp] at HW
 generalize (!Pg.noSize z) = D at *
 go_enter Tryz.func73, Tryz.ntmps73
 go_wp2_with fail
 refine ((unhide HW) _).mono ?_
 rintro r w1 ⟨rfl, rfl⟩
 go_wp2_with fail
 go_ret
 exact ⟨rfl, rfl⟩
theorem check1_any (z : Int) (bc : Nat) (si : Pg.Sl) (w : World) (h0 : w.cell? ⟨bc, 0, none⟩ = some (.slice si.ad si.len si.cap)) (hl : si.len ≤ 35184372088832) : Calls Tryz.prog 33 #[.int .i64 z, .pointer (some ⟨bc, 0, none⟩)] w fun r w' => r = .returned (.bool (!Kd.noAt si.len z)) ∧ w' = w := by
 have HW := hide (fun V => isIndexI_any z si V hl)
 rw [show decide (0 ≤ z ∧ z ≤ (si.len : Int) - 1) = !Kd.noAt si.len z by unfold Kd.noAt; rw [Bool.not_not]; exact decide_eq_decide.2 (by omega)] at HW
 generalize (!Kd.noAt si.len z) = D at *
 go_enter Tryz.func33, Tryz.ntmps33
 go_wp2_with fail
 refine ((unhide HW) _).mono ?_
 rintro r w1 ⟨rfl, rfl⟩
 go_wp2_with fail
 go_ret
 exact ⟨rfl, rfl⟩
end Go.Proofs.YtpfogjplnodacaaGreat
namespace Go.Proofs.YtpfogjplnodacaaGreat
open Go.RowKit
set_option linter.unusedVariables false
theorem hallA1 (z : Int) (bc : Nat) (si : Pg.Sl) (bx : Nat) (w : World) (h0 : w.cell? ⟨bc, 0, none⟩ = some (.slice si.ad si.len si.cap)) (hl : si.len ≤ 35184372088832) (hb : w.cell? ⟨bx, 0, none⟩ = some (.func (.func 33) #[] #[.pointer (some ⟨bc, 0, none⟩)])) : Calls Tryz.prog 70 #[.int .i64 z, .pointer (some ⟨bx, 0, none⟩)] w fun r w' => r = .returned (.bool (Kd.noAt si.len z)) ∧ Below w.heap.size w w' := by
 have HW := hide ((check1_any z bc si w h0 hl).mono (fun r w1 h => (⟨h.1, h.2 ▸ Below.refl _ _⟩ : r = .returned (.bool (!Kd.noAt si.len z)) ∧ Below w.heap.size w w1)))
 generalize Kd.noAt si.len z = D at *
 go_enter Tryz.func70, Tryz.ntmps70
 go_wp2_with fail
 refine (unhide HW).mono ?_
 rintro r w1 ⟨rfl, hb1⟩
 have HB := hide hb1
 clear hb1
 go_wp2_with fail
 go_ret
 exact ⟨ret_bool (by simp), unhide HB⟩
theorem hallB1 (z : Int) (bx : Nat) (w : World)  (hb : w.cell? ⟨bx, 0, none⟩ = some (.func (.func 73) #[] #[])) : Calls Tryz.prog 70 #[.int .i64 z, .pointer (some ⟨bx, 0, none⟩)] w fun r w' => r = .returned (.bool (Pg.noSize z)) ∧ Below w.heap.size w w' := by
 have HW := hide ((areSizes1_any z w).mono (fun r w1 h => (⟨h.1, h.2 ▸ Below.refl _ _⟩ : r = .returned (.bool (!Pg.noSize z)) ∧ Below w.heap.size w w1)))
 generalize Pg.noSize z = D at *
 go_enter Tryz.func70, Tryz.ntmps70
 go_wp2_with fail
 refine (unhide HW).mono ?_
 rintro r w1 ⟨rfl, hb1⟩
 have HB := hide hb1
 clear hb1
 go_wp2_with fail
 go_ret
 exact ⟨ret_bool (by simp), unhide HB⟩
theorem hallA (bc : Nat) (si : Pg.Sl) (s : Pg.Sl) (l : List Int) (w : World) (hr : Pg.RN w s l) (h0 : w.cell? ⟨bc, 0, none⟩ = some (.slice si.ad si.len si.cap)) (hl : si.len ≤ 35184372088832) : Calls Tryz.prog 32 #[.slice s.ad s.len s.cap, .func (.func 33) #[] #[.pointer (some ⟨bc, 0, none⟩)]] w fun r w' => r = .returned (.bool (!l.any (Kd.noAt si.len))) ∧ Below w.heap.size w w' := by
 have hb0 := (Below.refl w.heap.size w).alloc (Nat.le_refl _) (Obj.cells #[.func (.func 33) #[] #[.pointer (some ⟨bc, 0, none⟩)]] 55)
 have q0 : (w.alloc (Obj.cells #[.func (.func 33) #[] #[.pointer (some ⟨bc, 0, none⟩)]] 55)).cell? ⟨w.heap.size, 0, none⟩ = some (.func (.func 33) #[] #[.pointer (some ⟨bc, 0, none⟩)]) := by go_simp
 have hlt := World.block_lt_of_cell? _ _ q0
 have HC := hide (kcontains_any (Kd.noAt si.len) w.heap.size s l _ (hr.later hb0 (Nat.le_refl _)) (fun z V hV => hallA1 z bc si w.heap.size V ((hV.cell (p := ⟨bc, 0, none⟩) (Nat.lt_of_lt_of_le (World.block_lt_of_cell? _ _ h0) hb0.size)).trans ((hb0.cell (p := ⟨bc, 0, none⟩) (World.block_lt_of_cell? _ _ h0)).trans h0)) hl ((hV.cell (p := ⟨w.heap.size, 0, none⟩) hlt).trans q0)))
 have HB0 := hide hb0
 generalize l.any (Kd.noAt si.len) = D at *
 clear hr hb0
 go_enter Tryz.func32, Tryz.ntmps32
 go_wp2_with fail
 refine (unhide HC).mono ?_
 rintro r w1 ⟨rfl, hb1⟩
 have HB := hide ((unhide HB0).trans (hb1.mono (unhide HB0).size))
 clear hb1
 go_wp2_with fail
 go_ret
 exact ⟨rfl, unhide HB⟩
theorem hallB  (s : Pg.Sl) (l : List Int) (w : World) (hr : Pg.RN w s l)  : Calls Tryz.prog 32 #[.slice s.ad s.len s.cap, .func (.func 73) #[] #[]] w fun r w' => r = .returned (.bool (!l.any (Pg.noSize))) ∧ Below w.heap.size w w' := by
 have hb0 := (Below.refl w.heap.size w).alloc (Nat.le_refl _) (Obj.cells #[.func (.func 73) #[] #[]] 55)
 have q0 : (w.alloc (Obj.cells #[.func (.func 73) #[] #[]] 55)).cell? ⟨w.heap.size, 0, none⟩ = some (.func (.func 73) #[] #[]) := by go_simp
 have hlt := World.block_lt_of_cell? _ _ q0
 have HC := hide (kcontains_any (Pg.noSize) w.heap.size s l _ (hr.later hb0 (Nat.le_refl _)) (fun z V hV => hallB1 z w.heap.size V ((hV.cell (p := ⟨w.heap.size, 0, none⟩) hlt).trans q0)))
 have HB0 := hide hb0
 generalize l.any (Pg.noSize) = D at *
 clear hr hb0
 go_enter Tryz.func32, Tryz.ntmps32
 go_wp2_with fail
 refine (unhide HC).mono ?_
 rintro r w1 ⟨rfl, hb1⟩
 have HB := hide ((unhide HB0).trans (hb1.mono (unhide HB0).size))
 clear hb1
 go_wp2_with fail
 go_ret
 exact ⟨rfl, unhide HB⟩
theorem areSizes_any (s : Pg.Sl) (l : List Int) (w : World) (hr : Pg.RN w s l) : Calls Tryz.prog 36 #[.slice s.ad s.len s.cap] w fun r w' => r = .returned (.bool (!l.any Pg.noSize)) ∧ Below w.heap.size w w' := by
 have HC := hide (hallB s l w hr)
 generalize (!l.any Pg.noSize) = D at *
 clear hr
 go_enter Tryz.func36, Tryz.ntmps36
 go_wp2_with fail
 refine (unhide HC).mono ?_
 rintro r w1 ⟨rfl, hb1⟩
 have HB := hide hb1
 clear hb1
 go_wp2_with fail
 go_ret
 exact ⟨rfl, unhide HB⟩
theorem hallV1 (t : Pg.Sl) (z : List Int) (bx : Nat) (w : World) (hr : Pg.RN w t z) (hb : w.cell? ⟨bx, 0, none⟩ = some (.func (.func 36) #[] #[])) : Calls Tryz.prog 72 #[.slice t.ad t.len t.cap, .pointer (some ⟨bx, 0, none⟩)] w fun r w' => r = .returned (.bool (z.any Pg.noSize)) ∧ Below w.heap.size w w' := by
 have HW := hide (areSizes_any t z w hr)
 generalize z.any Pg.noSize = D at *
 go_enter Tryz.func72, Tryz.ntmps72
 go_wp2_with fail
 refine (unhide HW).mono ?_
 rintro r w1 ⟨rfl, hb1⟩
 have HB := hide hb1
 clear hb1
 go_wp2_with fail
 go_ret
 exact ⟨ret_bool (by simp), unhide HB⟩
theorem hallV  (s : Pg.Sl) (l : List (List Int)) (w : World) (hr : Pg.RV w s l)  : Calls Tryz.prog 35 #[.slice s.ad s.len s.cap, .func (.func 36) #[] #[]] w fun r w' => r = .returned (.bool (!l.any (fun s => s.any Pg.noSize))) ∧ Below w.heap.size w w' := by
 have hb0 := (Below.refl w.heap.size w).alloc (Nat.le_refl _) (Obj.cells #[.func (.func 36) #[] #[]] 85)
 have q0 : (w.alloc (Obj.cells #[.func (.func 36) #[] #[]] 85)).cell? ⟨w.heap.size, 0, none⟩ = some (.func (.func 36) #[] #[]) := by go_simp
 have hlt := World.block_lt_of_cell? _ _ q0
 have HC := hide (kcontainsV_any (fun s => s.any Pg.noSize) w.heap.size s l _ (hr.later hb0 (Nat.le_refl _)) (fun t z V hV hz => hallV1 t z w.heap.size V hz ((hV.cell (p := ⟨w.heap.size, 0, none⟩) hlt).trans q0)))
 have HB0 := hide hb0
 generalize l.any (fun s => s.any Pg.noSize) = D at *
 clear hr hb0
 go_enter Tryz.func35, Tryz.ntmps35
 go_wp2_with fail
 refine (unhide HC).mono ?_
 rintro r w1 ⟨rfl, hb1⟩
 have HB := hide ((unhide HB0).trans (hb1.mono (unhide HB0).size))
 clear hb1
 go_wp2_with fail
 go_ret
 exact ⟨rfl, unhide HB⟩
end Go.Proofs.YtpfogjplnodacaaGreat
namespace Go.Proofs.YtpfogjplnodacaaGreat
open Go.RowKit
set_option linter.unusedVariables false
theorem kCheck_any (si sf sz : Pg.Sl) (l : List Kd.I) (fs : List Int) (ss : List (List Int)) (w : World) (h : Kd.RCo w si sf sz l fs ss) :
  Calls Tryz.prog 16 #[.agg #[.slice si.ad si.len si.cap, .slice sf.ad sf.len sf.cap, .slice sz.ad sz.len sz.cap]] w fun r w' => r = .returned (.int .i64 (Kd.chk l fs ss : Nat)) ∧ Below w.heap.size w w' := by
 obtain ⟨D, hD⟩ : ∃ D, D = Kd.chk l fs ss := ⟨_, rfl⟩
 rw [← hD]
 obtain ⟨ia, il, ic⟩ := si
 dsimp only at *
 have hil : il = l.length := h.ins.len
 have hifew := h.ins.few
 rw [← hil] at hifew
 have hfl := h.fst.len
 have hffew := h.fst.few
 rw [← hfl] at hffew
 have hsl := h.szs.len
 have hsfew := h.szs.few
 rw [← hsl] at hsfew
 have hb0 := (Below.refl w.heap.size w).alloc (Nat.le_refl _) (Obj.cells #[.slice ia il ic, .slice sf.ad sf.len sf.cap, .slice sz.ad sz.len sz.cap] 26)
 have hx := heap_alloc_new w (Obj.cells #[.slice ia il ic, .slice sf.ad sf.len sf.cap, .slice sz.ad sz.len sz.cap] 26)
 have hlt : w.heap.size < (w.alloc (Obj.cells #[.slice ia il ic, .slice sf.ad sf.len sf.cap, .slice sz.ad sz.len sz.cap] 26)).heap.size := by simp
 have HCL := hide (show ∀ V : World, Below (w.alloc (Obj.cells #[.slice ia il ic, .slice sf.ad sf.len sf.cap, .slice sz.ad sz.len sz.cap] 26)).heap.size (w.alloc (Obj.cells #[.slice ia il ic, .slice sf.ad sf.len sf.cap, .slice sz.ad sz.len sz.cap] 26)) V → (V.cell? ⟨w.heap.size, 0, none⟩ = some (.slice ia il ic) ∧ V.cell? ⟨w.heap.size, 1, none⟩ = some (.slice sf.ad sf.len sf.cap) ∧ V.cell? ⟨w.heap.size, 2, none⟩ = some (.slice sz.ad sz.len sz.cap) ∧ Below w.heap.size w V ∧ Kd.RCo V ⟨ia, il, ic⟩ sf sz l fs ss) from fun V hV => by
  have hh := (hV.block w.heap.size hlt).trans hx
  have hbb := hb0.trans (hV.mono hb0.size)
  exact ⟨(cell_of_row V _ 0 _ _ _ hh).trans rfl, (cell_of_row V _ 1 _ _ _ hh).trans rfl, (cell_of_row V _ 2 _ _ _ hh).trans rfl, hbb, h.later hbb (Nat.le_refl _)⟩)
 have HD := hide (show D = if 3000 < il then 2 else if sz.len = 0 ∨ sf.len ≠ sz.len then 1 else if fs.any (Kd.noAt il) || ss.any (fun s => s.any Pg.noSize) then 3 else Pg.first (l.map (Kd.ck il sf.len)) by rw [hD, hil, hfl, hsl]; rfl)
 have HIL := hide hil
 clear hD h hb0 hx hil hfl hsl
 go_enter Tryz.func16, Tryz.ntmps16
 go_upto_region 1 with fail
 generalize w.alloc (Obj.cells #[.slice ia il ic, .slice sf.ad sf.len sf.cap, .slice sz.ad sz.len sz.cap] 26) = W1 at *
 obtain ⟨c0, c1, c2, hbw, hco⟩ := (unhide HCL) W1 (Below.refl _ _)
 have HBW := hide hbw
 have HCO := hide hco
 clear hbw hco
 by_cases h3 : 3000 < il
 · have HE := hide (show D = 2 by rw [unhide HD, if_pos h3])
   have g3 : (il : Int) > 3000 := by omega
   go_wp2_with fail
   go_ret
   exact ⟨ret_int (by rw [unhide HE]; rfl), unhide HBW⟩
 have g3 : ¬ (il : Int) > 3000 := by omega
 have HD2 := hide (show D = if sz.len = 0 ∨ sf.len ≠ sz.len then 1 else if fs.any (Kd.noAt il) || ss.any (fun s => s.any Pg.noSize) then 3 else Pg.first (l.map (Kd.ck il sf.len)) by rw [unhide HD, if_neg h3])
 by_cases hz : sz.len = 0 ∨ sf.len ≠ sz.len
 · have HE := hide (show D = 1 by rw [unhide HD2, if_pos hz])
   by_cases h0 : sz.len = 0
   · have b0 : ((sz.len : Int) == 0) = true := by simp; exact h0
     clear hz h0 HD HD2
     go_wp2_with fail
     go_ret
     exact ⟨ret_int (by rw [unhide HE]; rfl), unhide HBW⟩
   · have b0 : ((sz.len : Int) == 0) = false := by simp; exact h0
     have b1 : ((sf.len : Int) != (sz.len : Int)) = true := by simp; omega
     clear hz h0 HD HD2
     go_wp2_with fail
     go_ret
     exact ⟨ret_int (by rw [unhide HE]; rfl), unhide HBW⟩
 have b0 : ((sz.len : Int) == 0) = false := by simp; omega
 have b1 : ((sf.len : Int) != (sz.len : Int)) = false := by simp; omega
 have HD3 := hide (show D = if fs.any (Kd.noAt il) || ss.any (fun s => s.any Pg.noSize) then 3 else Pg.first (l.map (Kd.ck il sf.len)) by rw [unhide HD2, if_neg hz])
 have HHA := hide (hallA w.heap.size ⟨ia, il, ic⟩ sf fs W1 (unhide HCO).fst c0 hifew)
 have HHV := hide (fun V hV => hallV sz ss V ((unhide HCL) V hV).2.2.2.2.szs)
 clear hz h3 HD HD2
 generalize fs.any (Kd.noAt il) = A1 at *
 generalize ss.any (fun s => s.any Pg.noSize) = A2 at *
 go_wp2_with fail
 refine (unhide HHA).mono ?_
 rintro r w2 ⟨rfl, hb2⟩
 obtain ⟨d0, d1, d2, hbw2, hco2⟩ := (unhide HCL) w2 hb2
 have HBW2 := hide hbw2
 have HB2 := hide hb2
 clear hbw2 hco2 c0 c1 c2 hb2
 cases A1 with
 | true =>
  have HE := hide (show D = 3 by rw [unhide HD3]; rfl)
  go_wp2_with fail
  go_ret
  exact ⟨ret_int (by rw [unhide HE]; rfl), unhide HBW2⟩
 | false =>
  go_wp2_with fail
  refine ((unhide HHV) w2 (unhide HB2)).mono ?_
  rintro r w3 ⟨rfl, hb3⟩
  have hb13 := (unhide HB2).trans (hb3.mono (unhide HB2).size)
  obtain ⟨e0, e1, e2, hbw3, hco3⟩ := (unhide HCL) w3 hb13
  have HBW3 := hide hbw3
  have HB3 := hide hb13
  clear hbw3 hco3 d0 d1 d2 hb3 hb13
  cases A2 with
  | true =>
   have HE := hide (show D = 3 by rw [unhide HD3]; rfl)
   go_wp2_with fail
   go_ret
   exact ⟨ret_int (by rw [unhide HE]; rfl), unhide HBW3⟩
  | false =>
   have HE := hide (show D = Pg.first (l.map (Kd.ck il sf.len)) by rw [unhide HD3]; rfl)
   have HCI := hide (fun (x : Kd.I) (V : World) => checkInstr_any ⟨ia, il, ic⟩ sf sz x V hifew hffew)
   clear HD3
   go_wp2_with fail
   go_loopw [37] (fun iv wr => ∃ i : Nat, i ≤ il ∧ iv = .int .i64 i ∧ Hid (D = Pg.first ((l.drop i).map (Kd.ck il sf.len))) ∧ Below W1.heap.size W1 wr) (fun iv _ => il - (intOf iv).toNat)
   case atStart => exact ⟨0, Nat.zero_le _, rfl, by show _ = _; rw [List.drop_zero]; exact unhide HE, unhide HB3⟩
   case round =>
    obtain ⟨i, hi, rfl, hdd, hbe⟩ := hrel
    have HDD := hide (unhide hdd)
    obtain ⟨f0, f1, f2, hbw4, hco4⟩ := (unhide HCL) wr hbe
    have HBW4 := hide hbw4
    have HBE := hide hbe
    by_cases hlt2 : i < il
    · have hlt3 : i < l.length := by have := unhide HIL; omega
      have hy := List.getElem?_eq_getElem hlt3
      obtain ⟨b, o, had, hb, p0, p1, p2⟩ := hco4.ins.at_ i _ hy
      have HFD := hide (Pg.first_drop (Kd.ck il sf.len) l i _ hy)
      generalize l[i] = x at *
      have hal := (Below.refl wr.heap.size wr).alloc (Nat.le_refl _) (Obj.cells #[.int .i64 x.k, .int .i64 x.a, .int .i64 x.b] 54)
      have hb5 := hbe.trans (hal.mono hbe.size)
      obtain ⟨m0, m1, m2, hbw5, hco5⟩ := (unhide HCL) _ hb5
      have HB5 := hide hb5
      have HBW5 := hide hbw5
      have hi0' : (0 : Int) ≤ (i : Int) := by omega
      have hi1' : (i : Int) < (il : Int) := by omega
      have HCX := hide (show ∀ V : World, Calls Tryz.prog 37 #[.agg #[.slice ia il ic, .slice sf.ad sf.len sf.cap, .slice sz.ad sz.len sz.cap], .agg #[.int .i64 x.k, .int .i64 x.a, .int .i64 x.b]] V (fun r w' => r = .returned (.int .i64 (Kd.ck il sf.len x : Nat)) ∧ Below V.heap.size V w') from fun V => (unhide HCI) x V)
      generalize Kd.ck il sf.len x = K at *
      have had' : ia = some ⟨b, o, none⟩ := had
      clear hy hb hal hb5 hbw5 hco5 hco4 hbe hbw4 hdd hlt3 had
      subst had'
      go_wp2_with fail
      refine ((unhide HCX) _).mono ?_
      rintro r w6 ⟨rfl, hb6⟩
      have hb7 := (unhide HB5).trans (hb6.mono (unhide HB5).size)
      have HB7 := hide hb7
      have HBW7 := hide ((unhide HCL) w6 hb7).2.2.2.1
      clear hb6 hb7
      by_cases hK0 : K = 0
      · have HN := hide (show D = Pg.first ((l.drop (i + 1)).map (Kd.ck il sf.len)) by rw [unhide HDD, unhide HFD, if_pos hK0])
        subst hK0
        go_wp2_with fail
        exact ⟨⟨i + 1, by omega, by go_num, unhide HN, unhide HB7⟩, by simp [intOf]; omega⟩
      · have HN := hide (show D = K by rw [unhide HDD, unhide HFD, if_neg hK0])
        have bk : (((K : Nat) : Int) != 0) = true := by simp; exact hK0
        clear hK0
        go_wp2_with fail
        go_ret
        exact ⟨ret_int (by rw [unhide HN]), unhide HBW7⟩
    · have HN := hide (show D = 0 by rw [unhide HDD, List.drop_of_length_le (by have := unhide HIL; omega)]; rfl)
      have hi2 : ¬ (i : Int) < (il : Int) := by omega
      clear hbe hbw4 hco4 hdd
      go_wp2_with fail
      go_ret
      exact ⟨ret_int (by rw [unhide HN]; rfl), unhide HBW4⟩
end Go.Proofs.YtpfogjplnodacaaGreat
