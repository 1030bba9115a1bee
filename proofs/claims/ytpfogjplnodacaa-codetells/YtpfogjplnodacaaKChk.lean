/-
  Contracts of package code's isWithin, isIndex, hasA, isInRange and checkInstr. By the verifier.
-/
import Derived.Test.YtpfogjplnodacaaKPure
import Derived.BigGuardPart
set_option maxRecDepth 100000
set_option maxHeartbeats 1600000
namespace Go.Proofs.Ytpfogjplnodacaa
open Go.RowKit
set_option linter.unusedVariables false
theorem isWithin_any (n lo hi : Int) (w : World) : Calls Try.prog 36 #[.int .i64 n, .int .i64 lo, .int .i64 hi] w fun r w' => r = .returned (.bool (decide (lo ≤ n ∧ n ≤ hi))) ∧ w' = w := by
 by_cases h1 : lo ≤ n
 · by_cases h2 : n ≤ hi
   · rw [decide_eq_true (And.intro h1 h2)]
     go_enter Try.func36, Try.ntmps36
     go_wp2_with fail
     go_ret
     exact ⟨rfl, rfl⟩
   · rw [decide_eq_false (fun h : lo ≤ n ∧ n ≤ hi => h2 h.2)]
     go_enter Try.func36, Try.ntmps36
     go_wp2_with fail
     go_ret
     exact ⟨rfl, rfl⟩
 · rw [decide_eq_false (fun h : lo ≤ n ∧ n ≤ hi => h1 h.1)]
   go_enter Try.func36, Try.ntmps36
   go_wp2_with fail
   go_ret
   exact ⟨rfl, rfl⟩
def Kd.noA (k : Int) : Bool := decide (k = 9 ∨ k = 13 ∨ k = 14)
theorem hasA_any (k : Int) (w : World) : Calls Try.prog 41 #[.int .i64 k] w fun r w' => r = .returned (.bool (!Kd.noA k)) ∧ w' = w := by
 obtain ⟨D, hD⟩ : ∃ D, D = !Kd.noA k := ⟨_, rfl⟩
 rw [← hD]
 have HD := hide hD
 clear hD
 by_cases h1 : k = 9
 · have HE := hide (show D = false by rw [unhide HD, show Kd.noA k = true from decide_eq_true (by omega)]; rfl)
   subst h1
   go_enter Try.func41, Try.ntmps41
   go_wp2_with fail
   go_ret
   exact ⟨ret_bool (unhide HE).symm, rfl⟩
 have b1 : (k != 9) = true := by simpa using h1
 by_cases h2 : k = 13
 · have HE := hide (show D = false by rw [unhide HD, show Kd.noA k = true from decide_eq_true (by omega)]; rfl)
   subst h2
   go_enter Try.func41, Try.ntmps41
   go_wp2_with fail
   go_ret
   exact ⟨ret_bool (unhide HE).symm, rfl⟩
 have b2 : (k != 13) = true := by simpa using h2
 by_cases h3 : k = 14
 · have HE := hide (show D = false by rw [unhide HD, show Kd.noA k = true from decide_eq_true (by omega)]; rfl)
   subst h3
   go_enter Try.func41, Try.ntmps41
   go_wp2_with fail
   go_ret
   exact ⟨ret_bool (unhide HE).symm, rfl⟩
 have b3 : (k != 14) = true := by simpa using h3
 have HE := hide (show D = true by rw [unhide HD, show Kd.noA k = false from decide_eq_false (by omega)]; rfl)
 clear h1 h2 h3
 go_enter Try.func41, Try.ntmps41
 go_wp2_with fail
 go_ret
 exact ⟨ret_bool (unhide HE).symm, rfl⟩
theorem isIndexI_any (n : Int) (s : Pg.Sl) (w : World) (hl : s.len ≤ 35184372088832) : Calls Try.prog 19 #[.int .i64 n, .slice s.ad s.len s.cap] w fun r w' => r = .returned (.bool (decide (0 ≤ n ∧ n ≤ (s.len : Int) - 1))) ∧ w' = w := by
 obtain ⟨sa, sl, sc⟩ := s
 dsimp only at *
 have hw : IntKind.i64.wrap ((sl : Int) - 1) = (sl : Int) - 1 := by rw [IntKind.wrap_i64]; omega
 have HW := hide (fun V => isWithin_any n 0 ((sl : Int) - 1) V)
 generalize decide (0 ≤ n ∧ n ≤ (sl : Int) - 1) = D at *
 go_enter Try.func19, Try.ntmps19
 go_wp2_with fail
 refine ((unhide HW) _).mono ?_
 rintro r w1 ⟨rfl, rfl⟩
 go_wp2_with fail
 go_ret
 exact ⟨rfl, rfl⟩
theorem isIndexN_any (n : Int) (s : Pg.Sl) (w : World) (hl : s.len ≤ 35184372088832) : Calls Try.prog 51 #[.int .i64 n, .slice s.ad s.len s.cap] w fun r w' => r = .returned (.bool (decide (0 ≤ n ∧ n ≤ (s.len : Int) - 1))) ∧ w' = w := by
 obtain ⟨sa, sl, sc⟩ := s
 dsimp only at *
 have hw : IntKind.i64.wrap ((sl : Int) - 1) = (sl : Int) - 1 := by rw [IntKind.wrap_i64]; omega
 have HW := hide (fun V => isWithin_any n 0 ((sl : Int) - 1) V)
 generalize decide (0 ≤ n ∧ n ≤ (sl : Int) - 1) = D at *
 go_enter Try.func51, Try.ntmps51
 go_wp2_with fail
 refine ((unhide HW) _).mono ?_
 rintro r w1 ⟨rfl, rfl⟩
 go_wp2_with fail
 go_ret
 exact ⟨rfl, rfl⟩
abbrev Kd.B6 (si sf sz : Pg.Sl) (x : Kd.I) (w W : World) : Prop := W.cell? ⟨w.heap.size, 0, none⟩ = some (.slice si.ad si.len si.cap) ∧ W.cell? ⟨w.heap.size, 1, none⟩ = some (.slice sf.ad sf.len sf.cap) ∧ W.cell? ⟨w.heap.size, 2, none⟩ = some (.slice sz.ad sz.len sz.cap) ∧ W.cell? ⟨w.heap.size + 1, 0, none⟩ = some (.int .i64 x.k) ∧ W.cell? ⟨w.heap.size + 1, 1, none⟩ = some (.int .i64 x.a) ∧ W.cell? ⟨w.heap.size + 1, 2, none⟩ = some (.int .i64 x.b) ∧ Below w.heap.size w W
theorem Kd.B6.new (si sf sz : Pg.Sl) (x : Kd.I) (w : World) : Kd.B6 si sf sz x w ((w.alloc (Obj.cells #[.slice si.ad si.len si.cap, .slice sf.ad sf.len sf.cap, .slice sz.ad sz.len sz.cap] 26)).alloc (Obj.cells #[.int .i64 x.k, .int .i64 x.a, .int .i64 x.b] 55)) := by
 refine ⟨by go_simp, by go_simp, by go_simp, by go_simp, by go_simp, by go_simp, ((Below.refl w.heap.size w).alloc (Nat.le_refl _) _).alloc (by simp) _⟩
theorem isInRange_any (si sf sz : Pg.Sl) (x : Kd.I) (w : World) (h1 : si.len ≤ 35184372088832) (h2 : sf.len ≤ 35184372088832) :
  Calls Try.prog 40 #[.agg #[.slice si.ad si.len si.cap, .slice sf.ad sf.len sf.cap, .slice sz.ad sz.len sz.cap], .agg #[.int .i64 x.k, .int .i64 x.a, .int .i64 x.b]] w fun r w' => r = .returned (.bool (Kd.inR si.len sf.len x)) ∧ Below w.heap.size w w' := by
 obtain ⟨D, hD⟩ : ∃ D, D = Kd.inR si.len sf.len x := ⟨_, rfl⟩
 rw [← hD]
 have HD := hide hD
 obtain ⟨q0, q1, q2, r0, r1, r2, hbw⟩ := Kd.B6.new si sf sz x w
 have HBW := hide hbw
 clear hD hbw
 obtain ⟨k, a, b⟩ := x
 dsimp only at *
 by_cases k2 : k = 2
 · have HE := hide (show D = decide (-2147483648 ≤ a ∧ a ≤ 2147483647) by
    rw [unhide HD]; unfold Kd.inR; rw [if_pos k2]
    show (!decide (a < -2147483648 ∨ a > 2147483647)) = _
    rw [Bool.eq_iff_iff]; simp)
   subst k2
   go_enter Try.func40, Try.ntmps40
   go_wp2_with fail
   refine (isWithin_any _ _ _ _).mono ?_
   rintro r w1 ⟨rfl, rfl⟩
   rw [← unhide HE]
   go_wp2_with fail
   go_ret
   exact ⟨rfl, unhide HBW⟩
 have b2 : (k == 2) = false := by simpa using k2
 by_cases kA : k = 10 ∨ k = 11
 · have HE := hide (show D = decide (0 ≤ a ∧ a ≤ (si.len : Int) - 1) by
    rw [unhide HD]; unfold Kd.inR; rw [if_neg k2, if_pos kA]
    exact decide_eq_decide.2 (show (0 ≤ a ∧ a < (si.len : Int)) ↔ (0 ≤ a ∧ a ≤ (si.len : Int) - 1) by omega))
   have HI := hide (fun V => isIndexI_any a si V h1)
   clear k2
   rcases kA with rfl | rfl
   · go_enter Try.func40, Try.ntmps40
     go_wp2_with fail
     refine ((unhide HI) _).mono ?_
     rintro r w1 ⟨rfl, rfl⟩
     rw [← unhide HE]
     go_wp2_with fail
     go_ret
     exact ⟨rfl, unhide HBW⟩
   · go_enter Try.func40, Try.ntmps40
     go_wp2_with fail
     refine ((unhide HI) _).mono ?_
     rintro r w1 ⟨rfl, rfl⟩
     rw [← unhide HE]
     go_wp2_with fail
     go_ret
     exact ⟨rfl, unhide HBW⟩
 have bA : (k == 10) = false := by simp; omega
 have bB : (k == 11) = false := by simp; omega
 by_cases k5 : k = 5
 · have HE := hide (show D = decide (4 ≤ a ∧ a ≤ 10) by rw [unhide HD]; unfold Kd.inR; rw [if_neg k2, if_neg kA, if_pos k5])
   subst k5
   clear k2 kA
   go_enter Try.func40, Try.ntmps40
   go_wp2_with fail
   refine (isWithin_any _ _ _ _).mono ?_
   rintro r w1 ⟨rfl, rfl⟩
   rw [← unhide HE]
   go_wp2_with fail
   go_ret
   exact ⟨rfl, unhide HBW⟩
 have b5 : (k == 5) = false := by simpa using k5
 by_cases kC : k = 12
 · have HE := hide (show D = (decide (0 ≤ a ∧ a ≤ (sf.len : Int) - 1) && decide (0 ≤ b ∧ b ≤ 3)) by
    rw [unhide HD]; unfold Kd.inR; rw [if_neg k2, if_neg kA, if_neg k5, if_pos kC]
    congr 1
    exact decide_eq_decide.2 (show (0 ≤ a ∧ a < (sf.len : Int)) ↔ (0 ≤ a ∧ a ≤ (sf.len : Int) - 1) by omega))
   have HI := hide (fun V => isIndexN_any a sf V h2)
   subst kC
   clear k2 kA k5
   generalize decide (0 ≤ a ∧ a ≤ (sf.len : Int) - 1) = D1 at *
   have HW := hide (fun V => isWithin_any b 0 3 V)
   generalize decide (0 ≤ b ∧ b ≤ 3) = D2 at *
   go_enter Try.func40, Try.ntmps40
   go_wp2_with fail
   refine ((unhide HI) _).mono ?_
   rintro r w1 ⟨rfl, rfl⟩
   cases D1
   · go_wp2_with fail
     go_ret
     exact ⟨ret_bool (by rw [unhide HE]; rfl), unhide HBW⟩
   · go_wp2_with fail
     refine ((unhide HW) _).mono ?_
     rintro r w1 ⟨rfl, rfl⟩
     go_wp2_with fail
     go_ret
     exact ⟨ret_bool (by rw [unhide HE]; rfl), unhide HBW⟩
 have bC : (k == 12) = false := by simpa using kC
 have HE := hide (show D = (Kd.noA k || decide (0 ≤ a)) by
  rw [unhide HD]; unfold Kd.inR Kd.noA; rw [if_neg k2, if_neg kA, if_neg k5, if_neg kC]
  by_cases h9 : k = 9 ∨ k = 13 ∨ k = 14
  · rw [if_pos h9, decide_eq_true h9]; rfl
  · rw [if_neg h9, decide_eq_false h9]; rfl)
 have HW := hide (fun V => hasA_any k V)
 generalize Kd.noA k = D1 at *
 clear k2 kA k5 kC
 go_enter Try.func40, Try.ntmps40
 go_wp2_with fail
 refine ((unhide HW) _).mono ?_
 rintro r w1 ⟨rfl, rfl⟩
 cases D1
 · by_cases ha : 0 ≤ a
   · have HF := hide (decide_eq_true ha)
     go_wp2_with fail
     go_ret
     exact ⟨ret_bool (by rw [unhide HE, unhide HF]; rfl), unhide HBW⟩
   · have HF := hide (decide_eq_false ha)
     go_wp2_with fail
     go_ret
     exact ⟨ret_bool (by rw [unhide HE, unhide HF]; rfl), unhide HBW⟩
 · go_wp2_with fail
   go_ret
   exact ⟨ret_bool (by rw [unhide HE]; rfl), unhide HBW⟩
theorem checkInstr_any (si sf sz : Pg.Sl) (x : Kd.I) (w : World) (h1 : si.len ≤ 35184372088832) (h2 : sf.len ≤ 35184372088832) :
  Calls Try.prog 22 #[.agg #[.slice si.ad si.len si.cap, .slice sf.ad sf.len sf.cap, .slice sz.ad sz.len sz.cap], .agg #[.int .i64 x.k, .int .i64 x.a, .int .i64 x.b]] w fun r w' => r = .returned (.int .i64 (Kd.ck si.len sf.len x : Nat)) ∧ Below w.heap.size w w' := by
 obtain ⟨D, hD⟩ : ∃ D, D = Kd.ck si.len sf.len x := ⟨_, rfl⟩
 rw [← hD]
 have HD := hide hD
 obtain ⟨q0, q1, q2, r0, r1, r2, hbw⟩ := Kd.B6.new si sf sz x w
 have HBW := hide hbw
 have HIR := hide (fun V => isInRange_any si sf sz x V h1 h2)
 have hlt : w.heap.size + 1 < ((w.alloc (Obj.cells #[.slice si.ad si.len si.cap, .slice sf.ad sf.len sf.cap, .slice sz.ad sz.len sz.cap] 26)).alloc (Obj.cells #[.int .i64 x.k, .int .i64 x.a, .int .i64 x.b] 55)).heap.size := by simp
 clear hD hbw
 have HW := hide (fun V => isWithin_any x.k 1 14 V)
 by_cases hk : 1 ≤ x.k ∧ x.k ≤ 14
 case neg =>
  have HE := hide (show D = 7 by rw [unhide HD]; unfold Kd.ck; rw [if_neg hk])
  rw [decide_eq_false hk] at HW
  clear hk
  go_enter Try.func22, Try.ntmps22
  go_wp2_with fail
  refine ((unhide HW) _).mono ?_
  rintro r w1 ⟨rfl, rfl⟩
  go_wp2_with fail
  go_ret
  exact ⟨ret_int (by rw [unhide HE]; rfl), unhide HBW⟩
 case pos =>
  have HE := hide (show D = if Kd.inR si.len sf.len x then (if Kd.bare x then 0 else 1) else 3 by rw [unhide HD]; unfold Kd.ck; rw [if_pos hk])
  rw [decide_eq_true hk] at HW
  clear hk
  generalize Kd.inR si.len sf.len x = R at *
  go_enter Try.func22, Try.ntmps22
  go_wp2_with fail
  refine ((unhide HW) _).mono ?_
  rintro r w1 ⟨rfl, rfl⟩
  go_wp2_with fail
  generalize ((w.alloc (Obj.cells #[.slice si.ad si.len si.cap, .slice sf.ad sf.len sf.cap, .slice sz.ad sz.len sz.cap] 26)).alloc (Obj.cells #[.int .i64 x.k, .int .i64 x.a, .int .i64 x.b] 55)) = W1 at *
  refine ((unhide HIR) _).mono ?_
  rintro r w2 ⟨rfl, hb2⟩
  have r0' := (hb2.cell (p := ⟨w.heap.size + 1, 0, none⟩) hlt).trans r0
  have r1' := (hb2.cell (p := ⟨w.heap.size + 1, 1, none⟩) hlt).trans r1
  have r2' := (hb2.cell (p := ⟨w.heap.size + 1, 2, none⟩) hlt).trans r2
  have HB2 := hide ((unhide HBW).trans (hb2.mono (unhide HBW).size))
  clear hb2 r0 r1 r2 q0 q1 q2
  obtain ⟨k, a, b⟩ := x
  dsimp only at *
  cases R
  · go_wp2_with fail
    go_ret
    exact ⟨ret_int (by rw [unhide HE]; rfl), unhide HB2⟩
  · have HF := hide (show D = if Kd.bare ⟨k, a, b⟩ then 0 else 1 from unhide HE)
    have HHA := hide (fun V => hasA_any k V)
    have hbr : Kd.bare ⟨k, a, b⟩ = ((decide (a = 0) || !Kd.noA k) && (decide (b = 0) || decide (k = 12))) := rfl
    rw [hbr] at HF
    generalize Kd.noA k = N at *
    clear hbr
    by_cases ha : a = 0
    · subst ha
      by_cases hb : b = 0
      · have HG := hide (show D = 0 by rw [unhide HF, hb]; rfl)
        subst hb
        go_wp2_with fail
        go_ret
        exact ⟨ret_int (by rw [unhide HG]; rfl), unhide HB2⟩
      · have bb : (b != 0) = true := by simpa using hb
        by_cases h12 : k = 12
        · have HG := hide (show D = 0 by rw [unhide HF, h12, decide_eq_false hb]; rfl)
          subst h12
          clear hb
          go_wp2_with fail
          go_ret
          exact ⟨ret_int (by rw [unhide HG]; rfl), unhide HB2⟩
        · have b12 : (k != 12) = true := by simpa using h12
          have HG := hide (show D = 1 by rw [unhide HF, decide_eq_false hb, decide_eq_false h12]; rfl)
          clear hb h12
          go_wp2_with fail
          go_ret
          exact ⟨ret_int (by rw [unhide HG]; rfl), unhide HB2⟩
    · have ba : (a != 0) = true := by simpa using ha
      have HA0 := hide (decide_eq_false ha)
      clear ha
      go_wp2_with fail
      refine ((unhide HHA) _).mono ?_
      rintro r w3 ⟨rfl, rfl⟩
      cases N
      · by_cases hb : b = 0
        · have HG := hide (show D = 0 by rw [unhide HF, unhide HA0, hb]; rfl)
          subst hb
          go_wp2_with fail
          go_ret
          exact ⟨ret_int (by rw [unhide HG]; rfl), unhide HB2⟩
        · have bb : (b != 0) = true := by simpa using hb
          by_cases h12 : k = 12
          · have HG := hide (show D = 0 by rw [unhide HF, unhide HA0, h12, decide_eq_false hb]; rfl)
            subst h12
            clear hb
            go_wp2_with fail
            go_ret
            exact ⟨ret_int (by rw [unhide HG]; rfl), unhide HB2⟩
          · have b12 : (k != 12) = true := by simpa using h12
            have HG := hide (show D = 1 by rw [unhide HF, unhide HA0, decide_eq_false hb, decide_eq_false h12]; rfl)
            clear hb h12
            go_wp2_with fail
            go_ret
            exact ⟨ret_int (by rw [unhide HG]; rfl), unhide HB2⟩
      · have HG := hide (show D = 1 by rw [unhide HF, unhide HA0]; rfl)
        go_wp2_with fail
        go_ret
        exact ⟨ret_int (by rw [unhide HG]; rfl), unhide HB2⟩
end Go.Proofs.Ytpfogjplnodacaa
