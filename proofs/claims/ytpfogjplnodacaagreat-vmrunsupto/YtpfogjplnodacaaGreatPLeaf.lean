/-
  Contracts of package scope's small functions: refuseIf, argsOf, isThere, countParts, and the checker's small methods. By the verifier.
-/
import Derived.Test.YtpfogjplnodacaaGreatPBase
set_option maxRecDepth 100000
set_option maxHeartbeats 1600000
namespace Go.Proofs.YtpfogjplnodacaaGreat
open Go.RowKit
set_option linter.unusedVariables false
def Pg.gave (why : Nat) : List PanicEntry := [{ v := .iface 114 (.agg #[.int .i64 0, .int .i64 (why : Nat)]), recovered := false }]
def Pg.ends (why : Nat) (v : Value) : Ending := if why = 0 then .returned v else .panicked (Pg.gave why)
theorem Pg.ends_ok {why : Nat} {v : Value} (h : why = 0) : Pg.ends why v = .returned v := by unfold Pg.ends; rw [if_pos h]
theorem Pg.ends_no {why : Nat} {v : Value} (h : why ≠ 0) : Pg.ends why v = .panicked (Pg.gave why) := by unfold Pg.ends; rw [if_neg h]
theorem giveUp_no (a y : Int) (w : World) : Calls Tryz.prog 112 #[.bool false, .int .i64 a, .int .i64 y] w fun r w' => r = .returned (.tuple #[]) ∧ w' = w := by
 go_enter Tryz.func112, Tryz.ntmps112
 go_wp2_with fail
 go_end0
 exact ⟨rfl, rfl⟩
theorem giveUp_yes (y : Nat) (w : World) : Calls Tryz.prog 112 #[.bool true, .int .i64 0, .int .i64 (y : Nat)] w fun r w' => r = .panicked (Pg.gave y) ∧ w' = w := by
 go_enter Tryz.func112, Tryz.ntmps112
 go_wp2_with fail
 exact ⟨rfl, rfl, rfl⟩
theorem refuse_no (y : Int) (w : World) : Calls Tryz.prog 99 #[.bool false, .int .i64 y] w fun r w' => r = .returned (.tuple #[]) ∧ w' = w := by
 go_enter Tryz.func99, Tryz.ntmps99
 go_wp2_with fail
 refine (giveUp_no 0 y _).mono ?_
 rintro r w1 ⟨rfl, rfl⟩
 go_wp2_with fail
 go_end0
 exact ⟨rfl, rfl⟩
theorem refuse_yes (y : Nat) (w : World) : Calls Tryz.prog 99 #[.bool true, .int .i64 (y : Nat)] w fun r w' => r = .panicked (Pg.gave y) ∧ w' = w := by
 go_enter Tryz.func99, Tryz.ntmps99
 go_wp2_with fail
 refine (giveUp_yes y _).mono ?_
 rintro r w1 ⟨rfl, rfl⟩
 go_wp2_with fail
 exact ⟨rfl, rfl, rfl⟩
theorem argsOf_any (k : Int) (w : World) : Calls Tryz.prog 136 #[.int .i64 k] w fun r w' => r = .returned (.int .i64 (Pg.argsN k : Nat)) ∧ w' = w := by
 go_enter Tryz.func136, Tryz.ntmps136
 by_cases h1 : k = 1
 · subst h1
   go_wp2_with fail
   go_ret
   exact ⟨rfl, rfl⟩
 · by_cases h2 : k = 2
   · subst h2
     go_wp2_with fail
     go_ret
     exact ⟨rfl, rfl⟩
   · by_cases h3 : k = 3
     · subst h3
       go_wp2_with fail
       go_ret
       exact ⟨rfl, rfl⟩
     · have g1 : (k == 1) = false := by simpa using h1
       have g2 : (k == 2) = false := by simpa using h2
       have g3 : (k == 3) = false := by simpa using h3
       have HA := hide (show Pg.argsN k = 2 by unfold Pg.argsN; rw [if_neg (by omega), if_neg h3])
       clear h1 h2 h3
       go_wp2_with fail
       go_ret
       exact ⟨ret_int (by rw [unhide HA]; rfl), rfl⟩
theorem isThere_any (n : Nat) (e : Pg.E) (x : Pg.XT n) (w : World) (h : Pg.RX w n e x) :
  Calls Tryz.prog 117 #[e.val] w fun r w' => r = .returned (.bool (Pg.isX n x)) ∧ Below w.heap.size w w' := by
 cases n with
 | zero => exact absurd h id
 | succ n =>
  obtain ⟨⟨h1, h2⟩, h3⟩ := h
  have hlen := h3.len
  have hfew := h3.few
  have HX := hide (show Pg.isX (n + 1) x = decide (e.k ≠ 0 ∨ e.n ≠ 0 ∨ 0 < e.args.len) by rw [h1, h2, hlen]; rfl)
  rw [← hlen] at hfew
  clear h1 h2 h3 hlen
  generalize Pg.isX (n + 1) x = X at *
  have HB := hide ((Below.refl w.heap.size w).alloc (Nat.le_refl _) (Obj.cells #[.int .i64 e.k, .int .i64 e.n, .slice e.args.ad e.args.len e.args.cap] 69))
  unfold Pg.E.val
  go_enter Tryz.func117, Tryz.ntmps117
  by_cases g1 : e.k = 0
  · have b1 : (e.k != 0) = false := by simp [g1]
    by_cases g2 : e.n = 0
    · have b2 : (e.n != 0) = false := by simp [g2]
      have HX2 := hide (show X = decide (0 < e.args.len) by rw [unhide HX]; simp [g1, g2])
      clear g1 g2
      go_wp2_with fail
      go_ret
      exact ⟨ret_bool (by rw [unhide HX2]), unhide HB⟩
    · have b2 : (e.n != 0) = true := by simpa using g2
      have HX2 := hide (show X = true by rw [unhide HX]; simp [g2])
      clear g1 g2
      go_wp2_with fail
      go_ret
      exact ⟨ret_bool (by rw [unhide HX2]), unhide HB⟩
  · have b1 : (e.k != 0) = true := by simpa using g1
    have HX2 := hide (show X = true by rw [unhide HX]; simp [g1])
    clear g1
    go_wp2_with fail
    go_ret
    exact ⟨ret_bool (by rw [unhide HX2]), unhide HB⟩
theorem countParts_any : ∀ (n : Nat) (e : Pg.E) (x : Pg.XT n) (w : World) (c : Nat), Pg.RX w n e x → c ≤ 15 →
  Calls Tryz.prog 126 #[e.val, .int .i64 (c : Nat)] w fun r w' => r = Pg.ends (if 15 < c + Pg.parts n x then 2 else 0) (.int .i64 ((c + Pg.parts n x : Nat) : Int)) ∧ Below w.heap.size w w' := by
 intro n
 induction n with
 | zero => intro e x w c h; exact absurd h id
 | succ n ih =>
  intro e x w c hre hc
  obtain ⟨hkn, hs⟩ := hre
  clear hkn
  have hlen := hs.len
  have hfew := hs.few
  rw [← hlen] at hfew
  have hpar : Pg.parts (n + 1) x = 1 + (x.2.map (Pg.parts n)).sum := rfl
  rw [hpar]
  have HSA := hide (Pg.sumTo_all (Pg.parts n) x.2)
  have HSL := hide (Pg.sumTo_le (Pg.parts n) x.2)
  generalize (x.2.map (Pg.parts n)).sum = S at *
  have HS := hide hs
  have HLN := hide hlen
  have IH := hide ih
  obtain ⟨Y, hY⟩ : ∃ Y, Y = if 15 < c + (1 + S) then 2 else 0 := ⟨_, rfl⟩
  obtain ⟨T, hT⟩ : ∃ T, T = c + (1 + S) := ⟨_, rfl⟩
  rw [← hY, ← hT]
  have HY := hide hY
  have HT := hide hT
  clear hs hlen ih hpar hY hT
  have hb0 := (Below.refl w.heap.size w).alloc (Nat.le_refl _) (Obj.cells #[.int .i64 e.k, .int .i64 e.n, .slice e.args.ad e.args.len e.args.cap] 69)
  have HB0 := hide hb0
  clear hb0
  unfold Pg.E.val
  go_enter Tryz.func126, Tryz.ntmps126
  by_cases h15 : c + 1 > 15
  · have g15 : (c : Int) + 1 > 15 := by omega
    go_wp2_with fail
    refine (refuse_yes 2 _).mono ?_
    rintro r w1 ⟨rfl, rfl⟩
    go_wp2_with fail
    refine ⟨rfl, ?_, unhide HB0⟩
    rw [unhide HY, if_pos (by omega)]
    exact (Pg.ends_no (by decide)).symm
  · have g15 : ¬ (c : Int) + 1 > 15 := by omega
    go_wp2_with fail
    refine (refuse_no 2 _).mono ?_
    rintro r w1 ⟨rfl, hw1⟩
    have q2 : w1.cell? ⟨w.heap.size, 2, none⟩ = some (.slice e.args.ad e.args.len e.args.cap) := by rw [hw1]; go_simp
    have HB1 := hide (show Below w.heap.size w w1 by rw [hw1]; exact unhide HB0)
    clear hw1
    go_wp2_with fail
    go_loopw [1, 15] (fun cv iv wr => ∃ (i k : Nat), i ≤ e.args.len ∧ iv = .int .i64 i ∧ cv = .int .i64 ((k : Nat) : Int) ∧ k = c + 1 + Pg.sumTo (Pg.parts n) x.2 i ∧ k ≤ 15 ∧ Below w.heap.size w wr) (fun _ iv _ => e.args.len - (intOf iv).toNat)
    case atStart => exact ⟨0, c + 1, Nat.zero_le _, rfl, rfl, rfl, by omega, unhide HB1⟩
    case round =>
     obtain ⟨i, k, hi, rfl, rfl, hk, hk15, hbe⟩ := hrel
     have hz := hbe.size
     have HBE := hide hbe
     have HK := hide hk
     clear hbe hk
     by_cases hlt : i < e.args.len
     · have hlt2 : i < x.2.length := by have := unhide HLN; omega
       have hy := List.getElem?_eq_getElem hlt2
       obtain ⟨b, o, cc, had, hb, hlies, hrd⟩ := (unhide HS).at_ i _ hy
       have HSU := hide (Pg.sumTo_succ (Pg.parts n) x.2 i _ hy)
       have HLE := hide ((unhide HSL) (i + 1) (by omega))
       generalize x.2[i] = y at *
       have hll := hlies.later (unhide HBE) (Nat.le_refl _) hb
       obtain ⟨p0, p1, p2⟩ := hll
       have HRD := hide (hrd.later (unhide HBE) (Nat.le_refl _))
       clear hlies hrd hy
       have hi0 : (0 : Int) ≤ (i : Int) := by omega
       have hi1 : (i : Int) < (e.args.len : Int) := by omega
       rw [had]
       go_wp2_with fail
       refine ((unhide IH) cc y _ k ((unhide HRD).later ((Below.refl _ _).alloc (Nat.le_refl _) _) (Nat.le_refl _)) hk15).mono ?_
       rintro r w2 ⟨hr2, hb2⟩
       have HB2 := hide (((unhide HBE).alloc hz _).trans (hb2.mono (by simp; omega)))
       clear hb2
       by_cases hov : 15 < k + Pg.parts n y
       · rw [if_pos hov, Pg.ends_no (by decide)] at hr2
         subst hr2
         have HF := hide (show 15 < c + (1 + S) by have a := unhide HK; have b := unhide HSU; have d := unhide HLE; omega)
         clear hov
         go_wp2_with fail
         refine ⟨rfl, ?_, unhide HB2⟩
         rw [unhide HY, if_pos (unhide HF)]
         exact (Pg.ends_no (by decide)).symm
       · rw [if_neg hov, Pg.ends_ok rfl] at hr2
         subst hr2
         have HN := hide (show k + Pg.parts n y = c + 1 + Pg.sumTo (Pg.parts n) x.2 (i + 1) by have a := unhide HK; have b := unhide HSU; omega)
         generalize hkk : k + Pg.parts n y = K at *
         clear hkk
         have hK15 : K ≤ 15 := by omega
         clear hov
         go_wp2_with fail
         exact ⟨⟨i + 1, K, by omega, by go_num, rfl, unhide HN, hK15, unhide HB2⟩, by simp [intOf]; omega⟩
     · have HF := hide (show k = c + (1 + S) by
        have a := unhide HK
        have b := unhide HSA
        have e1 : i = x.2.length := by have := unhide HLN; omega
        rw [e1, b] at a
        omega)
       go_wp2_with fail
       go_ret
       refine ⟨?_, unhide HBE⟩
       have hF := unhide HF
       rw [unhide HY, if_neg (by omega), Pg.ends_ok rfl, unhide HT, hF]
       rfl
end Go.Proofs.YtpfogjplnodacaaGreat
