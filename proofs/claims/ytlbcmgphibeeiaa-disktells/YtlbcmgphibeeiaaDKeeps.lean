/-
  DiskKeeps: the walk of the law. By the verifier.
-/
import Derived.Test.YtlbcmgphibeeiaaDGen
namespace Go.Proofs.Ytlbcmgphibeeiaa
open Go.RowKit
set_option linter.unusedVariables false

theorem Dk.wrE_ok {ks : List ByteArray} {ws : List (Int × ByteArray)} {n : Int} {s : ByteArray} (hok : Dk.wrE ks ws n s = 0) : Dk.chk ks ws = 0 ∧ Dk.chkW ks.length (n, s) = 0 ∧ ws.length ≠ 600 := by
  unfold Dk.wrE at hok
  split at hok
  · rename_i h1
    split at hok
    · rename_i h2
      split at hok
      · cases hok
      · rename_i h3; exact ⟨h1, h2, h3⟩
    · rename_i h2; exact absurd hok h2
  · rename_i h1; exact absurd hok h1

theorem Dk.flL_nil (p : Nat → Bool) (L : List ByteArray) (h : Dk.chk L [] = 0) : Dk.flL p L [] = L := by
  unfold Dk.flL; rw [if_pos h]; rfl

/-- diskBegun, as it is called. -/
abbrev Dk.Begun : Prop := ∀ w : World, Calls Try.prog 15 #[] w fun e w' => e = .returned (.bool true) ∧ Below w.heap.size w w'

set_option maxRecDepth 100000 in
set_option maxHeartbeats 1600000 in
theorem keeps_walk (HBG : Dk.Begun) (ka : Option Addr) (ks : List ByteArray) (kc : Nat) (wa : Option Addr) (ws : List (Int × ByteArray)) (wc : Nat) (n : Int) (s : ByteArray) (l : List Bool) (ad : Option Addr) (cap : Nat) (w : World) (hk : Dk.RK w ka ks) (hw : Dk.RW w wa ws) (hl : Dk.RB w ad l) (hsm : s.size ≤ maxLen) :
    Calls Try.prog 4 #[.agg #[.slice ka ks.length kc, .slice wa ws.length wc], .int .i64 n, .string s, .slice ad l.length cap] w fun e w' => e = .returned (.bool true) ∧ Below w.heap.size w w' := by
  have hb0 := (Below.refl w.heap.size w).alloc (Nat.le_refl _) (Obj.cells #[.slice ka ks.length kc, .slice wa ws.length wc] 25)
  have HK := hide (hk.later hb0 (Nat.le_refl _))
  have HW := hide (hw.later hb0 (Nat.le_refl _))
  have HL := hide hl
  have HSM := hide hsm
  have HBN := hide HBG
  clear hk hw hl hsm HBG
  by_cases hok : Dk.wrE ks ws n s = 0
  · obtain ⟨hc1, hc2, hc3⟩ := Dk.wrE_ok hok
    have hM : Dk.wrW ks ws n s = ws ++ [(n, s)] := by unfold Dk.wrW; rw [if_pos hok]
    have hN : Dk.wrK ks ws n s = ks := by unfold Dk.wrK; rw [if_pos hok]
    have WG := hide (Write_gen ka ks kc wa ws wc n s _ (unhide HK) (unhide HW) (unhide HSM))
    rw [hM, hN, hok] at WG
    have hMc := Dk.chk_write hc1 hc2 hc3
    have hMr := Dk.rd_write hc1 hc2 hc3
    have hLc := Dk.chk_kept (fun _ => true) (ws ++ [(n, s)]).length hMc
    have hLr := Dk.rd_kept hc1 hc2 hc3
    have hL : Dk.flL (fun _ => true) ks (ws ++ [(n, s)]) = Dk.keptTo (fun _ => true) ks (ws ++ [(n, s)]) (ws ++ [(n, s)]).length := by unfold Dk.flL; rw [if_pos hMc]
    have hLl : (Dk.keptTo (fun _ => true) ks (ws ++ [(n, s)]) (ws ++ [(n, s)]).length).length ≤ 600 := by rw [Dk.keptTo_length]; exact (Dk.chk_ok hc1).2.1
    generalize ws ++ [(n, s)] = M at *
    generalize Dk.keptTo (fun _ => true) ks M M.length = L at *
    have HMC := hide hMc
    have HMR := hide hMr
    have HLC := hide hLc
    have HLR := hide hLr
    have HLE := hide hL
    have HLL := hide hLl
    have HCR := hide (Dk.flL_nil (fun i => (l[i]?).getD false) L hLc)
    clear hM hN hMc hMr hLc hLr hL hLl hc1 hc2 hc3 hok
    have g2 : (s.toList == s.toList) = true := by simp
    go_enter Try.func4, Try.ntmps4
    go_wp2_with fail
    refine (unhide WG).mono ?_
    rintro e w1 ⟨a1, c1, b1, d1, rfl, hk1, hw1, hb1, _⟩
    have HB1 := hide (hb0.trans (hb1.mono (by simp)))
    have hz1 := (unhide HB1).size
    have HK1 := hide hk1
    have HW1 := hide hw1
    clear hk1 hw1 hb1 hb0 WG HK HW
    go_wp2_with fail
    refine (unhide HBN _).mono ?_
    rintro e w2 ⟨rfl, hb2⟩
    have hX := (Dk.Bx.made w1 (.slice a1 ks.length c1) (.slice b1 M.length d1) 25).below hb2
    have HX := hide hX
    have HB2 := hide (below_two hb2)
    have hz2 := (unhide HB2).size
    have x0 := hX.c0
    have x1 := hX.c1
    have HK2 := hide ((unhide HK1).later (unhide HB2) (Nat.le_refl _))
    have HW2 := hide ((unhide HW1).later (unhide HB2) (Nat.le_refl _))
    clear hX hb2 HK1 HW1
    go_wp2_with fail
    refine (Read_any a1 ks c1 b1 M d1 n _ (unhide HK2) (unhide HW2)).mono ?_
    rintro e w3 ⟨rfl, hb3⟩
    rw [unhide HMR]
    have HB3 := hide hb3
    have hz3 := hb3.size
    have HK3 := hide ((unhide HK2).later hb3 (Nat.le_refl _))
    have HW3 := hide ((unhide HW2).later hb3 (Nat.le_refl _))
    have hX := (unhide HX).below hb3
    replace HX := hide hX
    clear x0 x1
    have x0 := hX.c0
    have x1 := hX.c1
    clear hX hb3 HK2 HW2
    go_wp2_with fail
    refine (Flush_gen a1 ks c1 b1 M d1 _ (unhide HK3) (unhide HW3)).mono ?_
    rw [unhide HLE, unhide HMC]
    rintro e w4 ⟨a4, c4, b4, d4, rfl, hk4, hw4, hb4, _⟩
    have HB4 := hide hb4
    have hz4 := hb4.size
    have HK4 := hide hk4
    have HL4 := hide ((unhide HL).later ((((unhide HB1).trans ((unhide HB2).mono (by omega))).trans ((unhide HB3).mono (by omega))).trans (hb4.mono (by omega))) (Nat.le_refl _))
    clear hk4 hw4 hb4 x0 x1 HK3 HW3
    go_wp2_with fail
    have hbX4 := (Below.refl w4.heap.size w4).alloc (Nat.le_refl _) (Obj.cells #[.slice a4 L.length c4, .slice b4 ([] : List (Int × ByteArray)).length d4] 25)
    refine (Crash_gen a4 L c4 b4 [] d4 l ad cap _ ((unhide HK4).later hbX4 (Nat.le_refl _)) (Dk.RW.nil _ _) ((unhide HL4).later hbX4 (Nat.le_refl _))).mono ?_
    rw [unhide HCR, unhide HLC]
    rintro e w5 ⟨a5, c5, b5, d5, rfl, hk5, hw5, hb5, _⟩
    have hY := (Dk.Bx.made w4 (.slice a4 L.length c4) (.slice b4 ([] : List (Int × ByteArray)).length d4) 25).below hb5
    have HY := hide hY
    have HB5 := hide (below_two hb5)
    have hz5 := (unhide HB5).size
    have HK45 := hide ((unhide HK4).later (unhide HB5) (Nat.le_refl _))
    have HK5 := hide hk5
    clear hY hk5 hw5 hb5 HK4 HL4 hbX4
    go_wp2_with fail
    have hbX5 := (Below.refl w5.heap.size w5).alloc (Nat.le_refl _) (Obj.cells #[.slice a5 L.length c5, .slice b5 ([] : List (Int × ByteArray)).length d5] 25)
    refine (Read_any a5 L c5 b5 [] d5 n _ ((unhide HK5).later hbX5 (Nat.le_refl _)) (Dk.RW.nil _ _)).mono ?_
    rw [unhide HLR]
    rintro e w6 ⟨rfl, hb6⟩
    have hZ := (Dk.Bx.made w5 (.slice a5 L.length c5) (.slice b5 ([] : List (Int × ByteArray)).length d5) 25).below hb6
    have HB6 := hide (below_two hb6)
    have hz6 := (unhide HB6).size
    have hY6 := (unhide HY).below (unhide HB6)
    have x0 := hY6.c0
    have x1 := hY6.c1
    have y0 := hZ.c0
    have y1 := hZ.c1
    have HK46 := hide ((unhide HK45).later (unhide HB6) (Nat.le_refl _))
    have HK56 := hide ((unhide HK5).later (unhide HB6) (Nat.le_refl _))
    clear hY6 hZ hb6 hbX5 HK45 HK5
    go_wp2_with fail
    refine (SameDisk_eq a4 a5 L c4 c5 b4 b5 [] d4 d5 _ (unhide HK46) (unhide HK56) (Dk.RW.nil _ _) (Dk.RW.nil _ _) (unhide HLL) (by simp)).mono ?_
    rintro e w7 ⟨rfl, hb7⟩
    have HB7 := hide hb7
    clear hb7 x0 x1 y0 y1
    go_wp2_with fail
    go_ret
    exact ⟨rfl, ((((((unhide HB1).trans ((unhide HB2).mono (by omega))).trans ((unhide HB3).mono (by omega))).trans ((unhide HB4).mono (by omega))).trans ((unhide HB5).mono (by omega))).trans ((unhide HB6).mono (by omega))).trans ((unhide HB7).mono (by omega))⟩
  · have g0 := Dk.ne0 hok
    have HOK := hide hok
    clear hok
    go_enter Try.func4, Try.ntmps4
    go_wp2_with fail
    refine (Write_err ka ks kc wa ws wc n s _ (unhide HK) (unhide HW) (unhide HOK) (unhide HSM)).mono ?_
    rintro e w1 ⟨rfl, hb1⟩
    have HB1 := hide (hb0.trans (hb1.mono (by simp)))
    have hz1 := (unhide HB1).size
    clear hb1 hb0 HK HW
    go_wp2_with fail
    refine (unhide HBN _).mono ?_
    rintro e w2 ⟨rfl, hb2⟩
    have hX := (Dk.Bx.made w1 (.slice none 0 0) (.slice none 0 0) 25).below hb2
    have HB2 := hide (below_two hb2)
    have x0 := hX.c0
    have x1 := hX.c1
    clear hX hb2
    go_wp2_with fail
    go_ret
    exact ⟨rfl, (unhide HB1).trans ((unhide HB2).mono (by omega))⟩
end Go.Proofs.Ytlbcmgphibeeiaa
