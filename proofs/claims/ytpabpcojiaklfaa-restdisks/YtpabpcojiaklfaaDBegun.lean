/-
  diskBegun of the laws. By the verifier.
-/
import Derived.Test.YtpabpcojiaklfaaDSector
import Derived.Deep.DeepCutAuto
namespace Go.Proofs.Ytpabpcojiaklfaa
open Go.RowKit
set_option linter.unusedVariables false

/-- The boxes of diskBegun within its last region. -/
abbrev Dk.S6 (wS : World) (b1 b3 b7 b9 gy : Nat) (D0 D1 X0 X1 Y0 Y1 Z0 Z1 : Value) (W : World) : Prop :=
  W.cell? ⟨b1, 0, none⟩ = some D0 ∧ W.cell? ⟨b1, 1, none⟩ = some D1 ∧ W.cell? ⟨b3, 0, none⟩ = some X0 ∧ W.cell? ⟨b3, 1, none⟩ = some X1 ∧ W.cell? ⟨b7, 0, none⟩ = some Y0 ∧ W.cell? ⟨b7, 1, none⟩ = some Y1 ∧ W.cell? ⟨b9, 0, none⟩ = some Z0 ∧ W.cell? ⟨b9, 1, none⟩ = some Z1 ∧ W.cell? ⟨gy, 1, none⟩ = some (.string Dk.sec) ∧ Below wS.heap.size wS W
section
variable {wS : World} {b1 b3 b7 b9 gy : Nat} {D0 D1 X0 X1 Y0 Y1 Z0 Z1 : Value} {W W' : World}
theorem Dk.S6.bel (h : Dk.S6 wS b1 b3 b7 b9 gy D0 D1 X0 X1 Y0 Y1 Z0 Z1 W) : Below wS.heap.size wS W := h.2.2.2.2.2.2.2.2.2
theorem Dk.S6.drew (h : Dk.S6 wS b1 b3 b7 b9 gy D0 D1 X0 X1 Y0 Y1 Z0 Z1 W) : Dk.S6 wS b1 b3 b7 b9 gy D0 D1 X0 X1 Y0 Y1 Z0 Z1 W.drew := by
  obtain ⟨h1, h2, h3, h4, h5, h6, h7, h8, h9, h10⟩ := h
  exact ⟨h1, h2, h3, h4, h5, h6, h7, h8, h9, h10.drew⟩
theorem Dk.S6.below (h : Dk.S6 wS b1 b3 b7 b9 gy D0 D1 X0 X1 Y0 Y1 Z0 Z1 W) (hb : Below W.heap.size W W') : Dk.S6 wS b1 b3 b7 b9 gy D0 D1 X0 X1 Y0 Y1 Z0 Z1 W' := by
  obtain ⟨h1, h2, h3, h4, h5, h6, h7, h8, h9, h10⟩ := h
  have k : ∀ {a : Addr} {v : Value}, W.cell? a = some v → W'.cell? a = some v := fun h => by rw [hb.cell (World.block_lt_of_cell? W _ h)]; exact h
  exact ⟨k h1, k h2, k h3, k h4, k h5, k h6, k h7, k h8, k h9, h10.trans (hb.mono h10.size)⟩
end

theorem Dk.small_wr : Dk.wrE [Dk.zeros 32, Dk.zeros 32] [] 1 Dk.sec = 0 := by decide +kernel
theorem Dk.small_chk : Dk.chk [Dk.zeros 32, Dk.zeros 32] [(1, Dk.sec)] = 0 := by decide +kernel
theorem Dk.small_rd : Dk.rd [Dk.zeros 32, Dk.zeros 32] [(1, Dk.sec)] 1 = (Dk.sec, 0) := by decide +kernel
theorem Dk.small_fl : Dk.keptTo (fun _ => true) [Dk.zeros 32, Dk.zeros 32] [(1, Dk.sec)] 1 = [Dk.zeros 32, Dk.sec] := rfl
theorem Dk.small_cr : Dk.keptTo (fun i => (([false] : List Bool)[i]?).getD false) [Dk.zeros 32, Dk.zeros 32] [(1, Dk.sec)] 1 = [Dk.zeros 32, Dk.zeros 32] := rfl
theorem Dk.sec_size : Dk.sec.size = 32 := by decide +kernel

set_option maxRecDepth 100000 in
set_option maxHeartbeats 1600000 in
theorem diskBegun_any (w : World) :
    Calls Try.prog 9 #[] w fun e w' => e = .returned (.bool true) ∧ Below w.heap.size w w' := by
  go_enter Try.func9, Try.ntmps9
  go_wp2_with fail
  refine (New_ok 2 _ (by omega) (by omega)).mono ?_
  rintro e w1 ⟨g, rfl, hrk, hb⟩
  have HRK := hide (show Dk.RK w1 (some ⟨g, 0, none⟩) [Dk.zeros 32, Dk.zeros 32] from hrk)
  have HB1 := hide hb
  have hz1 := hb.size
  have HBS := hide (show Dk.BS w1 (.slice (some ⟨g, 0, none⟩) 2 2) (.slice none 0 0) (w1.alloc (.cells #[.slice (some ⟨g, 0, none⟩) 2 2, .slice none 0 0] 29)) from ⟨by go_simp, by go_simp, (Below.refl _ _).alloc (Nat.le_refl _) _⟩)
  clear hrk hb
  go_wp2_with fail
  go_cut [3, 4] (fun xv ev wc => ∃ (b3 gk ck gw cw : Nat), xv = .pointer (some ⟨b3, 0, none⟩) ∧ ev = .int .i64 0 ∧ Dk.Bx b3 (.slice (some ⟨gk, 0, none⟩) 2 ck) (.slice (some ⟨gw, 0, none⟩) 1 cw) wc ∧ Dk.RK wc (some ⟨gk, 0, none⟩) [Dk.zeros 32, Dk.zeros 32] ∧ Dk.RW wc (some ⟨gw, 0, none⟩) [(1, Dk.sec)] ∧ Dk.BS w1 (.slice (some ⟨g, 0, none⟩) 2 2) (.slice none 0 0) wc)
  case first =>
    go_region_held3 (fun W => W.cell? ⟨w1.heap.size, 0, none⟩ = some (.slice (some ⟨g, 0, none⟩) 2 2) ∧ W.cell? ⟨w1.heap.size, 1, none⟩ = some (.slice none 0 0) ∧ Below w1.heap.size w1 W)
      (first
        | exact Dk.BS.below (by assumption) (unhide HB3)
        | exact Dk.BS.below (by assumption) (unhide HB2)
        | exact Dk.BS.alloc (by assumption) _
        | exact Dk.BS.alloc (unhide HBS3) _
        | exact Dk.BS.stored (unhide HBS3) (unhide HBL) _ _
        | exact Dk.BS.drew (unhide HBS))
      (first
        | (go_at_call 33; refine (sector_any _).mono ?_; rintro e w2 ⟨rfl, hb2⟩; have HB2 := hide hb2; have hz2b := (Dk.BS.lt (A0 := .slice (some ⟨g, 0, none⟩) 2 2) (A1 := .slice none 0 0) (w1 := w1) (Dk.BS.below (by assumption) hb2)); (first | (have hdd := (Dk.D6.made ((w1.alloc (.cells #[.slice (some ⟨g, 0, none⟩) 2 2, .slice none 0 0] 29)).drew) 29).below hb2; rw [show ((w1.alloc (.cells #[.slice (some ⟨g, 0, none⟩) 2 2, .slice none 0 0] 29)).drew).heap.size = w1.heap.size + 1 from World.size_alloc _ _] at hdd; have HD := hide hdd; have HBL := hide (show w1.heap.size < w1.heap.size + 1 by omega); clear hdd) | skip); clear hb2)
        | (go_at_call 32; refine (Write_ok (some ⟨g, 0, none⟩) [Dk.zeros 32, Dk.zeros 32] 2 none [] 0 1 Dk.sec _ ?_ (Dk.RW.nil _ _) Dk.small_wr (by rw [Dk.sec_size]; unfold maxLen; omega)).mono ?_; exact (unhide HRK).later (Dk.BS.bel (by assumption)) (Nat.le_refl _); rintro e w3 ⟨gk, ck, gw, cw, rfl, hrk3, hrw3, hb3⟩; have HB3 := hide hb3; have HRK3 := hide hrk3; have HRW3 := hide hrw3; have HBS3 := hide (Dk.BS.below (A0 := .slice (some ⟨g, 0, none⟩) 2 2) (A1 := .slice none 0 0) (w1 := w1) (by assumption) hb3); (first | replace HD := hide (Dk.D6.below (unhide HD) hb3) | (have HD := hide ((Dk.D6.made w2 29).below hb3); have HBL := hide hz2b) | skip); (first | (have x0 := (unhide HD).c0; have x1 := (unhide HD).c1; have x2 := (unhide HD).f0; have x3 := (unhide HD).f1) | skip); clear hb3 hrk3 hrw3))
    all_goals
      go_wp2_with fail
      go_meet
      case rel => first
        | exact ⟨_, gk, ck, gw, cw, rfl, rfl, Dk.Bx.made w3 _ _ _, Dk.RK.alloc (unhide HRK3) _, Dk.RW.alloc (unhide HRW3) _, Dk.BS.alloc (unhide HBS3) _⟩
        | exact ⟨_, gk, ck, gw, cw, rfl, rfl, Dk.Bx.stored (unhide HD) _ _, Dk.RK.set2 (unhide HRK3) (Dk.ne_rk (unhide HD) (unhide HRK3)) _ _, Dk.RW.set2 (unhide HRW3) (Dk.ne_rw (l := []) (t := (1, Dk.sec)) (unhide HD) (unhide HRW3)) _ _, by assumption⟩
  case rest =>
    obtain ⟨b3, gk, ck, gw, cw, rfl, rfl, hX, hK, hW, hBS⟩ := hcut
    have HX := hide hX
    have HK := hide hK
    have HW := hide hW
    have HD := hide hBS
    have x0 := hX.c0
    have x1 := hX.c1
    clear hX hK hW hBS HBS
    go_wp2_with fail
    refine (Read_any (some ⟨gk, 0, none⟩) [Dk.zeros 32, Dk.zeros 32] ck (some ⟨gw, 0, none⟩) [(1, Dk.sec)] cw 1 _ (unhide HK) (unhide HW)).mono ?_
    rintro e w2 ⟨rfl, hb2⟩
    rw [Dk.small_rd]
    have hX := (unhide HX).below hb2
    have HX2 := hide hX
    have HK2 := hide ((unhide HK).later hb2 (Nat.le_refl _))
    have HW2 := hide ((unhide HW).later hb2 (Nat.le_refl _))
    have HD2 := hide ((unhide HD).below hb2)
    clear x0 x1
    have x0 := hX.c0
    have x1 := hX.c1
    clear hX HX HK HW HD hb2
    go_wp2_with fail
    refine (Flush_ok (some ⟨gk, 0, none⟩) [Dk.zeros 32, Dk.zeros 32] ck (some ⟨gw, 0, none⟩) [(1, Dk.sec)] cw _ (unhide HK2) (unhide HW2) Dk.small_chk).mono ?_
    rintro e w3 ⟨gy, cy, rfl, hky, hb3⟩
    have HKY := hide (show Dk.RK w3 (some ⟨gy, 0, none⟩) [Dk.zeros 32, Dk.sec] from hky)
    have hX := ((unhide HX2).below hb3).alloc (Obj.cells #[.slice (some ⟨gy, 0, none⟩) 2 cy, .slice none 0 0] 29)
    have HX3 := hide hX
    have HK3 := hide (((unhide HK2).later hb3 (Nat.le_refl _)).alloc (Obj.cells #[.slice (some ⟨gy, 0, none⟩) 2 cy, .slice none 0 0] 29))
    have HW3 := hide (((unhide HW2).later hb3 (Nat.le_refl _)).alloc (Obj.cells #[.slice (some ⟨gy, 0, none⟩) 2 cy, .slice none 0 0] 29))
    have HD3 := hide (((unhide HD2).below hb3).alloc (Obj.cells #[.slice (some ⟨gy, 0, none⟩) 2 cy, .slice none 0 0] 29))
    clear x0 x1
    have x0 := hX.c0
    have x1 := hX.c1
    clear hX HX2 HK2 HW2 HD2 hb3 hky
    go_wp2_with fail
    refine (Crash_ok (some ⟨gk, 0, none⟩) [Dk.zeros 32, Dk.zeros 32] ck (some ⟨gw, 0, none⟩) [(1, Dk.sec)] cw [false] (some ⟨w3.heap.size + 1, 0, none⟩) 1 _ ((unhide HK3).alloc _) ((unhide HW3).alloc _) ?_ Dk.small_chk).mono ?_
    · exact ⟨fun i s hi => by
        match i, hi with
        | 0, hi => cases hi; exact ⟨_, 0, rfl, by simp, by go_simp⟩
        | j + 1, hi => simp at hi⟩
    rintro e w4 ⟨gz, cz, rfl, hkz, hb4⟩
    have HKZ := hide (show Dk.RK w4 (some ⟨gz, 0, none⟩) [Dk.zeros 32, Dk.zeros 32] from hkz)
    have hX := (((unhide HX3).alloc (Obj.cells #[.bool false] 4)).below hb4).alloc (Obj.cells #[.slice (some ⟨gz, 0, none⟩) 2 cz, .slice none 0 0] 29)
    have hY := (((Dk.Bx.made w3 (.slice (some ⟨gy, 0, none⟩) 2 cy) (.slice none 0 0) 29).alloc (Obj.cells #[.bool false] 4)).below hb4).alloc (Obj.cells #[.slice (some ⟨gz, 0, none⟩) 2 cz, .slice none 0 0] 29)
    have hZ := Dk.Bx.made w4 (.slice (some ⟨gz, 0, none⟩) 2 cz) (.slice none 0 0) 29
    have hD := (((unhide HD3).alloc (Obj.cells #[.bool false] 4)).below hb4).alloc (Obj.cells #[.slice (some ⟨gz, 0, none⟩) 2 cz, .slice none 0 0] 29)
    have hR := ((((unhide HKY).alloc (Obj.cells #[.slice (some ⟨gy, 0, none⟩) 2 cy, .slice none 0 0] 29)).alloc (Obj.cells #[.bool false] 4)).later hb4 (Nat.le_refl _)).alloc (Obj.cells #[.slice (some ⟨gz, 0, none⟩) 2 cz, .slice none 0 0] 29)
    have HK4 := hide ((((unhide HK3).alloc (Obj.cells #[.bool false] 4)).later hb4 (Nat.le_refl _)).alloc (Obj.cells #[.slice (some ⟨gz, 0, none⟩) 2 cz, .slice none 0 0] 29))
    have HW4 := hide ((((unhide HW3).alloc (Obj.cells #[.bool false] 4)).later hb4 (Nat.le_refl _)).alloc (Obj.cells #[.slice (some ⟨gz, 0, none⟩) 2 cz, .slice none 0 0] 29))
    have HKZ4 := hide ((unhide HKZ).alloc (Obj.cells #[.slice (some ⟨gz, 0, none⟩) 2 cz, .slice none 0 0] 29))
    have HB4 := hide (Dk.BS.bel hD)
    have HRK4 := hide ((unhide HRK).later (Dk.BS.bel hD) (Nat.le_refl _))
    obtain ⟨bb, oo, he, _, hc, _⟩ := hR.at_ 1 Dk.sec rfl
    cases he
    rw [show (0 + 1 : Nat) = 1 from rfl] at hc
    have HS := hide (show Dk.S6 (w4.alloc (Obj.cells #[.slice (some ⟨gz, 0, none⟩) 2 cz, .slice none 0 0] 29)) w1.heap.size b3 w3.heap.size w4.heap.size gy (.slice (some ⟨g, 0, none⟩) 2 2) (.slice none 0 0) (.slice (some ⟨gk, 0, none⟩) 2 ck) (.slice (some ⟨gw, 0, none⟩) 1 cw) (.slice (some ⟨gy, 0, none⟩) 2 cy) (.slice none 0 0) (.slice (some ⟨gz, 0, none⟩) 2 cz) (.slice none 0 0) (w4.alloc (Obj.cells #[.slice (some ⟨gz, 0, none⟩) 2 cz, .slice none 0 0] 29)) from
      ⟨hD.1, hD.2.1, hX.c0, hX.c1, hY.c0, hY.c1, hZ.c0, hZ.c1, hc, Below.refl _ _⟩)
    clear hX hY hZ hD hR hc HX3 HD3 HKY HK3 HW3 HKZ hb4 hkz x0 x1 HRK
    go_wp2_with fail
    have gs : (Dk.sec.toList == Dk.sec.toList) = true := by simp
    go_region_held3 (fun W => W.cell? ⟨w1.heap.size, 0, none⟩ = some (.slice (some ⟨g, 0, none⟩) 2 2) ∧ W.cell? ⟨w1.heap.size, 1, none⟩ = some (.slice none 0 0) ∧ W.cell? ⟨b3, 0, none⟩ = some (.slice (some ⟨gk, 0, none⟩) 2 ck) ∧ W.cell? ⟨b3, 1, none⟩ = some (.slice (some ⟨gw, 0, none⟩) 1 cw) ∧ W.cell? ⟨w3.heap.size, 0, none⟩ = some (.slice (some ⟨gy, 0, none⟩) 2 cy) ∧ W.cell? ⟨w3.heap.size, 1, none⟩ = some (.slice none 0 0) ∧ W.cell? ⟨w4.heap.size, 0, none⟩ = some (.slice (some ⟨gz, 0, none⟩) 2 cz) ∧ W.cell? ⟨w4.heap.size, 1, none⟩ = some (.slice none 0 0) ∧ W.cell? ⟨gy, 1, none⟩ = some (.string Dk.sec) ∧ Below (w4.alloc (Obj.cells #[.slice (some ⟨gz, 0, none⟩) 2 cz, .slice none 0 0] 29)).heap.size (w4.alloc (Obj.cells #[.slice (some ⟨gz, 0, none⟩) 2 cz, .slice none 0 0] 29)) W)
      (first
        | exact Dk.S6.below (by assumption) (unhide HBS)
        | exact Dk.S6.drew (unhide HS))
      (first
        | (go_at_call 33; refine (sector_any _).mono ?_; rintro e w5 ⟨rfl, hb5⟩; have HBS := hide hb5; clear hb5)
        | (go_at_call 35; refine (Check_any (some ⟨gk, 0, none⟩) [Dk.zeros 32, Dk.zeros 32] ck (some ⟨gw, 0, none⟩) [(1, Dk.sec)] cw _ ?_ ?_).mono ?_; exact (unhide HK4).later (Dk.S6.bel (by assumption)) (Nat.le_refl _); exact (unhide HW4).later (Dk.S6.bel (by assumption)) (Nat.le_refl _); rw [Dk.small_chk]; rintro e w5 ⟨rfl, hb5⟩; have HBS := hide hb5; clear hb5)
        | (go_at_call 27; refine (SameDisk_eq (some ⟨gz, 0, none⟩) (some ⟨g, 0, none⟩) [Dk.zeros 32, Dk.zeros 32] cz 2 none none [] 0 0 _ ?_ ?_ (Dk.RW.nil _ _) (Dk.RW.nil _ _) (by simp) (by simp)).mono ?_; exact (unhide HKZ4).later (Dk.S6.bel (by assumption)) (Nat.le_refl _); exact (unhide HRK4).later (Dk.S6.bel (by assumption)) (Nat.le_refl _); rintro e w5 ⟨rfl, hb5⟩; have HBS := hide hb5; clear hb5))
    all_goals
      go_wp2_with fail
      go_ret
      exact ⟨rfl, ((unhide HB1).trans ((unhide HB4).mono (unhide HB1).size)).trans ((Dk.S6.bel (by assumption)).mono ((unhide HB1).trans ((unhide HB4).mono (unhide HB1).size)).size)⟩
end Go.Proofs.Ytpabpcojiaklfaa
