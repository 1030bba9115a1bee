/-
  logBegun of the laws. By the verifier.
-/
import Derived.Test.YtpabpcojiaklfaaLSmS
namespace Go.Proofs.Ytpabpcojiaklfaa
open Go.RowKit
set_option linter.unusedVariables false

theorem Lg.ne_f2 {b g : Nat} {W : World} {F : List ByteArray} (hF : ∃ t r, F = t :: r) (h : Dk.D6 b W) (r : Dk.RK W (some ⟨g, 0, none⟩) F) : ∀ g' o', some (⟨g, 0, none⟩ : Addr) = some ⟨g', o', none⟩ → b ≠ g' := by
  obtain ⟨t, l, rfl⟩ := hF
  exact Dk.ne_rk h r

set_option maxRecDepth 100000 in
set_option maxHeartbeats 1600000 in
theorem logBegun_any (w : World) :
    Calls Try.prog 8 #[] w fun e w' => e = .returned (.bool true) ∧ Below w.heap.size w w' := by
  obtain ⟨F, hF⟩ : ∃ F, Lg.fmt 20 = F := ⟨_, rfl⟩
  obtain ⟨F2, hF2⟩ : ∃ F2, Lg.ks2 F 1 (Lg.laid Cl.small) (Lg.hd 1) = F2 := ⟨_, rfl⟩
  have hFl : F.length = 20 := by rw [← hF]; exact Lg.fmt_len 20 (by omega)
  have hF2l : F2.length = 20 := by rw [← hF2]; exact ((Dk.keptTo_length _ _ _ _).trans (Dk.keptTo_length _ _ _ _)).trans hFl
  have HFM := hide (show ∀ W : World, Calls Try.prog 10 #[.int .i64 20] W fun e w' => ∃ g c, e = .returned (.tuple #[.agg #[.slice (some ⟨g, 0, none⟩) 20 c, .slice none 0 0], .int .i64 0]) ∧ Dk.RK w' (some ⟨g, 0, none⟩) F ∧ Below W.heap.size W w' ∧ 20 ≤ c from fun W => by
    rw [← hF]
    exact (Format_ok 20 W (by omega) (by omega)).mono fun e w' ⟨g, c, h1, h2, h3, _, h5⟩ => ⟨g, c, h1, h2, h3, h5⟩)
  have HAP := hide (show ∀ (g c gs cs : Nat) (W : World), Dk.RK W (some ⟨g, 0, none⟩) F → 20 ≤ c → Cl.RE W (some ⟨gs, 0, none⟩) Cl.small → Calls Try.prog 13 #[.agg #[.slice (some ⟨g, 0, none⟩) 20 c, .slice none 0 0], .slice (some ⟨gs, 0, none⟩) 6 cs] W fun e w' => ∃ gx cx gv cv, e = .returned (.tuple #[.agg #[.slice (some ⟨gx, 0, none⟩) 20 cx, .slice none 0 0], .slice (some ⟨gv, 0, none⟩) 10 cv, .int .i64 0]) ∧ Dk.RK w' (some ⟨gx, 0, none⟩) F2 ∧ 20 ≤ cx ∧ Below W.heap.size W w' from fun g c gs cs W k1 k2 k3 => by
    have h := Append_any (some ⟨g, 0, none⟩) F c none [] 0 Cl.small (some ⟨gs, 0, none⟩) cs W k1 (Dk.RW.nil _ _) (by omega) k3
    rw [hFl] at h
    refine h.mono fun e w' ⟨h1, h2⟩ => ?_
    rw [← hF, Lg.small_app] at h1
    obtain ⟨g0, c0, gv, cv, _, _, _, e1, e2, e3, _⟩ := h1
    rw [hF] at e1 e2 e3
    rw [hFl] at e1 e3
    rw [← hF2]
    refine ⟨g0, c0, gv, cv, e1, ?_, e3, h2⟩
    rw [show F.length - (List.replicate 19 (Dk.zeros 32)).length = 1 by rw [hFl]; simp] at e2
    exact e2)
  have HOX := hide (show ∀ (g c : Nat) (W : World), Dk.RK W (some ⟨g, 0, none⟩) F2 → 20 ≤ c → Calls Try.prog 16 #[.agg #[.slice (some ⟨g, 0, none⟩) 20 c, .slice none 0 0]] W fun e w' => ∃ a k, e = .returned (.tuple #[.slice a 1 k, .int .i64 0]) ∧ Lg.RL w' a [Cl.small] ∧ Below W.heap.size W w' from fun g c W k1 k2 => by
    have h := Open_any (some ⟨g, 0, none⟩) F2 c none [] 0 W k1 (Dk.RW.nil _ _) (by omega)
    rw [hF2l] at h
    refine h.mono fun e w' ⟨h1, h2⟩ => ?_
    rw [← hF2, ← hF, Lg.small_open] at h1
    obtain ⟨v, e1, ⟨a, k, rfl⟩, e3⟩ := h1
    exact ⟨a, k, e1, e3.rl, h2⟩)
  have HOD := hide (show ∀ (g c : Nat) (W : World), Dk.RK W (some ⟨g, 0, none⟩) F → 20 ≤ c → Calls Try.prog 16 #[.agg #[.slice (some ⟨g, 0, none⟩) 20 c, .slice none 0 0]] W fun e w' => ∃ a k, e = .returned (.tuple #[.slice a 0 k, .int .i64 0]) ∧ Below W.heap.size W w' from fun g c W k1 k2 => by
    have h := Open_any (some ⟨g, 0, none⟩) F c none [] 0 W k1 (Dk.RW.nil _ _) (by omega)
    rw [hFl] at h
    refine h.mono fun e w' ⟨h1, h2⟩ => ?_
    rw [← hF, Lg.small_open0] at h1
    obtain ⟨v, e1, ⟨a, k, rfl⟩, e3⟩ := h1
    exact ⟨a, k, e1, h2⟩)
  have HF2C := hide (show ∃ t r, F2 = t :: r from by
    cases F2 with
    | nil => simp at hF2l
    | cons t r => exact ⟨t, r, rfl⟩)
  clear hF hF2 hFl hF2l
  go_enter Try.func8, Try.ntmps8
  go_wp2_with fail
  refine ((unhide HFM) _).mono ?_
  rintro e w1 ⟨g, c, rfl, hrk, hb, hc⟩
  have HRK := hide hrk
  have HB1 := hide hb
  have hz1 := hb.size
  have HBS := hide (show Dk.BS w1 (.slice (some ⟨g, 0, none⟩) 20 c) (.slice none 0 0) (w1.alloc (.cells #[.slice (some ⟨g, 0, none⟩) 20 c, .slice none 0 0] 29)) from ⟨by go_simp, by go_simp, (Below.refl _ _).alloc (Nat.le_refl _) _⟩)
  clear hrk hb
  go_wp2_with fail
  go_cut [3, 4, 5] (fun xv yv ev wc => ∃ (b3 gx cx gv cv : Nat), xv = .pointer (some ⟨b3, 0, none⟩) ∧ yv = .slice (some ⟨gv, 0, none⟩) 10 cv ∧ ev = .int .i64 0 ∧ Dk.Bx b3 (.slice (some ⟨gx, 0, none⟩) 20 cx) (.slice none 0 0) wc ∧ Dk.RK wc (some ⟨gx, 0, none⟩) F2 ∧ 20 ≤ cx ∧ Dk.BS w1 (.slice (some ⟨g, 0, none⟩) 20 c) (.slice none 0 0) wc)
  case first =>
    go_region_held3 (fun W => W.cell? ⟨w1.heap.size, 0, none⟩ = some (.slice (some ⟨g, 0, none⟩) 20 c) ∧ W.cell? ⟨w1.heap.size, 1, none⟩ = some (.slice none 0 0) ∧ Below w1.heap.size w1 W)
      (first
        | exact Dk.BS.below (by assumption) (unhide HB3)
        | exact Dk.BS.below (by assumption) (unhide HB2)
        | exact Dk.BS.alloc (by assumption) _
        | exact Dk.BS.alloc (unhide HBS3) _
        | exact Dk.BS.stored (unhide HBS3) (unhide HBL) _ _
        | exact Dk.BS.drew (unhide HBS))
      (first
        | (go_at_call 30; refine (smallTrace_any _).mono ?_; rintro e w2 ⟨gs, cs, rfl, hre, hb2⟩; have HRE := hide hre; have HB2 := hide hb2; have hz2b := (Dk.BS.lt (A0 := .slice (some ⟨g, 0, none⟩) 20 c) (A1 := .slice none 0 0) (w1 := w1) (Dk.BS.below (by assumption) hb2)); (first | (have hdd := (Dk.D6.made ((w1.alloc (.cells #[.slice (some ⟨g, 0, none⟩) 20 c, .slice none 0 0] 29)).drew) 29).below hb2; rw [show ((w1.alloc (.cells #[.slice (some ⟨g, 0, none⟩) 20 c, .slice none 0 0] 29)).drew).heap.size = w1.heap.size + 1 from World.size_alloc _ _] at hdd; have HD := hide hdd; have HBL := hide (show w1.heap.size < w1.heap.size + 1 by omega); clear hdd) | skip); clear hb2 hre)
        | (go_at_call 13; refine ((unhide HAP) g c gs cs _ ?_ hc ?_).mono ?_; exact (unhide HRK).later (Dk.BS.bel (by assumption)) (Nat.le_refl _); (first | exact unhide HRE | exact (unhide HRE).later ((Below.refl _ _).alloc (Nat.le_refl _) _) (Nat.le_refl _)); rintro e w3 ⟨gx, cx, gv, cv, rfl, hrk3, hcx, hb3⟩; have HB3 := hide hb3; have HRK3 := hide hrk3; have HBS3 := hide (Dk.BS.below (A0 := .slice (some ⟨g, 0, none⟩) 20 c) (A1 := .slice none 0 0) (w1 := w1) (by assumption) hb3); (first | replace HD := hide (Dk.D6.below (unhide HD) hb3) | (have HD := hide ((Dk.D6.made w2 29).below hb3); have HBL := hide hz2b) | skip); (first | (have x0 := (unhide HD).c0; have x1 := (unhide HD).c1; have x2 := (unhide HD).f0; have x3 := (unhide HD).f1) | skip); clear hb3 hrk3))
    all_goals
      go_wp2_with fail
      go_meet
      case rel => first
        | exact ⟨_, gx, cx, gv, cv, rfl, rfl, rfl, Dk.Bx.made w3 _ _ _, Dk.RK.alloc (unhide HRK3) _, hcx, Dk.BS.alloc (unhide HBS3) _⟩
        | exact ⟨_, gx, cx, gv, cv, rfl, rfl, rfl, Dk.Bx.stored (unhide HD) _ _, Dk.RK.set2 (unhide HRK3) (Lg.ne_f2 (unhide HF2C) (unhide HD) (unhide HRK3)) _ _, hcx, by assumption⟩
  case rest =>
    obtain ⟨b3, gx, cx, gv, cv, rfl, rfl, rfl, hX, hK, hcx, hBS⟩ := hcut
    have x0 := hX.c0
    have x1 := hX.c1
    have HX := hide hX
    have HK := hide hK
    have HD := hide hBS
    clear hX hK hBS HBS
    go_wp2_with fail
    refine ((unhide HOX) gx cx _ (unhide HK) hcx).mono ?_
    rintro e w4 ⟨a4, k4, rfl, hrl4, hb4⟩
    have y := (unhide HD).below hb4
    have HD4 := hide y
    have y0 := y.1
    have y1 := y.2.1
    have HRL := hide hrl4
    clear hb4 hrl4 y x0 x1
    go_wp2_with fail
    refine ((unhide HOD) g c _ ?_ hc).mono ?_
    · exact (unhide HRK).later (unhide HD4).2.2 (Nat.le_refl _)
    rintro e w5 ⟨a5, k5, rfl, hb5⟩
    have HRL5 := hide ((unhide HRL).later hb5 (Nat.le_refl _))
    have hd5 := (unhide HD4).below hb5
    have HB5 := hide ((unhide HB1).trans (hd5.2.2.mono hz1))
    clear hb5 hd5 y0 y1
    go_wp2_with fail
    refine (smallTrace_any _).mono ?_
    rintro e w6 ⟨g6, c6, rfl, hre6, hb6⟩
    have HRL6 := hide ((unhide HRL5).later hb6 (Nat.le_refl _))
    have HRE6 := hide hre6
    have hz5 := (unhide HB5).size
    have HB6 := hide ((unhide HB5).trans (hb6.mono hz5))
    have hz6 := hb6.size
    clear hre6 hb6
    go_wp2_with fail
    have hba : Below w6.heap.size w6 (w6.alloc (Obj.cells #[.slice (some ⟨g6, 0, none⟩) 6 c6] 34)) := (Below.refl _ _).alloc (Nat.le_refl _) _
    refine (SameBatches_eq [Cl.small] a4 (some ⟨w6.heap.size, 0, none⟩) k4 1 _ ((unhide HRL6).later hba (Nat.le_refl _)) ⟨fun i l hi => ?_⟩ (by simp) (fun l hl => by simp at hl; subst hl; decide)).mono ?_
    · match i, hi with
      | 0, hi =>
        cases hi
        exact ⟨w6.heap.size, 0, some ⟨g6, 0, none⟩, c6, rfl, by simp, by go_simp; rfl, (unhide HRE6).later hba (Nat.le_refl _)⟩
      | j + 1, hi => simp at hi
    rintro e w7 ⟨rfl, hb7⟩
    have HB7 := hide ((unhide HB6).trans ((below_two hb7).mono (by omega)))
    clear hb7 hba
    go_wp2_with fail
    go_ret
    exact ⟨rfl, unhide HB7⟩
end Go.Proofs.Ytpabpcojiaklfaa
