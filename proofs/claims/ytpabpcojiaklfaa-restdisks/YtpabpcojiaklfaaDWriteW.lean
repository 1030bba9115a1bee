/-
  The walks of Write of package disk. By the verifier.
-/
import Derived.Test.YtpabpcojiaklfaaDWrite
namespace Go.Proofs.Ytpabpcojiaklfaa
open Go.RowKit
set_option linter.unusedVariables false

set_option maxHeartbeats 1600000 in
theorem Write_wr (ka : Option Addr) (ks : List ByteArray) (kc : Nat) (wa : Option Addr) (ws : List (Int × ByteArray)) (wc : Nat) (n : Int) (s : ByteArray) (w : World) (hk : Dk.RK w ka ks) (hw : Dk.RW w wa ws) (hok : Dk.wrE ks ws n s = 0) (hsm : s.size ≤ maxLen) :
    Calls Try.prog 32 #[.agg #[.slice ka ks.length kc, .slice wa ws.length wc], .int .i64 n, .string s] w fun e w' => ∃ g c1 g2 c2, e = .returned (.tuple #[.agg #[.slice (some ⟨g, 0, none⟩) ks.length c1, .slice (some ⟨g2, 0, none⟩) (ws.length + 1) c2], .int .i64 0]) ∧ Dk.RK w' (some ⟨g, 0, none⟩) ks ∧ Dk.RW w' (some ⟨g2, 0, none⟩) (ws ++ [(n, s)]) ∧ Below w.heap.size w w' ∧ w.heap.size ≤ g ∧ w.heap.size ≤ g2 ∧ ks.length ≤ c1 ∧ (∀ i, w'.frozen? ⟨g, i, none⟩ = false) ∧ (∀ i, w'.frozen? ⟨g2, i, none⟩ = false) := by
  have hok2 : Dk.chk ks ws = 0 ∧ Dk.chkW ks.length (n, s) = 0 ∧ ws.length ≠ 600 := by
    unfold Dk.wrE at hok
    split at hok
    · rename_i h1
      split at hok
      · rename_i h2
        split at hok
        · cases hok
        · rename_i h3; exact ⟨h1, h2, h3⟩
      · rename_i h2; exact absurd hok h2
    · rename_i h1; exact absurd hok h1
  obtain ⟨hc1, hc2, hc3⟩ := hok2
  obtain ⟨h1, h2, h3, h4, h5⟩ := Dk.chk_ok hc1
  have HS32 := hide (show ∀ t ∈ ks, t.size ≤ maxLen from fun t ht => by have := Dk.all32 h3 t ht; unfold maxLen; omega)
  have HW32 := hide (show ∀ y ∈ ws, y.2.size ≤ maxLen from fun y hy => by have := (Dk.chkWs_mem _ _ h5 y hy).2.2; unfold maxLen; omega)
  have h0 : 0 < ks.length := by omega
  obtain ⟨i0, hi, hz0, hz1, hz2⟩ := info_of Try.infoW
  have HI := hide hi
  have HZ0 := hide hz0
  have HZ1 := hide hz1
  have HZ2 := hide hz2
  have HK := hide hk
  have HW := hide hw
  have HC1 := hide hc1
  have HC2 := hide hc2
  have HSM := hide hsm
  have g600 : ((ws.length : Int) == 600) = false := by rw [beq_eq_false_iff_ne]; omega
  clear hk hw hok hc1 hc2 h3 h5 hi hz0 hz1 hz2 hsm
  go_enter Try.func32, Try.ntmps32
  go_wp2_with fail
  have hb0 := ((Below.refl w.heap.size w).alloc (Nat.le_refl _) (Obj.cells #[.slice ka ks.length kc, .slice wa ws.length wc] 29)).alloc (by simp only [World.size_alloc]; omega) (Obj.cells #[.slice none 0 0, .slice none 0 0] 29)
  refine (Check_any ka ks kc wa ws wc _ ((unhide HK).later hb0 (Nat.le_refl _)) ((unhide HW).later hb0 (Nat.le_refl _))).mono ?_
  rintro e w1 ⟨rfl, hb⟩
  rw [unhide HC1]
  have hz1 := hb.size
  simp at hz1
  have c0 := (hb.cell (p := ⟨w.heap.size, 0, none⟩) (show w.heap.size < _ by simp only [World.size_alloc]; omega)).trans (show _ = some (.slice ka ks.length kc) by go_simp)
  have c1 := (hb.cell (p := ⟨w.heap.size, 1, none⟩) (show w.heap.size < _ by simp only [World.size_alloc]; omega)).trans (show _ = some (.slice wa ws.length wc) by go_simp)
  have d0 := (hb.cell (p := ⟨w.heap.size + 1, 0, none⟩) (show w.heap.size + 1 < _ by simp only [World.size_alloc]; omega)).trans (show _ = some (.slice none 0 0) by go_simp)
  have d1 := (hb.cell (p := ⟨w.heap.size + 1, 1, none⟩) (show w.heap.size + 1 < _ by simp only [World.size_alloc]; omega)).trans (show _ = some (.slice none 0 0) by go_simp)
  have f0 := (hb.frozen (p := ⟨w.heap.size + 1, 0, none⟩) (show w.heap.size + 1 < _ by simp only [World.size_alloc]; omega)).trans (show _ = false by go_simp)
  have f1 := (hb.frozen (p := ⟨w.heap.size + 1, 1, none⟩) (show w.heap.size + 1 < _ by simp only [World.size_alloc]; omega)).trans (show _ = false by go_simp)
  have HB1 := hide (hb0.trans (hb.mono (by simp; omega)))
  have hl0 : w.heap.size < w1.heap.size := by omega
  clear hb hb0
  go_wp2_with fail
  refine (checkWritten_any ka ks.length kc wa ws.length wc (n, s) _ (unhide HSM)).mono ?_
  rintro e w2 ⟨rfl, hb2⟩
  rw [unhide HC2]
  have hz2 := hb2.size
  simp at hz2
  have hb3 := below_two hb2
  have q0 := (hb2.cell (p := ⟨w1.heap.size, 0, none⟩) (by simp)).trans (show _ = some (.int .i64 n) by go_simp)
  have q1 := (hb2.cell (p := ⟨w1.heap.size, 1, none⟩) (by simp)).trans (show _ = some (.string s) by go_simp)
  have HWS := hide (show Dk.WS w w2 w.heap.size w1.heap.size (.slice ka ks.length kc) (.slice wa ws.length wc) n s w2 from
    ⟨(hb3.cell (p := ⟨w.heap.size, 0, none⟩) (show w.heap.size < _ by omega)).trans c0, (hb3.cell (p := ⟨w.heap.size, 1, none⟩) (show w.heap.size < _ by omega)).trans c1, q0, q1, (unhide HB1).trans (hb3.mono (by omega)), Nat.le_refl _⟩)
  have hd6 := Dk.D6.below (b6 := w.heap.size + 1) ⟨d0, d1, f0, f1⟩ hb3
  have HD6 := hide (show Dk.D6 (w.heap.size + 1) w2.drew from ⟨hd6.c0, hd6.c1, hd6.f0, hd6.f1⟩)
  clear hd6
  have e0 := (unhide HWS).1
  have e1 := (unhide HWS).2.1
  clear hb2 hb3 c0 c1 d0 d1 f0 f1 q0 q1
  go_wp2_with fail
  have hx3 : w.heap.size < w2.heap.size := by omega
  have hx6 : w.heap.size + 1 < w2.heap.size := by omega
  have hx9 : w1.heap.size < w2.heap.size := by omega
  have HX := hide (And.intro hx3 (And.intro hx6 hx9))
  clear e0 e1 hx3 hx6 hx9
  go_region_held3 (fun W => W.cell? ⟨w.heap.size, 0, none⟩ = some (.slice ka ks.length kc) ∧ W.cell? ⟨w.heap.size, 1, none⟩ = some (.slice wa ws.length wc) ∧ W.cell? ⟨w1.heap.size, 0, none⟩ = some (.int .i64 n) ∧ W.cell? ⟨w1.heap.size, 1, none⟩ = some (.string s) ∧ Below w.heap.size w W ∧ w2.heap.size ≤ W.heap.size)
    (first
      | exact Dk.WS.grown (by assumption) (unhide HGA) (unhide HLW) (unhide HX).1 (unhide HX).2.2 (by have := (unhide HX).1; omega)
      | exact Dk.WS.below (by assumption) (unhide HBK)
      | exact Dk.WS.below (by assumption) (unhide HBW)
      | exact Dk.WS.stored (by assumption) (by omega) (by have := (unhide HX).2.1; omega) (by omega) _ _
      | exact Dk.WS.alloc (by assumption) _
      | exact Dk.WS.drew (unhide HWS))
    (first
      | (go_at_call 60; refine (cloneK_any ks ka kc _ ?_ h2 h0).mono ?_; exact (unhide HK).later (Dk.WS.bel (w2 := w2) (by assumption)) (Nat.le_refl _); rintro e w4 ⟨gK, cK, rfl, hoK, hbK⟩; have HLE := Dk.le_of (w := w) (w2 := w2) hoK (by assumption); have HKC := hide (Dk.cap_le hoK); have HBK := hide hbK; have HTK := hide (Dk.TK.of hoK HLE (unhide HS32)); (first | have HNE := hide (Dk.ne_of (unhide HOW) hoK) | have HNE := hide (Dk.ne_of (Dk.ow_alloc (unhide HOW) _) hoK) | skip); (first | replace HOW := hide (Dk.ow_below (unhide HOW) hbK) | replace HOW := hide (Dk.ow_below (Dk.ow_alloc (unhide HOW) _) hbK) | skip); (first | replace HSB := hide (Dk.sb_below (unhide HSB) hbK) | have HSB := hide (Dk.sb_of (W := w2.drew) (cs := #[.int .i64 n, .string s]) (t := 68) hbK) | skip); (first | replace HTW := hide (Dk.TW.below (unhide HTW) hbK) | skip); (first | replace HD6 := hide (Dk.D6.below (unhide HD6) hbK) | replace HD6 := hide (Dk.D6.below (Dk.D6.alloc (unhide HD6) _) hbK)); have x0 := (unhide HD6).c0; have x1 := (unhide HD6).c1; have x2 := (unhide HD6).f0; have x3 := (unhide HD6).f1; clear hoK hbK HLE)
      | (go_at_call 61; refine (cloneW_any ws wa wc _ ?_ h4).mono ?_; exact (unhide HW).later (Dk.WS.bel (w2 := w2) (by assumption)) (Nat.le_refl _); rintro e w4 ⟨aW, cW, rfl, hoW, hbW⟩; have HLE := Dk.le_of (w := w) (w2 := w2) hoW (by assumption); have HBW := hide hbW; have HLW := hide (fun q hq => Nat.le_trans HLE (hoW.lt q hq).1); have HOW := hide (Dk.ow_base hoW HLE); (first | have HNE := hide (Dk.ne_of2 (unhide HTK) hoW) | have HNE := hide (Dk.ne_of2 (Dk.TK.alloc (unhide HTK) _) hoW) | skip); (first | replace HTK := hide (Dk.TK.below (unhide HTK) hbW) | replace HTK := hide (Dk.TK.below (Dk.TK.alloc (unhide HTK) _) hbW) | skip); (first | replace HSB := hide (Dk.sb_below (unhide HSB) hbW) | have HSB := hide (Dk.sb_of hbW) | skip); (first | replace HD6 := hide (Dk.D6.below (unhide HD6) hbW) | replace HD6 := hide (Dk.D6.below (Dk.D6.alloc (unhide HD6) _) hbW)); have x0 := (unhide HD6).c0; have x1 := (unhide HD6).c1; have x2 := (unhide HD6).f0; have x3 := (unhide HD6).f1; clear hoW hbW HLE)
      | (refine step_append_lies _ rfl (.tmp 37) (.tmp 39) 27 rfl w2.heap.size 68 i0 _ 2 24 Try.underlying27 (unhide HI) (unhide HZ0) (unhide HZ1) (unhide HZ2) rfl (by omega) (.slice aW ws.length cW) ws.length (Dk.wcells ws) rfl (by first | exact (unhide HOW) | exact Dk.ow_alloc (unhide HOW) _) _ 1 1 [.int .i64 n, .string s] rfl rfl (by first | exact World.news_of_block (unhide HSB) | exact World.news_of_block (heap_alloc_new _ _)) (by simp [Value.oneCell']) (by omega) (by unfold maxLen; omega) (by omega) (Dk.WS.le (w := w) (w2 := w2) (by assumption)) _ rfl ?_; intro gA cA w6 hoA hgA hatA hltA; have HGA := hide hgA; have HTW := hide (Dk.TW.of (x := (n, s)) hoA (unhide HW32) (unhide HSM)); (first | replace HTK := hide (Dk.TK.grown (unhide HTK) hgA (unhide HNE)) | replace HTK := hide (Dk.TK.grown (Dk.TK.alloc (unhide HTK) _) hgA (unhide HNE)) | skip); (first | replace HD6 := hide (Dk.D6.grown (unhide HD6) hgA (unhide HLW) (unhide HX).2.1) | replace HD6 := hide (Dk.D6.grown (Dk.D6.alloc (unhide HD6) _) hgA (unhide HLW) (unhide HX).2.1)); have x0 := (unhide HD6).c0; have x1 := (unhide HD6).c1; have x2 := (unhide HD6).f0; have x3 := (unhide HD6).f1; clear hoA hgA hatA hltA))
  all_goals
    go_wp2_with fail
    refine bodyPost_ret (v := .tuple #[.agg #[.slice (some ⟨gK, 0, none⟩) ks.length cK, .slice (some ⟨gA, 0, none⟩) (ws.length + 1) cA], .int .i64 0]) (by simp [results, Try.results32, go_sem, x0, x1]) rfl ⟨gK, cK, gA, cA, rfl, ?_, ?_, Dk.WS.bel (w2 := w2) (by assumption), by have := (unhide HTK).lo; have := (unhide HX).2.1; omega, by have := (unhide HTW).lo; have := (unhide HX).2.1; omega, unhide HKC, ?_, ?_⟩
    · exact Dk.RK.stored (unhide HTK).rk (by have := (unhide HTK).lo; have := (unhide HX).2.1; omega) _ _ _
    · exact Dk.RW.stored (unhide HTW).rw_ (by have := (unhide HTW).lo; have := (unhide HX).2.1; omega) _ _ _
    · intro i; rw [World.frozen?_setCell, World.frozen?_setCell]; exact (unhide HTK).fr i
    · intro i; rw [World.frozen?_setCell, World.frozen?_setCell]; exact (unhide HTW).fr i
theorem Write_own (ka : Option Addr) (ks : List ByteArray) (kc : Nat) (wa : Option Addr) (ws : List (Int × ByteArray)) (wc : Nat) (n : Int) (s : ByteArray) (w : World) (hk : Dk.RK w ka ks) (hw : Dk.RW w wa ws) (hok : Dk.wrE ks ws n s = 0) (hsm : s.size ≤ maxLen) :
    Calls Try.prog 32 #[.agg #[.slice ka ks.length kc, .slice wa ws.length wc], .int .i64 n, .string s] w fun e w' => ∃ g c1 g2 c2, e = .returned (.tuple #[.agg #[.slice (some ⟨g, 0, none⟩) ks.length c1, .slice (some ⟨g2, 0, none⟩) (ws.length + 1) c2], .int .i64 0]) ∧ Dk.RK w' (some ⟨g, 0, none⟩) ks ∧ Dk.RW w' (some ⟨g2, 0, none⟩) (ws ++ [(n, s)]) ∧ Below w.heap.size w w' ∧ w.heap.size ≤ g ∧ w.heap.size ≤ g2 ∧ ks.length ≤ c1 :=
  (Write_wr ka ks kc wa ws wc n s w hk hw hok hsm).mono fun e w' ⟨g, c1, g2, c2, h1, h2, h3, h4, h5, h6, h7, _⟩ => ⟨g, c1, g2, c2, h1, h2, h3, h4, h5, h6, h7⟩
theorem Write_ok (ka : Option Addr) (ks : List ByteArray) (kc : Nat) (wa : Option Addr) (ws : List (Int × ByteArray)) (wc : Nat) (n : Int) (s : ByteArray) (w : World) (hk : Dk.RK w ka ks) (hw : Dk.RW w wa ws) (hok : Dk.wrE ks ws n s = 0) (hsm : s.size ≤ maxLen) :
    Calls Try.prog 32 #[.agg #[.slice ka ks.length kc, .slice wa ws.length wc], .int .i64 n, .string s] w fun e w' => ∃ g c1 g2 c2, e = .returned (.tuple #[.agg #[.slice (some ⟨g, 0, none⟩) ks.length c1, .slice (some ⟨g2, 0, none⟩) (ws.length + 1) c2], .int .i64 0]) ∧ Dk.RK w' (some ⟨g, 0, none⟩) ks ∧ Dk.RW w' (some ⟨g2, 0, none⟩) (ws ++ [(n, s)]) ∧ Below w.heap.size w w' :=
  (Write_own ka ks kc wa ws wc n s w hk hw hok hsm).mono fun e w' ⟨g, c1, g2, c2, h1, h2, h3, h4, _⟩ => ⟨g, c1, g2, c2, h1, h2, h3, h4⟩

set_option maxHeartbeats 800000 in
theorem Write_err (ka : Option Addr) (ks : List ByteArray) (kc : Nat) (wa : Option Addr) (ws : List (Int × ByteArray)) (wc : Nat) (n : Int) (s : ByteArray) (w : World) (hk : Dk.RK w ka ks) (hw : Dk.RW w wa ws) (hne : Dk.wrE ks ws n s ≠ 0) (hsm : s.size ≤ maxLen) :
    Calls Try.prog 32 #[.agg #[.slice ka ks.length kc, .slice wa ws.length wc], .int .i64 n, .string s] w fun e w' => e = .returned (.tuple #[.agg #[.slice none 0 0, .slice none 0 0], .int .i64 (Dk.wrE ks ws n s : Nat)]) ∧ Below w.heap.size w w' := by
  have HK := hide hk
  have HW := hide hw
  have HSM := hide hsm
  clear hk hw hsm
  have hb0 := ((Below.refl w.heap.size w).alloc (Nat.le_refl _) (Obj.cells #[.slice ka ks.length kc, .slice wa ws.length wc] 29)).alloc (by simp only [World.size_alloc]; omega) (Obj.cells #[.slice none 0 0, .slice none 0 0] 29)
  by_cases hc1 : Dk.chk ks ws = 0
  · have HC1 := hide hc1
    obtain ⟨h1, h2, h3, h4, h5⟩ := Dk.chk_ok hc1
    by_cases hc2 : Dk.chkW ks.length (n, s) = 0
    · have h6 : ws.length = 600 := by
        apply Classical.byContradiction; intro hh
        apply hne; unfold Dk.wrE; rw [if_pos hc1, if_pos hc2, if_neg hh]
      have hR : Dk.wrE ks ws n s = 2 := by unfold Dk.wrE; rw [if_pos hc1, if_pos hc2, if_pos h6]
      rw [hR]
      have HC2 := hide hc2
      have g600 : ((ws.length : Int) == 600) = true := by rw [h6]; rfl
      have H6 := hide h6
      clear hc1 hc2 hne hR h3 h5 h6
      go_enter Try.func32, Try.ntmps32
      go_wp2_with fail
      refine (Check_any ka ks kc wa ws wc _ ((unhide HK).later hb0 (Nat.le_refl _)) ((unhide HW).later hb0 (Nat.le_refl _))).mono ?_
      rintro e w1 ⟨rfl, hb⟩
      rw [unhide HC1]
      have hz1 := hb.size
      simp at hz1
      have c0 := (hb.cell (p := ⟨w.heap.size, 0, none⟩) (show w.heap.size < _ by simp only [World.size_alloc]; omega)).trans (show _ = some (.slice ka ks.length kc) by go_simp)
      have c1 := (hb.cell (p := ⟨w.heap.size, 1, none⟩) (show w.heap.size < _ by simp only [World.size_alloc]; omega)).trans (show _ = some (.slice wa ws.length wc) by go_simp)
      have d6 : Dk.D6 (w.heap.size + 1) w1 := Dk.D6.below (b6 := w.heap.size + 1) (W := (w.alloc (Obj.cells #[.slice ka ks.length kc, .slice wa ws.length wc] 29)).alloc (Obj.cells #[.slice none 0 0, .slice none 0 0] 29)) ⟨by go_simp, by go_simp, by go_simp, by go_simp⟩ hb
      have HB1 := hide (hb0.trans (hb.mono (by simp; omega)))
      have hl0 : w.heap.size < w1.heap.size := by omega
      have HD6 := hide d6
      clear hb hb0 d6
      go_wp2_with fail
      refine (checkWritten_any ka ks.length kc wa ws.length wc (n, s) _ (unhide HSM)).mono ?_
      rintro e w2 ⟨rfl, hb2⟩
      rw [unhide HC2]
      have hz2 := hb2.size
      simp at hz2
      have hb3 := below_two hb2
      have e1 := (hb3.cell (p := ⟨w.heap.size, 1, none⟩) (show w.heap.size < _ by omega)).trans c1
      have x0 := ((unhide HD6).below hb3).c0
      have x1 := ((unhide HD6).below hb3).c1
      have x2 := ((unhide HD6).below hb3).f0
      have x3 := ((unhide HD6).below hb3).f1
      have HB2 := hide ((unhide HB1).trans (hb3.mono (by omega)))
      clear hb2 hb3 c0 c1
      go_wp2_with fail
      exact bodyPost_ret (v := .tuple #[.agg #[.slice none 0 0, .slice none 0 0], .int .i64 2]) (by simp [results, Try.results32, go_sem, x0, x1]) rfl ⟨rfl, ((unhide HB2).setCell (by simp; try omega) _).setCell (by simp; try omega) _⟩
    · have hR : Dk.wrE ks ws n s = Dk.chkW ks.length (n, s) := by unfold Dk.wrE; rw [if_pos hc1, if_neg hc2]
      rw [hR]
      have g0 := Dk.ne0 hc2
      clear hc1 hc2 hne hR h3 h5
      go_enter Try.func32, Try.ntmps32
      go_wp2_with fail
      refine (Check_any ka ks kc wa ws wc _ ((unhide HK).later hb0 (Nat.le_refl _)) ((unhide HW).later hb0 (Nat.le_refl _))).mono ?_
      rintro e w1 ⟨rfl, hb⟩
      rw [unhide HC1]
      have hz1 := hb.size
      simp at hz1
      have c0 := (hb.cell (p := ⟨w.heap.size, 0, none⟩) (show w.heap.size < _ by simp only [World.size_alloc]; omega)).trans (show _ = some (.slice ka ks.length kc) by go_simp)
      have c1 := (hb.cell (p := ⟨w.heap.size, 1, none⟩) (show w.heap.size < _ by simp only [World.size_alloc]; omega)).trans (show _ = some (.slice wa ws.length wc) by go_simp)
      have d6 : Dk.D6 (w.heap.size + 1) w1 := Dk.D6.below (b6 := w.heap.size + 1) (W := (w.alloc (Obj.cells #[.slice ka ks.length kc, .slice wa ws.length wc] 29)).alloc (Obj.cells #[.slice none 0 0, .slice none 0 0] 29)) ⟨by go_simp, by go_simp, by go_simp, by go_simp⟩ hb
      have HB1 := hide (hb0.trans (hb.mono (by simp; omega)))
      have hl0 : w.heap.size < w1.heap.size := by omega
      have HD6 := hide d6
      clear hb hb0 d6
      go_wp2_with fail
      refine (checkWritten_any ka ks.length kc wa ws.length wc (n, s) _ (unhide HSM)).mono ?_
      rintro e w2 ⟨rfl, hb2⟩
      have hz2 := hb2.size
      simp at hz2
      have hb3 := below_two hb2
      have x0 := ((unhide HD6).below hb3).c0
      have x1 := ((unhide HD6).below hb3).c1
      have x2 := ((unhide HD6).below hb3).f0
      have x3 := ((unhide HD6).below hb3).f1
      have HB2 := hide ((unhide HB1).trans (hb3.mono (by omega)))
      clear hb2 hb3 c0 c1
      go_wp2_with fail
      exact bodyPost_ret (v := .tuple #[.agg #[.slice none 0 0, .slice none 0 0], .int .i64 (Dk.chkW ks.length (n, s) : Nat)]) (by simp [results, Try.results32, go_sem, x0, x1]) rfl ⟨rfl, ((unhide HB2).setCell (by simp; try omega) _).setCell (by simp; try omega) _⟩
  · have hR : Dk.wrE ks ws n s = Dk.chk ks ws := by unfold Dk.wrE; rw [if_neg hc1]
    rw [hR]
    have g0 := Dk.ne0 hc1
    clear hne hR hc1
    go_enter Try.func32, Try.ntmps32
    go_wp2_with fail
    refine (Check_any ka ks kc wa ws wc _ ((unhide HK).later hb0 (Nat.le_refl _)) ((unhide HW).later hb0 (Nat.le_refl _))).mono ?_
    rintro e w1 ⟨rfl, hb⟩
    have d6 : Dk.D6 (w.heap.size + 1) w1 := Dk.D6.below (b6 := w.heap.size + 1) (W := (w.alloc (Obj.cells #[.slice ka ks.length kc, .slice wa ws.length wc] 29)).alloc (Obj.cells #[.slice none 0 0, .slice none 0 0] 29)) ⟨by go_simp, by go_simp, by go_simp, by go_simp⟩ hb
    have x0 := d6.c0
    have x1 := d6.c1
    have x2 := d6.f0
    have x3 := d6.f1
    have HB1 := hide (hb0.trans (hb.mono (by simp; omega)))
    clear hb hb0 d6
    go_wp2_with fail
    exact bodyPost_ret (v := .tuple #[.agg #[.slice none 0 0, .slice none 0 0], .int .i64 (Dk.chk ks ws : Nat)]) (by simp [results, Try.results32, go_sem, x0, x1]) rfl ⟨rfl, ((unhide HB1).setCell (by simp; try omega) _).setCell (by simp; try omega) _⟩
end Go.Proofs.Ytpabpcojiaklfaa
