/-
  The contract of log's Append. By the verifier.
-/
import Derived.Test.YtpabpcojiaklfaaLWayTo
namespace Go.Proofs.Ytpabpcojiaklfaa
open Go.RowKit
set_option linter.unusedVariables false

/-- The head that tells of so many batches. -/
def Lg.hd (n : Nat) : ByteArray := Lg.sc Lg.headM ⟨n, 0, 0, 0, 0, 0⟩
/-- What Append answers. -/
def Lg.appV (B : Nat) (w' : World) (e : Ending) (ks : List ByteArray) (l : List Ev) : Except Nat (List (List Ev) × List ByteArray) → Prop
  | .error n => e = .returned (.tuple #[.agg #[.slice none 0 0, .slice none 0 0], .slice none 0 0, .int .i64 (n : Nat)])
  | .ok x => ∃ g0 c0 g c cs bn bw, e = .returned (.tuple #[.agg #[.slice (some ⟨g0, 0, none⟩) ks.length c0, .slice none 0 0], .slice (some ⟨g, 0, none⟩) ((Lg.laid l).length + 3) c, .int .i64 0]) ∧ Dk.RK w' (some ⟨g0, 0, none⟩) (Lg.ks2 ks (ks.length - x.2.length) (Lg.laid l) (Lg.hd (x.1.length + 1))) ∧ ks.length ≤ c0 ∧ (B ≤ g0 ∧ B ≤ bw ∧ g0 < w'.heap.size ∧ ∀ j, w'.frozen? ⟨g0, j, none⟩ = false) ∧ w'.ownsRow B 29 2 (.slice (some ⟨g, 0, none⟩) ((Lg.laid l).length + 3) c) ((Lg.laid l).length + 3) cs ∧ Lg.Wy w' bn bw (.slice (some ⟨g, 0, none⟩) ((Lg.laid l).length + 3) c) cs (Lg.way ks (ks.length - x.2.length) (Lg.laid l) (Lg.hd (x.1.length + 1)))
/-- What Append does. -/
def Lg.app (ks : List ByteArray) (ws : List (Int × ByteArray)) (l : List Ev) : Except Nat (List (List Ev) × List ByteArray) :=
  if Dk.chk ks ws = 0 then
    if 60 < l.length then .error 2
    else if l.all Ev.ok = true then
      match Lg.batchesOf ks with
      | none => .error 4
      | some x => if x.2.length < l.length + 1 then .error 8 else .ok x
    else .error 3
  else .error (Dk.chk ks ws)

/-- The disk's variable, and the world behind another. -/
abbrev Lg.S4 (b : Nat) (A0 A1 : Value) (w4 W : World) : Prop := W.cell? ⟨b, 0, none⟩ = some A0 ∧ W.cell? ⟨b, 1, none⟩ = some A1 ∧ Below w4.heap.size w4 W
theorem Lg.S4.below {b : Nat} {A0 A1 : Value} {w4 W W' : World} (h : Lg.S4 b A0 A1 w4 W) (hb : Below W.heap.size W W') : Lg.S4 b A0 A1 w4 W' := by
  obtain ⟨h1, h2, h3⟩ := h
  refine ⟨?_, ?_, h3.trans (hb.mono h3.size)⟩
  · rw [hb.cell (World.block_lt_of_cell? W _ h1)]; exact h1
  · rw [hb.cell (World.block_lt_of_cell? W _ h2)]; exact h2
theorem Lg.S4.drew {b : Nat} {A0 A1 : Value} {w4 W : World} (h : Lg.S4 b A0 A1 w4 W) : Lg.S4 b A0 A1 w4 W.drew := ⟨h.1, h.2.1, h.2.2.drew⟩
theorem Lg.S4.bel {b : Nat} {A0 A1 : Value} {w4 W : World} (h : Lg.S4 b A0 A1 w4 W) : Below w4.heap.size w4 W := h.2.2
theorem Lg.way_last (ks : List ByteArray) (o : Nat) (ss : List ByteArray) (h : ByteArray) : (Lg.way ks o ss h)[ss.length + 2]? = some (Lg.ks2 ks o ss h, []) := by
  unfold Lg.way
  rw [List.getElem?_append_right (by simp [Lg.wayA_len])]
  simp [Lg.wayA_len]
theorem Lg.ks2_32 {ks : List ByteArray} {o : Nat} {ss : List ByteArray} {h : ByteArray} (h1 : 1 ≤ ks.length) (h2 : ks.length ≤ 600) (h3 : ∀ s ∈ ks, s.size = 32) (hss : ∀ s ∈ ss, s.size = 32) (hh : h.size = 32) (hol : o + ss.length ≤ ks.length) : ∀ s ∈ Lg.ks2 ks o ss h, s.size = 32 := by
  have hck : Dk.chk ks (Lg.wrs o ss) = 0 := Dk.chk_of h1 h2 h3 (by rw [Lg.wrs_len]; omega) (Lg.wrs_chk _ o ss hss hol)
  have l1 : (Lg.ks1 ks o ss).length = ks.length := Dk.keptTo_length _ _ _ _
  exact Dk.keptTo_32 (ks := Lg.ks1 ks o ss) _ (Dk.chk_of (by omega) (by omega) (Dk.keptTo_32 _ hck _) (by simp) (fun x hx => by simp at hx; subst hx; exact Dk.chkW_of (by omega) (by omega) hh)) _
theorem batchesOf_ks (ks : List ByteArray) (ad : Option Addr) (cap : Nat) (w : World) (hr : Dk.RK w ad ks) (h1 : 1 ≤ ks.length) (hl : ks.length ≤ 600) (hcap : ks.length ≤ cap) (h32 : ∀ t ∈ ks, t.size = 32) :
    Calls Try.prog 40 #[.slice ad ks.length cap] w fun e w' => Lg.batchesV w.heap.size w' e (Lg.batchesOf ks) ∧ Below w.heap.size w w' := by
  cases ks with
  | nil => exact absurd h1 (by simp)
  | cons s r => exact batchesOf_any s r ad cap w hr (by simpa using hl) (by simpa using hcap) h32
theorem Lg.batchesOf_len {ks : List ByteArray} {x : List (List Ev) × List ByteArray} (h : Lg.batchesOf ks = some x) : x.2.length + x.1.length + 1 ≤ ks.length := by
  cases ks with
  | nil => cases h
  | cons s r =>
    have h' : (match Lg.nm Lg.headM s with | none => none | some e => Lg.batches r e.n0.toNat) = some x := h
    split at h'
    · cases h'
    · obtain ⟨h1, h2, _⟩ := Lg.batches_len _ _ _ h'
      simp
      omega

set_option maxRecDepth 100000 in
set_option maxHeartbeats 1600000 in
theorem Append_any (ka : Option Addr) (ks : List ByteArray) (kc : Nat) (wa : Option Addr) (ws : List (Int × ByteArray)) (wc : Nat) (l : List Ev) (la : Option Addr) (lc : Nat) (w : World)
    (hk : Dk.RK w ka ks) (hw : Dk.RW w wa ws) (hcap : ks.length ≤ kc) (hl : Cl.RE w la l) :
    Calls Try.prog 13 #[.agg #[.slice ka ks.length kc, .slice wa ws.length wc], .slice la l.length lc] w fun e w' => Lg.appV w.heap.size w' e ks l (Lg.app ks ws l) ∧ Below w.heap.size w w' := by
  have HK := hide hk
  have HW := hide hw
  have HL := hide hl
  clear hk hw hl
  go_enter Try.func13, Try.ntmps13
  go_wp2_with fail
  have hb0 := ((Below.refl w.heap.size w).alloc (Nat.le_refl _) (Obj.cells #[.slice ka ks.length kc, .slice wa ws.length wc] 29)).alloc (by simp only [World.size_alloc]; omega) (Obj.cells #[.slice none 0 0, .slice none 0 0] 29)
  refine (Check_any ka ks kc wa ws wc _ ((unhide HK).later hb0 (Nat.le_refl _)) ((unhide HW).later hb0 (Nat.le_refl _))).mono ?_
  rintro e w1 ⟨rfl, hb1⟩
  have hz1 := hb1.size
  simp at hz1
  have HD := hide (show Dk.Bx w.heap.size (.slice ka ks.length kc) (.slice wa ws.length wc) w1 from Dk.Bx.below ⟨by go_simp, by go_simp⟩ hb1)
  have HR := hide (show Dk.D6 (w.heap.size + 1) w1 from Dk.D6.below ⟨by go_simp, by go_simp, by go_simp, by go_simp⟩ hb1)
  have HB1 := hide (hb0.trans (hb1.mono (by simp; omega)))
  clear hb1 hb0
  have x0 := (unhide HR).c0
  have x1 := (unhide HR).c1
  have x2 := (unhide HR).f0
  have x3 := (unhide HR).f1
  by_cases hc : Dk.chk ks ws = 0
  · obtain ⟨g1, g2, g3, _, _⟩ := Dk.chk_ok hc
    have H32 := hide (Dk.all32 g3)
    have HC := hide hc
    rw [hc]
    clear g3 hc
    by_cases h60 : 60 < l.length
    · have HA := hide (show Lg.app ks ws l = .error 2 by unfold Lg.app; rw [if_pos (unhide HC), if_pos h60])
      go_wp2_with fail
      exact bodyPost_ret (v := .tuple #[.agg #[.slice none 0 0, .slice none 0 0], .slice none 0 0, .int .i64 2]) (by simp [results, Try.results13, go_sem, x0, x1]) rfl ⟨by rw [unhide HA]; rfl, ((unhide HB1).setCell (by simp; try omega) _).setCell (by simp; try omega) _⟩
    · go_wp2_with fail
      refine (AreWithin_any l la lc _ ((unhide HL).later (unhide HB1) (Nat.le_refl _)) (by omega)).mono ?_
      rintro e w2 ⟨rfl, hb2⟩
      have hz2 := hb2.size
      have HB2 := hide ((unhide HB1).trans (hb2.mono (unhide HB1).size))
      have HR2 := hide ((unhide HR).below hb2)
      have HD2 := hide ((unhide HD).below hb2)
      clear x0 x1 x2 x3 hb2
      have x0 := (unhide HR2).c0
      have x1 := (unhide HR2).c1
      have x2 := (unhide HR2).f0
      have x3 := (unhide HR2).f1
      have y0 := (unhide HD2).c0
      have y1 := (unhide HD2).c1
      cases hall : l.all Ev.ok
      · have HA := hide (show Lg.app ks ws l = .error 3 by unfold Lg.app; rw [if_pos (unhide HC), if_neg h60, if_neg (by rw [hall]; decide)])
        clear hall
        go_wp2_with fail
        exact bodyPost_ret (v := .tuple #[.agg #[.slice none 0 0, .slice none 0 0], .slice none 0 0, .int .i64 3]) (by simp [results, Try.results13, go_sem, x0, x1]) rfl ⟨by rw [unhide HA]; rfl, ((unhide HB2).setCell (by simp; try omega) _).setCell (by simp; try omega) _⟩
      · have HA0 := hide (show Lg.app ks ws l = match Lg.batchesOf ks with | none => .error 4 | some x => if x.2.length < l.length + 1 then .error 8 else .ok x by unfold Lg.app; rw [if_pos (unhide HC), if_neg h60, if_pos hall])
        clear hall
        go_wp2_with fail
        refine (batchesOf_ks ks ka kc _ ((unhide HK).later (unhide HB2) (Nat.le_refl _)) g1 g2 hcap (unhide H32)).mono ?_
        rintro e w3 ⟨hv, hb3⟩
        have hz3 := hb3.size
        have HB3 := hide ((unhide HB2).trans (hb3.mono (unhide HB2).size))
        have HR3 := hide ((unhide HR2).below hb3)
        have HD3 := hide ((unhide HD2).below hb3)
        clear x0 x1 x2 x3 y0 y1 hb3
        have x0 := (unhide HR3).c0
        have x1 := (unhide HR3).c1
        have x2 := (unhide HR3).f0
        have x3 := (unhide HR3).f1
        have y0 := (unhide HD3).c0
        have y1 := (unhide HD3).c1
        cases hx : Lg.batchesOf ks with
        | none =>
          have HA := hide (show Lg.app ks ws l = .error 4 by rw [unhide HA0, hx])
          rw [hx] at hv
          clear hx
          have hv' : e = .returned (.tuple #[.slice none 0 0, .slice none 0 0, .bool false]) := hv
          subst hv'
          clear hv
          go_wp2_with fail
          exact bodyPost_ret (v := .tuple #[.agg #[.slice none 0 0, .slice none 0 0], .slice none 0 0, .int .i64 4]) (by simp [results, Try.results13, go_sem, x0, x1]) rfl ⟨by rw [unhide HA]; rfl, ((unhide HB3).setCell (by simp; try omega) _).setCell (by simp; try omega) _⟩
        | some x =>
          have HA1 := hide (show Lg.app ks ws l = if x.2.length < l.length + 1 then .error 8 else .ok x by rw [unhide HA0, hx])
          have hxl := Lg.batchesOf_len hx
          rw [hx] at hv
          clear hx
          obtain ⟨v, fa, fc, rfl, ⟨ba, bc, rfl⟩, _, _⟩ := hv
          go_wp2_with fail
          refine (laid_any l la lc _ ((unhide HL).later (unhide HB3) (Nat.le_refl _)) (by omega)).mono ?_
          rintro e w4 ⟨gm, cm, rfl, hrk4, hb4⟩
          have hz4 := hb4.size
          have HB4 := hide ((unhide HB3).trans (hb4.mono (unhide HB3).size))
          have HR4 := hide ((unhide HR3).below hb4)
          have HD4 := hide ((unhide HD3).below hb4)
          have HM := hide hrk4
          clear x0 x1 x2 x3 y0 y1 hb4 hrk4
          have x0 := (unhide HR4).c0
          have x1 := (unhide HR4).c1
          have x2 := (unhide HR4).f0
          have x3 := (unhide HR4).f1
          have y0 := (unhide HD4).c0
          have y1 := (unhide HD4).c1
          by_cases hsp : x.2.length < l.length + 1
          · have HA := hide (show Lg.app ks ws l = .error 8 by rw [unhide HA1, if_pos hsp])
            go_wp2_with fail
            exact bodyPost_ret (v := .tuple #[.agg #[.slice none 0 0, .slice none 0 0], .slice none 0 0, .int .i64 8]) (by simp [results, Try.results13, go_sem, x0, x1]) rfl ⟨by rw [unhide HA]; rfl, ((unhide HB4).setCell (by simp; try omega) _).setCell (by simp; try omega) _⟩
          · have HA := hide (show Lg.app ks ws l = .ok x by rw [unhide HA1, if_neg hsp])
            obtain ⟨hh, hhd⟩ : ∃ hh, Lg.hd (x.1.length + 1) = hh := ⟨_, rfl⟩
            have hh32 : hh.size = 32 := by rw [← hhd]; exact Lg.sc_size _ _ rfl
            have HH := hide (show ∀ W : World, Calls Try.prog 36 #[.int .i64 (IntKind.i64.wrap ((x.1.length : Int) + 1))] W fun r w' => r = .returned (.string hh) ∧ Below W.heap.size W w' from fun W => by
              rw [← hhd, show IntKind.i64.wrap ((x.1.length : Int) + 1) = (x.1.length : Int) + 1 by rw [IntKind.wrap_i64]; omega]
              exact head_any ((x.1.length : Int) + 1) W)
            have HWT := hide (show ∀ W : World, Below w4.heap.size w4 W → Calls Try.prog 42 #[.agg #[.slice ka ks.length kc, .slice wa ws.length wc], .int .i64 (IntKind.i64.wrap ((ks.length : Int) - (x.2.length : Int))), .slice (some ⟨gm, 0, none⟩) (l.length + 1) cm, .string hh] W fun e w' => ∃ g c cs bn bw, e = .returned (.slice (some ⟨g, 0, none⟩) (l.length + 1 + 3) c) ∧ w'.ownsRow w4.heap.size 29 2 (.slice (some ⟨g, 0, none⟩) (l.length + 1 + 3) c) (l.length + 1 + 3) cs ∧ Lg.Wy w' bn bw (.slice (some ⟨g, 0, none⟩) (l.length + 1 + 3) c) cs (Lg.way ks (ks.length - x.2.length) (Lg.laid l) hh) ∧ Below W.heap.size W w' ∧ Below w4.heap.size w4 w' ∧ w4.heap.size ≤ bw from fun W hW => by
              have hb := (unhide HB4).trans (hW.mono (unhide HB4).size)
              have := wayTo_any ka ks kc wa ws wc (ks.length - x.2.length) (some ⟨gm, 0, none⟩) (Lg.laid l) cm hh W ((unhide HK).later hb (Nat.le_refl _)) ((unhide HW).later hb (Nat.le_refl _)) ((unhide HM).later hW (Nat.le_refl _)) (unhide HC) (Lg.laid_32 l) hh32 (by rw [Lg.laid_len]; omega) (by rw [Lg.laid_len]; omega)
              rw [Lg.laid_len, show ((ks.length - x.2.length : Nat) : Int) = IntKind.i64.wrap ((ks.length : Int) - (x.2.length : Int)) by rw [IntKind.wrap_i64]; omega] at this
              exact this.mono fun e w' ⟨g, c, cs, bn, bw, k1, k2, k3, k4, k5⟩ => ⟨g, c, cs, bn, bw, k1, Dk.ow_base k2 hW.size, k3, k4, Lg.bb hW k4, Nat.le_trans hW.size k5⟩)
            have HHD := hide hhd
            have hx1 : x.1.length ≤ 600 := by omega
            have hx2 : x.2.length ≤ 600 := by omega
            have hx3 : x.2.length ≤ ks.length := by omega
            clear hhd
            have HS4 := hide (show Lg.S4 w.heap.size (.slice ka ks.length kc) (.slice wa ws.length wc) w4 w4 from ⟨y0, y1, Below.refl _ _⟩)
            go_wp2_with fail
            go_cut [12] (fun xv wc' => ∃ g c cs bn bw, xv = .slice (some ⟨g, 0, none⟩) (l.length + 1 + 3) c ∧ wc'.ownsRow w4.heap.size 29 2 (.slice (some ⟨g, 0, none⟩) (l.length + 1 + 3) c) (l.length + 1 + 3) cs ∧ Lg.Wy wc' bn bw (.slice (some ⟨g, 0, none⟩) (l.length + 1 + 3) c) cs (Lg.way ks (ks.length - x.2.length) (Lg.laid l) hh) ∧ Below w4.heap.size w4 wc' ∧ w4.heap.size ≤ bw)
            case first =>
              clear x0 x1 x2 x3 y0 y1
              go_region_held3 (fun W => W.cell? ⟨w.heap.size, 0, none⟩ = some (.slice ka ks.length kc) ∧ W.cell? ⟨w.heap.size, 1, none⟩ = some (.slice wa ws.length wc) ∧ Below w4.heap.size w4 W)
                (first
                  | exact Lg.S4.below (by assumption) (unhide HB6)
                  | exact Lg.S4.below (by assumption) (unhide HB5)
                  | exact Lg.S4.drew (unhide HS4))
                (first
                  | (go_at_call 36; refine ((unhide HH) _).mono ?_; rintro e w5 ⟨rfl, hb5⟩; have HB5 := hide hb5; clear hb5)
                  | (go_at_call 42; refine ((unhide HWT) _ ?_).mono ?_; exact Lg.S4.bel (by assumption); rintro e w6 ⟨gv, cv, cs, bn, bw, rfl, how, hwy, hb6, hb7, hbw⟩; have HB6 := hide hb6; have HB7 := hide hb7; clear hb7; have HOW := hide how; have HWY := hide hwy; clear hb6 how hwy))
              all_goals
                go_wp2_with fail
                go_meet
                case rel => exact ⟨gv, cv, cs, bn, bw, rfl, unhide HOW, unhide HWY, unhide HB7, hbw⟩
            case rest =>
              rename World => wc'
              obtain ⟨gv, cv, cs, bn, bw, rfl, how, hwy, hbc, hbw⟩ := hcut
              have hzc := hbc.size
              obtain ⟨A0, A1, k1, k2, hel⟩ := hwy.at_ (l.length + 1 + 2) (Lg.ks2 ks (ks.length - x.2.length) (Lg.laid l) hh, []) (by rw [← Lg.laid_len]; exact Lg.way_last _ _ _ _)
              obtain ⟨gl, cl, bl, el, rfl, rfl, hrk, hrw, hcl, _, _⟩ := hel.lies
              dsimp only at k1 k2 hrk hrw hcl
              have hkl : (Lg.ks2 ks (ks.length - x.2.length) (Lg.laid l) hh).length = ks.length := (Dk.keptTo_length _ _ _ _).trans (Dk.keptTo_length _ _ _ _)
              have z0 := how.cells (g := gv) rfl _ _ k1
              have z1 := how.cells (g := gv) rfl _ _ k2
              rw [Dk.add_at, Nat.zero_add, hkl] at z0
              rw [Dk.add_at, Nat.zero_add] at z1
              have HFL := hide (show ∀ W : World, Below wc'.heap.size wc' W → Calls Try.prog 26 #[.agg #[.slice (some ⟨gl, 0, none⟩) ks.length cl, .slice bl 0 el]] W fun e w' => ∃ g c, e = .returned (.tuple #[.agg #[.slice (some ⟨g, 0, none⟩) ks.length c, .slice none 0 0], .int .i64 0]) ∧ Dk.RK w' (some ⟨g, 0, none⟩) (Lg.ks2 ks (ks.length - x.2.length) (Lg.laid l) hh) ∧ Below W.heap.size W w' ∧ W.heap.size ≤ g ∧ ks.length ≤ c ∧ (g < w'.heap.size ∧ ∀ j, w'.frozen? ⟨g, j, none⟩ = false) from fun W hW => by
                have := Flush_wr (some ⟨gl, 0, none⟩) (Lg.ks2 ks (ks.length - x.2.length) (Lg.laid l) hh) cl bl [] el W (hrk.later hW (Nat.le_refl _)) (hrw.later hW (Nat.le_refl _)) (Dk.chk_of (by omega) (by omega) (Lg.ks2_32 g1 g2 (unhide H32) (Lg.laid_32 l) hh32 (by rw [Lg.laid_len]; omega)) (by simp) (fun x hx => by simp at hx))
                rw [hkl] at this
                exact this.mono fun e w' ⟨g, c, h1, h2, h3, h4, h5, h6⟩ => ⟨g, c, h1, h2, h3, h4, h5, h6.lt, h6.fr⟩)
              have hd6 := (unhide HR4).below hbc
              have HOW := hide how
              have HWY := hide hwy
              have HBC := hide hbc
              have HBW := hide ((unhide HB4).trans (hbc.mono (unhide HB4).size))
              have HD6 := hide hd6
              have HKL := hide hkl
              obtain ⟨N, hN⟩ : ∃ N, l.length + 1 + 3 = N := ⟨_, rfl⟩
              rw [show (l.length + 1 + 2) * 2 = (N - 1) * 2 by omega] at z0 z1
              rw [hN]
              have hN1 : 4 ≤ N := by omega
              have hN2 : N ≤ 100 := by omega
              have HN := hide hN
              clear how hwy hbc hd6 hrk hrw hel k1 k2 hkl hN x0 x1 x2 x3 y0 y1
              go_wp2_with fail
              refine ((unhide HFL) _ (Below.refl _ _)).mono ?_
              rintro e w7 ⟨g7, c7, rfl, hrk7, hb7, hq7, hc7, hg7, hf7⟩
              have hd7 := (unhide HD6).below hb7
              have hz7 := hb7.size
              have hzw := (unhide HBW).size
              have hd8 := hd7.alloc (Obj.cells #[.slice (some ⟨g7, 0, none⟩) ks.length c7, .slice none 0 0] 29)
              have x0 := hd8.c0
              have x1 := hd8.c1
              have x2 := hd8.f0
              have x3 := hd8.f1
              have HRK7 := hide (hrk7.alloc (Obj.cells #[.slice (some ⟨g7, 0, none⟩) ks.length c7, .slice none 0 0] 29))
              have HB7 := hide (((unhide HBW).trans (hb7.mono (unhide HBW).size)).alloc (by omega) (Obj.cells #[.slice (some ⟨g7, 0, none⟩) ks.length c7, .slice none 0 0] 29))
              have hb8 : Below wc'.heap.size wc' (w7.alloc (Obj.cells #[.slice (some ⟨g7, 0, none⟩) ks.length c7, .slice none 0 0] 29)) := hb7.alloc hz7 _
              have HOW8 := hide (Dk.ow_below (unhide HOW) hb8)
              have HWY8 := hide ((unhide HWY).below hb8)
              have HD8 := hide hd8
              have HF7 := hide (show ∀ j, (w7.alloc (Obj.cells #[.slice (some ⟨g7, 0, none⟩) ks.length c7, .slice none 0 0] 29)).frozen? ⟨g7, j, none⟩ = false from fun j => (((Below.refl w7.heap.size w7).alloc (Nat.le_refl _) _).frozen (p := ⟨g7, j, none⟩) hg7).trans (hf7 j))
              clear hrk7 hb7 hd7 hd8 hb8 z0 z1 hf7
              go_wp2_with fail
              refine bodyPost_ret (v := .tuple #[.agg #[.slice (some ⟨g7, 0, none⟩) ks.length c7, .slice none 0 0], .slice (some ⟨gv, 0, none⟩) N cv, .int .i64 0]) (by simp [results, Try.results13, go_sem, x0, x1]) rfl ⟨?_, ((unhide HB7).setCell (by simp; try omega) _).setCell (by simp; try omega) _⟩
              rw [unhide HA]
              have hn := unhide HN
              refine ⟨g7, c7, gv, cv, cs, bn, bw, by rw [Lg.laid_len, hn], ?_, hc7, ⟨by omega, by omega, by simp; omega, fun j => by rw [World.frozen?_setCell, World.frozen?_setCell]; exact (unhide HF7) j⟩, ?_, ?_⟩
              · rw [unhide HHD]
                exact Dk.RK.stored (unhide HRK7) (by omega) _ _ _
              · rw [Lg.laid_len]
                exact Dk.ow_base (ownsRow_setCell_below (ownsRow_setCell_below (unhide HOW8) (by show w.heap.size + 1 < _; omega) _) (by show w.heap.size + 1 < _; omega) _) (by omega)
              · rw [unhide HHD, Lg.laid_len]
                exact (unhide HWY8).set2 (unhide HD8) _ _
  · have HA := hide (show Lg.app ks ws l = .error (Dk.chk ks ws) by unfold Lg.app; rw [if_neg hc])
    have hg := Dk.ne0 hc
    have HC := hide hc
    clear hc
    generalize Dk.chk ks ws = n at *
    go_wp2_with fail
    exact bodyPost_ret (v := .tuple #[.agg #[.slice none 0 0, .slice none 0 0], .slice none 0 0, .int .i64 (n : Nat)]) (by simp [results, Try.results13, go_sem, x0, x1]) rfl ⟨by rw [unhide HA]; rfl, ((unhide HB1).setCell (by simp; try omega) _).setCell (by simp; try omega) _⟩
end Go.Proofs.Ytpabpcojiaklfaa
