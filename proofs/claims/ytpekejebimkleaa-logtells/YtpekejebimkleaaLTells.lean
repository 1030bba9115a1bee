/-
  LogTells of the laws. By the verifier.
-/
import Derived.Test.YtpekejebimkleaaLBegun
namespace Go.Proofs.Ytpekejebimkleaa
open Go.RowKit
set_option linter.unusedVariables false

/-- What LogTells asks of an answer of Append. -/
structure Lg.AppOk (ks : List ByteArray) (ws : List (Int × ByteArray)) (l : List Ev) (E xn vn : Nat) : Prop where
  bad : Dk.chk ks ws ≠ 0 → E = Dk.chk ks ws ∧ xn = 0 ∧ vn = 0
  none_ : E ≠ 0 → xn = 0 ∧ vn = 0
  many : Dk.chk ks ws = 0 → 60 < l.length → E = 2
  range : Dk.chk ks ws = 0 → ¬ 60 < l.length → l.all Ev.ok = false → E = 3
  rest : Dk.chk ks ws = 0 → ¬ 60 < l.length → l.all Ev.ok = true → E = 0 ∨ E = 4 ∨ E = 8
theorem Lg.app_shape {B : Nat} {w' : World} {e : Ending} {ks : List ByteArray} {ws : List (Int × ByteArray)} {l : List Ev} (h : Lg.appV B w' e ks l (Lg.app ks ws l)) :
    ∃ xa xn xc va vn vc E, e = .returned (.tuple #[.agg #[.slice xa xn xc, .slice none 0 0], .slice va vn vc, .int .i64 (E : Nat)]) ∧ Lg.AppOk ks ws l E xn vn ∧ xn ≤ 600 ∧ vn ≤ 600 := by
  unfold Lg.app at h
  by_cases hc : Dk.chk ks ws = 0
  · rw [if_pos hc] at h
    by_cases h60 : 60 < l.length
    · rw [if_pos h60] at h
      exact ⟨none, 0, 0, none, 0, 0, 2, h, ⟨fun h => absurd hc h, fun _ => ⟨rfl, rfl⟩, fun _ _ => rfl, fun _ h => absurd h60 h, fun _ h => absurd h60 h⟩, by omega, by omega⟩
    · rw [if_neg h60] at h
      cases hall : l.all Ev.ok
      · rw [if_neg (by rw [hall]; decide)] at h
        exact ⟨none, 0, 0, none, 0, 0, 3, h, ⟨fun h => absurd hc h, fun _ => ⟨rfl, rfl⟩, fun _ h => absurd h h60, fun _ _ _ => rfl, fun _ _ h => (by rw [hall] at h; cases h)⟩, by omega, by omega⟩
      · rw [if_pos hall] at h
        have mk : ∀ {E xn vn : Nat}, (E ≠ 0 → xn = 0 ∧ vn = 0) → (E = 0 ∨ E = 4 ∨ E = 8) → Lg.AppOk ks ws l E xn vn := fun h1 h2 => ⟨fun h => absurd hc h, h1, fun _ h => absurd h h60, fun _ _ h => (by rw [hall] at h; cases h), fun _ _ _ => h2⟩
        cases hx : Lg.batchesOf ks with
        | none =>
          rw [hx] at h
          exact ⟨none, 0, 0, none, 0, 0, 4, h, mk (fun _ => ⟨rfl, rfl⟩) (by omega), by omega, by omega⟩
        | some x =>
          rw [hx] at h
          by_cases hsp : x.2.length < l.length + 1
          · have h' : Lg.appV B w' e ks l (.error 8) := by simpa [hsp] using h
            exact ⟨none, 0, 0, none, 0, 0, 8, h', mk (fun _ => ⟨rfl, rfl⟩) (by omega), by omega, by omega⟩
          · have h' : Lg.appV B w' e ks l (.ok x) := by simpa [hsp] using h
            obtain ⟨g0, c0, g, c, _, _, _, e1, _⟩ := h'
            obtain ⟨_, h2, _, _, _⟩ := Dk.chk_ok hc
            exact ⟨some ⟨g0, 0, none⟩, ks.length, c0, some ⟨g, 0, none⟩, _, c, 0, e1, mk (fun h => absurd rfl h) (by omega), h2, by rw [Lg.laid_len]; omega⟩
  · rw [if_neg hc] at h
    exact ⟨none, 0, 0, none, 0, 0, _, h, ⟨fun _ => ⟨rfl, rfl, rfl⟩, fun _ => ⟨rfl, rfl⟩, fun h => absurd h hc, fun h => absurd h hc, fun h => absurd h hc⟩, by omega, by omega⟩
theorem Lg.open_shape {B : Nat} {w' : World} {e : Ending} {ks : List ByteArray} {ws : List (Int × ByteArray)} (h : Lg.openV B w' e (Lg.opened ks ws)) :
    ∃ oa on oc G, e = .returned (.tuple #[.slice oa on oc, .int .i64 (G : Nat)]) ∧ (Dk.chk ks ws ≠ 0 → G = Dk.chk ks ws ∧ on = 0) ∧ (Dk.chk ks ws = 0 → G = 0 ∨ (G = 4 ∧ on = 0)) ∧ on ≤ 600 := by
  unfold Lg.opened at h
  by_cases hc : Dk.chk ks ws = 0
  · rw [if_pos hc] at h
    obtain ⟨_, h2, _, _, _⟩ := Dk.chk_ok hc
    cases hx : Lg.batchesOf ks with
    | none => rw [hx] at h; exact ⟨none, 0, 0, 4, h, fun h => absurd hc h, fun _ => Or.inr ⟨rfl, rfl⟩, by omega⟩
    | some x =>
      rw [hx] at h
      obtain ⟨v, e1, ⟨a, c, rfl⟩, _⟩ := h
      exact ⟨a, _, c, 0, e1, fun h => absurd hc h, fun _ => Or.inl rfl, by have := Lg.batchesOf_len hx; omega⟩
  · rw [if_neg hc] at h
    exact ⟨none, 0, 0, _, h, fun _ => ⟨rfl, rfl⟩, fun h => absurd h hc, by omega⟩

set_option maxRecDepth 100000 in
set_option maxHeartbeats 3200000 in
theorem ltells_ok (ka : Option Addr) (ks : List ByteArray) (kc : Nat) (wa : Option Addr) (ws : List (Int × ByteArray)) (wc : Nat) (l : List Ev) (la : Option Addr) (lc : Nat) (w : World)
    (hk : Dk.RK w ka ks) (hw : Dk.RW w wa ws) (hcap : ks.length ≤ kc) (hl : Cl.RE w la l) (hll : l.length ≤ 35184372088832) :
    Calls Try.prog 4 #[.agg #[.slice ka ks.length kc, .slice wa ws.length wc], .slice la l.length lc] w fun e w' => e = .returned (.bool true) ∧ Below w.heap.size w w' := by
  have HK := hide hk
  have HW := hide hw
  have HL := hide hl
  clear hk hw hl
  go_enter Try.func4, Try.ntmps4
  go_wp2_with fail
  have hb0 := (Below.refl w.heap.size w).alloc (Nat.le_refl _) (Obj.cells #[.slice ka ks.length kc, .slice wa ws.length wc] 29)
  refine (Append_any ka ks kc wa ws wc l la lc _ ((unhide HK).later hb0 (Nat.le_refl _)) ((unhide HW).later hb0 (Nat.le_refl _)) hcap ((unhide HL).later hb0 (Nat.le_refl _))).mono ?_
  rintro e w1 ⟨hv, hb1⟩
  obtain ⟨xa, xn, xc, va, vn, vc, E, rfl, hA, hxn, hvn⟩ := Lg.app_shape hv
  have HA := hide hA
  have HB1 := hide (hb0.trans (hb1.mono (by simp)))
  have HD := hide (show Dk.Bx w.heap.size (.slice ka ks.length kc) (.slice wa ws.length wc) w1 from Dk.Bx.below ⟨by go_simp, by go_simp⟩ hb1)
  have hz1 := hb1.size
  simp at hz1
  have HDA := hide ((unhide HD).alloc (Obj.cells #[.slice xa xn xc, .slice none 0 0] 29))
  have HXA := hide (Dk.Bx.made w1 (.slice xa xn xc) (.slice none 0 0) 29)
  have x0 := (unhide HDA).c0
  have x1 := (unhide HDA).c1
  have HBA := hide ((unhide HB1).alloc (by omega) (Obj.cells #[.slice xa xn xc, .slice none 0 0] 29))
  clear hv hb1 hb0 hA
  go_wp2_with fail
  refine (Open_any ka ks kc wa ws wc _ ((unhide HK).later (unhide HBA) (Nat.le_refl _)) ((unhide HW).later (unhide HBA) (Nat.le_refl _)) hcap).mono ?_
  rintro e w2 ⟨hv, hb2⟩
  obtain ⟨oa, on, oc, G, rfl, hG1, hG2, hon⟩ := Lg.open_shape hv
  have HG1 := hide hG1
  have HG2 := hide hG2
  have HD2 := hide ((unhide HDA).below hb2)
  have HX2 := hide ((unhide HXA).below hb2)
  have HB2 := hide ((unhide HBA).trans (hb2.mono (unhide HBA).size))
  clear hv hb2 hG1 hG2 x0 x1
  have x0 := (unhide HD2).c0
  have x1 := (unhide HD2).c1
  go_wp2_with fail
  refine (CheckDisk_any ka ks kc wa ws wc _ ((unhide HK).later (unhide HB2) (Nat.le_refl _)) ((unhide HW).later (unhide HB2) (Nat.le_refl _))).mono ?_
  rintro e w3 ⟨rfl, hb3⟩
  have HX3 := hide ((unhide HX2).below hb3)
  have HB3 := hide ((unhide HB2).trans (hb3.mono (unhide HB2).size))
  clear hb3 x0 x1
  go_wp2_with fail
  refine (logBegun_any _).mono ?_
  rintro e w4 ⟨rfl, hb4⟩
  have HX4 := hide ((unhide HX3).below hb4)
  have HB4 := hide ((unhide HB3).trans (hb4.mono (unhide HB3).size))
  clear hb4
  have y0 := (unhide HX4).c0
  have y1 := (unhide HX4).c1
  by_cases hc : Dk.chk ks ws = 0
  · have HC := hide hc
    rw [hc]
    have hG := (unhide HG2) hc
    clear hc
    by_cases h60 : 60 < l.length
    · have e1 := (unhide HA).many (unhide HC) h60
      obtain ⟨e2, e3⟩ := (unhide HA).none_ (by omega)
      clear HA HG1 HG2
      subst e1 e2 e3
      rcases hG with rfl | ⟨rfl, rfl⟩
      all_goals
        go_wp2_with fail
        go_ret
        exact ⟨rfl, unhide HB4⟩
    · cases hall : l.all Ev.ok
      · have e1 := (unhide HA).range (unhide HC) h60 hall
        obtain ⟨e2, e3⟩ := (unhide HA).none_ (by omega)
        have HAL := hide hall
        clear HA HG1 HG2 hall
        subst e1 e2 e3
        rcases hG with rfl | ⟨rfl, rfl⟩
        all_goals
          go_wp2_with fail
          refine (AreSmall_any l la lc _ ((unhide HL).later (unhide HB4) (Nat.le_refl _)) (by omega)).mono ?_
          rintro e w5 ⟨rfl, hb5⟩
          rw [unhide HAL]
          have HB5 := hide ((unhide HB4).trans (hb5.mono (unhide HB4).size))
          clear hb5
          go_wp2_with fail
          go_ret
          exact ⟨rfl, unhide HB5⟩
      · have e1 := (unhide HA).rest (unhide HC) h60 hall
        have hnn := (unhide HA).none_
        have HAL := hide hall
        clear HA HG1 HG2 hall
        rcases e1 with rfl | rfl | rfl
        · clear hnn
          rcases hG with rfl | ⟨rfl, rfl⟩
          all_goals
            go_wp2_with fail
            refine (AreSmall_any l la lc _ ((unhide HL).later (unhide HB4) (Nat.le_refl _)) (by omega)).mono ?_
            rintro e w5 ⟨rfl, hb5⟩
            rw [unhide HAL]
            have HB5 := hide ((unhide HB4).trans (hb5.mono (unhide HB4).size))
            clear hb5
            go_wp2_with fail
            go_ret
            exact ⟨rfl, unhide HB5⟩
        all_goals
          obtain ⟨e2, e3⟩ := hnn (by omega)
          clear hnn
          subst e2 e3
          rcases hG with rfl | ⟨rfl, rfl⟩
          all_goals
            go_wp2_with fail
            refine (AreSmall_any l la lc _ ((unhide HL).later (unhide HB4) (Nat.le_refl _)) (by omega)).mono ?_
            rintro e w5 ⟨rfl, hb5⟩
            rw [unhide HAL]
            have HB5 := hide ((unhide HB4).trans (hb5.mono (unhide HB4).size))
            clear hb5
            go_wp2_with fail
            go_ret
            exact ⟨rfl, unhide HB5⟩
  · obtain ⟨e1, e2, e3⟩ := (unhide HA).bad hc
    obtain ⟨e4, e5⟩ := (unhide HG1) hc
    have hn0 : ((Dk.chk ks ws : Int) == 0) = false := Dk.ne0 hc
    have HC := hide hc
    subst e2 e3 e5
    rw [e1, e4]
    clear e1 e4 hc HA HG1 HG2
    generalize Dk.chk ks ws = n at *
    go_wp2_with fail
    go_ret
    exact ⟨rfl, unhide HB4⟩
end Go.Proofs.Ytpekejebimkleaa
