/-
  The contract of the document's own CheckDisk. By the verifier.
-/
import Derived.Test.YtpabpcojiaklfaaDCheck
namespace Go.Proofs.Ytpabpcojiaklfaa
open Go.RowKit
set_option linter.unusedVariables false

theorem below_drewN {B : Nat} {w w' : World} (hb : Below B w w') (n : Nat) : Below B w (w'.drewN n) := by
  induction n with
  | zero => exact hb
  | succ n ih => exact ih.drew

set_option maxHeartbeats 800000 in
theorem CheckDisk_any (ka : Option Addr) (ks : List ByteArray) (kc : Nat) (wa : Option Addr) (ws : List (Int × ByteArray)) (wc : Nat) (w : World) (hk : Dk.RK w ka ks) (hw : Dk.RW w wa ws) :
    Calls Try.prog 11 #[.agg #[.slice ka ks.length kc, .slice wa ws.length wc]] w fun e w' => e = .returned (.int .i64 (Dk.chk ks ws : Nat)) ∧ Below w.heap.size w w' := by
  have HK := hide hk
  have HW := hide hw
  clear hk hw
  by_cases h1 : 1 ≤ ks.length ∧ ks.length ≤ 600
  · have hc : decide ((1 : Int) ≤ (ks.length : Int) ∧ (ks.length : Int) ≤ 600) = true := by simp; omega
    have HC := hide hc
    have HR := hide (show Dk.chk ks ws = if ks.all Dk.is32 then (if 600 < ws.length then 2 else Dk.chkWs ks.length ws) else 1 by unfold Dk.chk; rw [if_pos h1])
    have H1 := hide h1
    have hkl : (ks.length : Int) ≤ 600 := by omega
    clear hc h1
    go_enter Try.func11, Try.ntmps11
    go_wp2_with fail
    refine (between_any _ _ _ _).mono ?_
    rintro e w' ⟨rfl, rfl⟩
    rw [unhide HC]
    go_wp2_with fail
    have HK1 := hide ((unhide HK).later ((Below.refl w.heap.size w).alloc (Nat.le_refl _) (Obj.cells #[.slice ka ks.length kc, .slice wa ws.length wc] 29)) (Nat.le_refl _))
    go_loop [3] (fun v => ∃ k : Nat, k ≤ ks.length ∧ v = .int .i64 k ∧ (∀ j s, j < k → ks[j]? = some s → Dk.is32 s = true)) (fun v => ks.length - (intOf v).toNat)
    case atStart => exact ⟨0, by omega, rfl, fun j s h => by omega⟩
    case round =>
      obtain ⟨k, hk, rfl, hall⟩ := hrel
      have HA := hide hall
      clear hall
      by_cases hlt : k < ks.length
      · obtain ⟨t, ht⟩ : ∃ t, ks[k]? = some t := ⟨ks[k], List.getElem?_eq_getElem hlt⟩
        obtain ⟨b, o, rfl, hb, c0, hts⟩ := (unhide HK1).at_ k t ht
        have HT := hide ht
        unfold maxLen at hts
        clear ht
        have hk1 : (0 : Int) ≤ (k : Int) := by omega
        have hk2 : (k : Int) < (ks.length : Int) := by omega
        by_cases h3 : t.size = 32
        · have h3' : ((t.size : Int) != 32) = false := by simp; omega
          have H3 := hide (show Dk.is32 t = true by simp [Dk.is32, h3])
          clear h3
          go_wp2_with fail
          go_round
          case rel =>
            refine ⟨k + 1, by omega, by go_num, ?_⟩
            intro j s hj hs
            by_cases e2 : j = k
            · subst e2
              have := unhide HT
              rw [this] at hs
              cases hs
              exact unhide H3
            · exact (unhide HA) j s (by omega) hs
          case measure => simp [intOf]; omega
        · have h3' : ((t.size : Int) != 32) = true := by simp; omega
          have hq : ks.all Dk.is32 = false := by rw [List.all_eq_false]; exact ⟨t, List.mem_of_getElem? (unhide HT), by simp [Dk.is32, h3]⟩
          have HQ := hide hq
          clear hq h3
          go_wp2_with fail
          go_ret
          exact ⟨by rw [unhide HR, unhide HQ]; rfl, (Below.refl _ _).alloc (Nat.le_refl _) _⟩
      · have hq : ks.all Dk.is32 = true := by
          rw [List.all_eq_true]
          intro t ht
          obtain ⟨j, hj⟩ := List.getElem?_of_mem ht
          exact (unhide HA) j t (by have := (List.getElem?_eq_some_iff.1 hj).1; omega) hj
        have HQ := hide hq
        clear hq
        by_cases h4 : (600 : Int) < (ws.length : Int)
        · go_wp2_with fail
          go_ret
          exact ⟨by rw [unhide HR, unhide HQ, if_pos rfl, if_pos (by omega)]; rfl, (Below.refl _ _).alloc (Nat.le_refl _) _⟩
        · have hwl : (ws.length : Int) ≤ 600 := by omega
          have hr2 := unhide HR
          rw [unhide HQ, if_pos rfl, if_neg (by omega)] at hr2
          have HR2 := hide hr2
          clear hr2
          go_wp2_with fail
          go_loopw [4] (fun v wr => ∃ k : Nat, k ≤ ws.length ∧ v = .int .i64 k ∧ Dk.chkWs ks.length (ws.drop k) = Dk.chkWs ks.length ws ∧ Below w.heap.size w wr ∧ w.heap.size < wr.heap.size ∧ wr.cell? ⟨w.heap.size, 0, none⟩ = some (.slice ka ks.length kc) ∧ wr.cell? ⟨w.heap.size, 1, none⟩ = some (.slice wa ws.length wc)) (fun v _ => ws.length - (intOf v).toNat)
          case atStart => exact ⟨0, by omega, rfl, rfl, (Below.refl _ _).alloc (Nat.le_refl _) _, by simp, by simp, by simp⟩
          case round =>
            obtain ⟨k, hk, rfl, hcd, hbe, hz, c0, c1⟩ := hrel
            have HCD := hide hcd
            have HBE := hide hbe
            clear hcd hbe
            by_cases hlt : k < ws.length
            · obtain ⟨x, hx⟩ : ∃ x, ws[k]? = some x := ⟨ws[k], List.getElem?_eq_getElem hlt⟩
              obtain ⟨b, o, rfl, hb, d0, d1, hts⟩ := ((unhide HW).later (unhide HBE) (Nat.le_refl _)).at_ k x hx
              have hst := Dk.chkWs_drop ks.length ws k x hx
              have HST := hide hst
              clear hst hx
              unfold maxLen at hts
              have hk1 : (0 : Int) ≤ (k : Int) := by omega
              have hk2 : (k : Int) < (ws.length : Int) := by omega
              by_cases hi : 0 ≤ x.1 ∧ x.1 ≤ (ks.length : Int) - 1
              · have hi' : decide (0 ≤ x.1 ∧ x.1 ≤ (ks.length : Int) - 1) = true := by simp; omega
                have hin : Dk.inn ks.length x.1 = true := by simp [Dk.inn]; omega
                have HIN := hide hin
                clear hi hin
                by_cases h3 : x.2.size = 32
                · have h3' : ((x.2.size : Int) != 32) = false := by simp; omega
                  have h5 := unhide HST
                  have h6 : Dk.chkW ks.length x = 0 := by unfold Dk.chkW; rw [unhide HIN]; simp [Dk.is32, h3]
                  rw [if_pos h6] at h5
                  have H5 := hide h5
                  clear h5 h6 h3 HST
                  go_wp2_with fail
                  go_quiet ((go_at_call 37; exact Calls.quiet_of_same (between_any _ _ _ _)))
                  rw [hi']
                  go_wp2_with fail
                  refine ⟨⟨k + 1, by omega, by go_num, by rw [← unhide HCD, unhide H5], below_drewN (unhide HBE) _, by simpa using hz, by simpa using c0, by simpa using c1⟩, by simp [intOf]; omega⟩
                · have h3' : ((x.2.size : Int) != 32) = true := by simp; omega
                  have h5 := unhide HST
                  have h6 : Dk.chkW ks.length x = 1 := by unfold Dk.chkW; rw [unhide HIN]; simp [Dk.is32, h3]
                  rw [if_neg (by omega), h6] at h5
                  have H5 := hide h5
                  clear h5 h6 h3 HST
                  go_wp2_with fail
                  go_quiet ((go_at_call 37; exact Calls.quiet_of_same (between_any _ _ _ _)))
                  rw [hi']
                  go_wp2_with fail
                  go_ret
                  exact ⟨by rw [unhide HR2, ← unhide HCD, unhide H5]; rfl, below_drewN (unhide HBE) _⟩
              · have hi' : decide (0 ≤ x.1 ∧ x.1 ≤ (ks.length : Int) - 1) = false := by simp; omega
                have h5 := unhide HST
                have h6 : Dk.chkW ks.length x = 5 := by unfold Dk.chkW; rw [if_neg (by simp [Dk.inn]; omega)]
                rw [if_neg (by omega), h6] at h5
                have H5 := hide h5
                clear h5 h6 hi HST
                go_wp2_with fail
                go_quiet ((go_at_call 37; exact Calls.quiet_of_same (between_any _ _ _ _)))
                rw [hi']
                go_wp2_with fail
                go_ret
                exact ⟨by rw [unhide HR2, ← unhide HCD, unhide H5]; rfl, below_drewN (unhide HBE) _⟩
            · have hkl : k = ws.length := by omega
              subst hkl
              go_wp2_with fail
              go_ret
              refine ⟨?_, unhide HBE⟩
              rw [unhide HR2, ← unhide HCD, List.drop_length]
              rfl
  · have hR : Dk.chk ks ws = 3 := by unfold Dk.chk; rw [if_neg h1]
    rw [hR]; clear hR
    have hc : decide ((1 : Int) ≤ (ks.length : Int) ∧ (ks.length : Int) ≤ 600) = false := by simp; omega
    have HC := hide hc
    clear hc h1
    go_enter Try.func11, Try.ntmps11
    go_wp2_with fail
    refine (between_any _ _ _ _).mono ?_
    rintro e w' ⟨rfl, rfl⟩
    rw [unhide HC]
    go_wp2_with fail
    go_ret
    exact ⟨rfl, (Below.refl _ _).alloc (Nat.le_refl _) _⟩
end Go.Proofs.Ytpabpcojiaklfaa
