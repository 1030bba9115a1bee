/-
  Contracts of Check of package disk and of the document's own CheckDisk. By the verifier.
-/
import Derived.Test.YtpabpcojiaklfaaDLeaf
namespace Go.Proofs.Ytpabpcojiaklfaa
open Go.RowKit
set_option linter.unusedVariables false

set_option maxHeartbeats 400000 in
theorem indexFunc_any (l : List ByteArray) (ad : Option Addr) (cap : Nat) (w : World) (hr : Dk.RK w ad l) (hl : l.length ≤ 600) :
    Calls Try.prog 85 #[.slice ad l.length cap, .func (.func 64) #[] #[]] w fun e w' => (∃ r : Int, e = .returned (.int .i64 r) ∧ decide (0 ≤ r) = !(l.all Dk.is32)) ∧ w' = w := by
  have HR := hide hr
  clear hr
  go_enter Try.func85, Try.ntmps85
  go_wp2_with fail
  go_loop [8] (fun v => ∃ k : Nat, k ≤ l.length ∧ v = .int .i64 k ∧ (∀ j s, j < k → l[j]? = some s → Dk.is32 s = true)) (fun v => l.length - (intOf v).toNat)
  case atStart => exact ⟨0, by omega, rfl, fun j s h => by omega⟩
  case round =>
    obtain ⟨k, hk, rfl, hall⟩ := hrel
    have HA := hide hall
    clear hall
    by_cases hlt : k < l.length
    · obtain ⟨t, ht⟩ : ∃ t, l[k]? = some t := ⟨l[k], List.getElem?_eq_getElem hlt⟩
      obtain ⟨b, o, rfl, hb, c0, hts⟩ := (unhide HR).at_ k t ht
      have HT := hide ht
      have HTS := hide hts
      clear ht hts
      have hk1 : (0 : Int) ≤ (k : Int) := by omega
      have hk2 : (k : Int) < (l.length : Int) := by omega
      go_wp2_with fail
      refine (notSector_any _ _ (unhide HTS)).mono ?_
      rintro e w' ⟨rfl, rfl⟩
      cases h3 : Dk.is32 t
      · have hq : l.all Dk.is32 = false := by rw [List.all_eq_false]; exact ⟨t, List.mem_of_getElem? (unhide HT), by rw [h3]; decide⟩
        have HQ := hide hq
        clear hq h3
        go_wp2_with fail
        go_ret
        exact ⟨⟨_, rfl, by rw [unhide HQ]; simp⟩, rfl⟩
      · have H3 := hide h3
        clear h3
        go_wp2_with fail
        go_round
        case rel =>
          refine ⟨k + 1, by omega, by go_num, ?_⟩
          intro j s hj hs
          by_cases e2 : j = k
          · subst e2
            have := unhide HT
            rw [this] at hs
            cases hs
            exact unhide H3
          · exact (unhide HA) j s (by omega) hs
        case measure => simp [intOf]; omega
    · have hq : l.all Dk.is32 = true := by
        rw [List.all_eq_true]
        intro t ht
        obtain ⟨j, hj⟩ := List.getElem?_of_mem ht
        exact (unhide HA) j t (by have := (List.getElem?_eq_some_iff.1 hj).1; omega) hj
      have HQ := hide hq
      clear hq
      go_wp2_with fail
      go_ret
      exact ⟨⟨_, rfl, by rw [unhide HQ]; rfl⟩, rfl⟩

set_option maxHeartbeats 400000 in
theorem containsFunc_any (l : List ByteArray) (ad : Option Addr) (cap : Nat) (w : World) (hr : Dk.RK w ad l) (hl : l.length ≤ 600) :
    Calls Try.prog 63 #[.slice ad l.length cap, .func (.func 64) #[] #[]] w fun e w' => e = .returned (.bool (!(l.all Dk.is32))) ∧ w' = w := by
  have HR := hide hr
  clear hr
  go_enter Try.func63, Try.ntmps63
  go_wp2_with fail
  refine (indexFunc_any l ad cap _ (unhide HR) hl).mono ?_
  rintro e w' ⟨⟨r, rfl, hd⟩, rfl⟩
  have HD := hide hd
  clear hd
  go_wp2_with fail
  all_goals
    go_ret
    refine ⟨?_, rfl⟩
    rw [← unhide HD]
    try rfl
  all_goals simp_all

set_option maxHeartbeats 800000 in
theorem Check_any (ka : Option Addr) (ks : List ByteArray) (kc : Nat) (wa : Option Addr) (ws : List (Int × ByteArray)) (wc : Nat) (w : World) (hk : Dk.RK w ka ks) (hw : Dk.RW w wa ws) :
    Calls Try.prog 35 #[.agg #[.slice ka ks.length kc, .slice wa ws.length wc]] w fun e w' => e = .returned (.int .i64 (Dk.chk ks ws : Nat)) ∧ Below w.heap.size w w' := by
  have HK := hide hk
  have HW := hide hw
  clear hk hw
  by_cases h1 : 1 ≤ ks.length ∧ ks.length ≤ 600
  · have hc : Dk.cnt (ks.length : Int) = true := by simp [Dk.cnt]; omega
    have HC := hide hc
    clear hc
    cases h2 : ks.all Dk.is32
    · have hR : Dk.chk ks ws = 1 := by unfold Dk.chk; rw [if_pos h1, h2]; rfl
      rw [hR]; clear hR
      have H2 := hide h2
      have H1 := hide h1.2
      clear h2 h1
      go_enter Try.func35, Try.ntmps35
      go_wp2_with fail
      refine (isCount_any _ _).mono ?_
      rintro e w' ⟨rfl, rfl⟩
      rw [unhide HC]
      go_wp2_with fail
      refine (containsFunc_any ks ka kc _ ((unhide HK).later ((Below.refl w.heap.size w).alloc (Nat.le_refl _) _) (Nat.le_refl _)) (unhide H1)).mono ?_
      rintro e w' ⟨rfl, rfl⟩
      rw [unhide H2]
      go_wp2_with fail
      go_ret
      exact ⟨rfl, (Below.refl _ _).alloc (Nat.le_refl _) _⟩
    · by_cases h3 : (600 : Int) < (ws.length : Int)
      · have hR : Dk.chk ks ws = 2 := by unfold Dk.chk; rw [if_pos h1, h2, if_pos rfl, if_pos (by omega)]
        rw [hR]; clear hR
        have H2 := hide h2
        have H1 := hide h1.2
        clear h2 h1
        go_enter Try.func35, Try.ntmps35
        go_wp2_with fail
        refine (isCount_any _ _).mono ?_
        rintro e w' ⟨rfl, rfl⟩
        rw [unhide HC]
        go_wp2_with fail
        refine (containsFunc_any ks ka kc _ ((unhide HK).later ((Below.refl w.heap.size w).alloc (Nat.le_refl _) _) (Nat.le_refl _)) (unhide H1)).mono ?_
        rintro e w' ⟨rfl, rfl⟩
        rw [unhide H2]
        go_wp2_with fail
        go_ret
        exact ⟨rfl, (Below.refl _ _).alloc (Nat.le_refl _) _⟩
      · have hR : Dk.chk ks ws = Dk.chkWs ks.length ws := by unfold Dk.chk; rw [if_pos h1, h2, if_pos rfl, if_neg (by omega)]
        rw [hR]; clear hR
        have H2 := hide h2
        have H1 := hide h1.2
        clear h2 h1
        have h3' : (ws.length : Int) ≤ 600 := by omega
        go_enter Try.func35, Try.ntmps35
        go_wp2_with fail
        refine (isCount_any _ _).mono ?_
        rintro e w' ⟨rfl, rfl⟩
        rw [unhide HC]
        go_wp2_with fail
        refine (containsFunc_any ks ka kc _ ((unhide HK).later ((Below.refl w.heap.size w).alloc (Nat.le_refl _) _) (Nat.le_refl _)) (unhide H1)).mono ?_
        rintro e w' ⟨rfl, rfl⟩
        rw [unhide H2]
        go_wp2_with fail
        go_loopw [21] (fun v wr => ∃ k : Nat, k ≤ ws.length ∧ v = .int .i64 k ∧ Dk.chkWs ks.length (ws.drop k) = Dk.chkWs ks.length ws ∧ Below w.heap.size w wr ∧ w.heap.size < wr.heap.size ∧ wr.cell? ⟨w.heap.size, 0, none⟩ = some (.slice ka ks.length kc) ∧ wr.cell? ⟨w.heap.size, 1, none⟩ = some (.slice wa ws.length wc)) (fun v _ => ws.length - (intOf v).toNat)
        case atStart => exact ⟨0, by omega, rfl, rfl, (Below.refl _ _).alloc (Nat.le_refl _) _, by simp, by simp, by simp⟩
        case round =>
          obtain ⟨k, hk, rfl, hcd, hbe, hz, c0, c1⟩ := hrel
          have HCD := hide hcd
          have HBE := hide hbe
          clear hcd hbe
          by_cases hlt : k < ws.length
          · obtain ⟨x, hx⟩ : ∃ x, ws[k]? = some x := ⟨ws[k], List.getElem?_eq_getElem hlt⟩
            obtain ⟨b, o, rfl, hb, d0, d1, hts⟩ := ((unhide HW).later (unhide HBE) (Nat.le_refl _)).at_ k x hx
            have hst := Dk.chkWs_drop ks.length ws k x hx
            have HST := hide hst
            have HTS := hide hts
            clear hst hx hts
            have hk1 : (0 : Int) ≤ (k : Int) := by omega
            have hk2 : (k : Int) < (ws.length : Int) := by omega
            go_wp2_with fail
            refine (checkWritten_any _ _ _ _ _ _ x _ (unhide HTS)).mono ?_
            rintro e w1 ⟨rfl, hb1⟩
            have hz1 := hb1.size
            simp at hz1
            have hcc : ∀ j, w1.cell? ⟨w.heap.size, j, none⟩ = wr.cell? ⟨w.heap.size, j, none⟩ := fun j => (below_two hb1).cell (p := ⟨w.heap.size, j, none⟩) hz
            have e0 : w1.cell? ⟨w.heap.size, 0, none⟩ = some (.slice ka ks.length kc) := (hcc 0).trans c0
            have e1 : w1.cell? ⟨w.heap.size, 1, none⟩ = some (.slice (some ⟨b, o, none⟩) ws.length wc) := (hcc 1).trans c1
            clear hcc
            have hbb := (unhide HBE).trans ((below_two hb1).mono (by omega))
            have HB1 := hide hbb
            clear hb1 hbb
            by_cases h0 : Dk.chkW ks.length x = 0
            · have h4 := unhide HST
              rw [if_pos h0] at h4
              have H4 := hide h4
              rw [h0]
              clear h4 HST h0
              go_wp2_with fail
              refine ⟨⟨k + 1, by omega, by go_num, by rw [← unhide HCD, unhide H4], unhide HB1, by omega, e0, e1⟩, by simp [intOf]; omega⟩
            · have h4 := unhide HST
              rw [if_neg h0] at h4
              have H4 := hide h4
              have h0' : (((Dk.chkW ks.length x : Nat) : Int) == 0) = false := by rw [beq_eq_false_iff_ne]; omega
              clear h4 HST h0
              go_wp2_with fail
              go_ret
              exact ⟨by rw [← unhide HCD, unhide H4]; rfl, unhide HB1⟩
          · have hkl : k = ws.length := by omega
            subst hkl
            go_wp2_with fail
            go_ret
            refine ⟨?_, unhide HBE⟩
            rw [← unhide HCD, List.drop_length]
            rfl
  · have hR : Dk.chk ks ws = 3 := by unfold Dk.chk; rw [if_neg h1]
    rw [hR]; clear hR
    have hc : Dk.cnt (ks.length : Int) = false := by simp [Dk.cnt]; omega
    have HC := hide hc
    clear hc h1
    go_enter Try.func35, Try.ntmps35
    go_wp2_with fail
    refine (isCount_any _ _).mono ?_
    rintro e w' ⟨rfl, rfl⟩
    rw [unhide HC]
    go_wp2_with fail
    go_ret
    exact ⟨rfl, (Below.refl _ _).alloc (Nat.le_refl _) _⟩
end Go.Proofs.Ytpabpcojiaklfaa
