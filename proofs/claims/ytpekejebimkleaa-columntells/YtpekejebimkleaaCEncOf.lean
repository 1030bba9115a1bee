/-
  The contract of the document's own EncodeOf. By the verifier.
-/
import Derived.Test.YtpekejebimkleaaCEncLem
namespace Go.Proofs.Ytpekejebimkleaa
open Go.RowKit
set_option linter.unusedVariables false

set_option maxRecDepth 100000 in
set_option maxHeartbeats 1600000 in
theorem EncodeOf_any (l : List Ev) (ad : Option Addr) (cap : Nat) (w : World) (hr : Cl.RE w ad l) (hl : l.length ≤ 4000) (hok : l.all Ev.ok = true) :
    Calls Try.prog 20 #[.slice ad l.length cap] w fun e w' => e = .returned (.string (Cl.str (Cl.encTo l 6))) ∧ Below w.heap.size w w' := by
  have ha : ∀ e ∈ l, e.ok = true := List.all_eq_true.1 hok
  have HA := hide ha
  have HR := hide hr
  clear hr hok ha
  go_enter Try.func20, Try.ntmps20
  go_wp2_with fail
  refine (Natural_any l.length _ (by omega)).mono ?_
  rintro e w1 ⟨rfl, hb1⟩
  have HB1 := hide hb1
  clear hb1
  go_wp2_with fail
  go_loopw [3, 4] (fun sv v wr => ∃ c : Nat, c ≤ 6 ∧ v = .int .i64 (c : Nat) ∧ sv = .string (Cl.str (Cl.encTo l c)) ∧ Below w.heap.size w wr) (fun _ v _ => 6 - (intOf v).toNat)
  case atStart => exact ⟨0, by omega, rfl, rfl, unhide HB1⟩
  case round =>
    obtain ⟨c, hc, rfl, rfl, hbe⟩ := hrel
    have HBE := hide hbe
    have hz := hbe.size
    clear hbe
    by_cases hlt : c < 6
    · have hc2 : (c : Int) < 6 := by omega
      obtain ⟨wo, hwo⟩ : ∃ wo, wo = wr := ⟨wr, rfl⟩
      subst hwo
      go_wp2_with fail
      go_loopw [3, 5, 6] (fun sv pv v wr => ∃ k : Nat, k ≤ l.length ∧ v = .int .i64 (k : Nat) ∧ pv = .int .i64 (Cl.lastC c 0 (l.take k)) ∧ sv = .string (Cl.str (Cl.encAt l c k)) ∧ Below w.heap.size w wr) (fun _ _ v _ => l.length - (intOf v).toNat)
      case atStart => exact ⟨0, by omega, rfl, rfl, by rw [Cl.encAt_zero], unhide HBE⟩
      case round =>
        obtain ⟨k, hk, rfl, rfl, rfl, hbe⟩ := hrel
        have HB := hide hbe
        have hzz := hbe.size
        clear hbe
        by_cases hkl : k < l.length
        · obtain ⟨t, ht⟩ : ∃ t, l[k]? = some t := ⟨l[k], List.getElem?_eq_getElem hkl⟩
          obtain ⟨b, o, rfl, hb, c0, c1, c2, c3, c4, c5⟩ := ((unhide HR).later (unhide HB) (Nat.le_refl _)).at_ k t ht
          have hto := (unhide HA) t (List.mem_of_getElem? ht)
          have hcol := Ev.ok_col hto c
          have hlast := Cl.last_in l c k (unhide HA)
          have HEN := hide (Cl.encAt_step l c k t ht)
          have HLN := hide (Cl.last_step l c k t ht)
          have hsz := Cl.str_size (Cl.encAt l c k)
          have hsl := Cl.encAt_len l c k hl (unhide HA) hlt
          have hbc := bcell (unhide HB)
          clear ht hto hbc
          have hk1 : (0 : Int) ≤ (k : Int) := by omega
          have hk2 : (k : Int) < (l.length : Int) := by omega
          generalize Cl.lastC c 0 (l.take k) = P at *
          go_wp2_with fail
          refine (Column_any t c _ hlt).mono ?_
          rintro e w2 ⟨rfl, hb2⟩
          have HB2 := hide ((unhide HB).trans (hb2.mono hzz))
          have hz2 := hb2.size
          have d0 := (hb2.cell (p := ⟨b, o + k * 6, none⟩) hb).trans c0
          have d1 := (hb2.cell (p := ⟨b, o + k * 6 + 1, none⟩) hb).trans c1
          have d2 := (hb2.cell (p := ⟨b, o + k * 6 + 2, none⟩) hb).trans c2
          have d3 := (hb2.cell (p := ⟨b, o + k * 6 + 3, none⟩) hb).trans c3
          have d4 := (hb2.cell (p := ⟨b, o + k * 6 + 4, none⟩) hb).trans c4
          have d5 := (hb2.cell (p := ⟨b, o + k * 6 + 5, none⟩) hb).trans c5
          clear hb2 c0 c1 c2 c3 c4 c5
          generalize hC : t.col c = C at *
          have HC := hide hC
          clear hC
          go_wp2_with fail
          refine (Column_any t c _ hlt).mono ?_
          rw [unhide HC]
          rintro e w3 ⟨rfl, hb3⟩
          have HB3 := hide ((unhide HB2).trans (hb3.mono (by omega)))
          have hz3 := hb3.size
          clear hb3 d0 d1 d2 d3 d4 d5
          have hzl := Cl.zig_lt (n := C - P) (by omega) (by omega)
          have hns := Cl.natB_zig (n := C - P) (by omega) (by omega)
          have hst := Cl.str_size (Cl.natB (Cl.zig (C - P)))
          by_cases hneg : C - P < 0
          · go_wp2_with fail
            have hzg : -2 * (C - P) - 1 = (Cl.zig (C - P) : Nat) := by unfold Cl.zig; rw [if_pos hneg]; omega
            rw [hzg]
            refine (Natural_any _ _ hzl).mono ?_
            rintro e w4 ⟨rfl, hb4⟩
            have HB4 := hide ((unhide HB3).trans (hb4.mono (by omega)))
            clear hb4
            go_wp2_with fail
            exact ⟨⟨k + 1, by omega, by go_num, by rw [unhide HLN], by rw [unhide HEN, Cl.str_append], unhide HB4⟩, by simp [intOf]; omega⟩
          · go_wp2_with fail
            have hzg : 2 * (C - P) = (Cl.zig (C - P) : Nat) := by unfold Cl.zig; rw [if_neg (by omega)]; omega
            rw [hzg]
            refine (Natural_any _ _ hzl).mono ?_
            rintro e w4 ⟨rfl, hb4⟩
            have HB4 := hide ((unhide HB3).trans (hb4.mono (by omega)))
            clear hb4
            go_wp2_with fail
            exact ⟨⟨k + 1, by omega, by go_num, by rw [unhide HLN], by rw [unhide HEN, Cl.str_append], unhide HB4⟩, by simp [intOf]; omega⟩
        · have hk2 : ¬ (k : Int) < (l.length : Int) := by omega
          have hkl2 : k = l.length := by omega
          subst hkl2
          go_wp2_with fail
          exact ⟨⟨c + 1, by omega, by go_num, by rw [Cl.encAt_all], unhide HB⟩, by simp [intOf]; omega⟩
    · have hc2 : ¬ (c : Int) < 6 := by omega
      have hc6 : c = 6 := by omega
      subst hc6
      go_wp2_with fail
      go_ret
      exact ⟨rfl, unhide HBE⟩
end Go.Proofs.Ytpekejebimkleaa
