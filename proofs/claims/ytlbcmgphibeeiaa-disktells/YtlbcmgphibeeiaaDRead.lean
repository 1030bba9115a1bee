/-
  Contracts of Read of package disk and of the document's own ReadOf. By the verifier.
-/
import Derived.Test.YtlbcmgphibeeiaaDOps
namespace Go.Proofs.Ytlbcmgphibeeiaa
open Go.RowKit
set_option linter.unusedVariables false

/-- What is read of a sector. -/
def Dk.rd (ks : List ByteArray) (ws : List (Int × ByteArray)) (n : Int) : ByteArray × Nat :=
  if Dk.chk ks ws = 0 then (if Dk.inn ks.length n then (((Dk.keptTo (fun _ => true) ks ws ws.length)[n.toNat]?).getD ⟨#[]⟩, 0) else (⟨#[]⟩, 5)) else (⟨#[]⟩, Dk.chk ks ws)

set_option maxHeartbeats 800000 in
theorem Read_any (ka : Option Addr) (ks : List ByteArray) (kc : Nat) (wa : Option Addr) (ws : List (Int × ByteArray)) (wc : Nat) (n : Int) (w : World) (hk : Dk.RK w ka ks) (hw : Dk.RW w wa ws) :
    Calls Try.prog 6 #[.agg #[.slice ka ks.length kc, .slice wa ws.length wc], .int .i64 n] w fun e w' => e = .returned (.tuple #[.string (Dk.rd ks ws n).1, .int .i64 ((Dk.rd ks ws n).2 : Nat)]) ∧ Below w.heap.size w w' := by
  have hb0 := (Below.refl w.heap.size w).alloc (Nat.le_refl _) (Obj.cells #[.slice ka ks.length kc, .slice wa ws.length wc] 25)
  have HK := hide (hk.later hb0 (Nat.le_refl _))
  have HW := hide (hw.later hb0 (Nat.le_refl _))
  clear hk hw
  by_cases hok : Dk.chk ks ws = 0
  · cases hin : Dk.inn ks.length n
    · have hR : Dk.rd ks ws n = (⟨#[]⟩, 5) := by unfold Dk.rd; rw [if_pos hok, hin]; rfl
      rw [hR]; clear hR
      have HIN := hide hin
      have HOK := hide hok
      have HB0 := hide hb0
      clear hin hok hb0
      go_enter Try.func6, Try.ntmps6
      go_wp2_with fail
      refine (Flush_ok ka ks kc wa ws wc _ (unhide HK) (unhide HW) (unhide HOK)).mono ?_
      rintro e w1 ⟨g, cap', rfl, hrk, hb⟩
      obtain ⟨hc, hf⟩ := bcell hb
      have hz := hb.size
      simp at hz
      have hzl : w.heap.size < w1.heap.size := by omega
      have c0 : w1.cell? ⟨w.heap.size, 0, none⟩ = some (.slice ka ks.length kc) := (hc _ _ (by simp)).trans (by go_simp)
      have c1 : w1.cell? ⟨w.heap.size, 1, none⟩ = some (.slice wa ws.length wc) := (hc _ _ (by simp)).trans (by go_simp)
      have HB := hide ((unhide HB0).trans (hb.mono (by simp)))
      clear hb hc hf hrk
      go_wp2_with fail
      refine (has_any ka ks.length kc wa ws.length wc n _).mono ?_
      rintro e w2 ⟨rfl, hb2⟩
      rw [unhide HIN]
      have HB2 := hide (((unhide HB).alloc (by omega) _).trans (hb2.mono (by simp; omega)))
      clear hb2
      go_wp2_with fail
      go_ret2
      exact ⟨rfl, unhide HB2⟩
    · obtain ⟨h0, hn⟩ : 0 ≤ n ∧ n < (ks.length : Int) := by simpa [Dk.inn] using hin
      obtain ⟨s, hs⟩ : ∃ s, (Dk.keptTo (fun _ => true) ks ws ws.length)[n.toNat]? = some s := ⟨_, List.getElem?_eq_getElem (by rw [Dk.keptTo_length]; omega)⟩
      have hR : Dk.rd ks ws n = (s, 0) := by unfold Dk.rd; rw [if_pos hok, hin, if_pos rfl, hs]; rfl
      rw [hR]; clear hR
      have HIN := hide hin
      have HOK := hide hok
      have HB0 := hide hb0
      have HS := hide hs
      clear hin hok hb0 hs
      go_enter Try.func6, Try.ntmps6
      go_wp2_with fail
      refine (Flush_ok ka ks kc wa ws wc _ (unhide HK) (unhide HW) (unhide HOK)).mono ?_
      rintro e w1 ⟨g, cap', rfl, hrk, hb⟩
      obtain ⟨hc, hf⟩ := bcell hb
      have hz := hb.size
      simp at hz
      have hzl : w.heap.size < w1.heap.size := by omega
      have c0 : w1.cell? ⟨w.heap.size, 0, none⟩ = some (.slice ka ks.length kc) := (hc _ _ (by simp)).trans (by go_simp)
      have c1 : w1.cell? ⟨w.heap.size, 1, none⟩ = some (.slice wa ws.length wc) := (hc _ _ (by simp)).trans (by go_simp)
      obtain ⟨g', o', hg, hgl, hgc, _⟩ := hrk.at_ _ _ (unhide HS)
      cases hg
      rw [Nat.zero_add] at hgc
      have HB := hide ((unhide HB0).trans (hb.mono (by simp)))
      clear hb hc hf hrk
      go_wp2_with fail
      refine (has_any ka ks.length kc wa ws.length wc n _).mono ?_
      rintro e w2 ⟨rfl, hb2⟩
      rw [unhide HIN]
      obtain ⟨hc2, hf2⟩ := bcell hb2
      have hz2 := hb2.size
      simp at hz2
      have d0 : w2.cell? ⟨w1.heap.size, 0, none⟩ = some (.slice (some ⟨g, 0, none⟩) ks.length cap') := (hc2 _ _ (by simp)).trans (by go_simp)
      have d1 : w2.cell? ⟨g, n.toNat, none⟩ = some (.string s) := (hc2 _ _ (by simp; omega)).trans (Dk.cell_alloc hgc)
      have HB2 := hide (((unhide HB).alloc (by omega) _).trans (hb2.mono (by simp; omega)))
      clear hb2 hc2 hf2
      go_wp2_with fail
      go_ret2
      exact ⟨rfl, unhide HB2⟩
  · have hR : Dk.rd ks ws n = (⟨#[]⟩, Dk.chk ks ws) := by unfold Dk.rd; rw [if_neg hok]
    rw [hR]; clear hR
    have h0 := Dk.ne0 hok
    have HOK := hide hok
    have HB0 := hide hb0
    clear hok hb0
    go_enter Try.func6, Try.ntmps6
    go_wp2_with fail
    refine (Flush_err ka ks kc wa ws wc _ (unhide HK) (unhide HW) (unhide HOK)).mono ?_
    rintro e w1 ⟨rfl, hb⟩
    have hz := hb.size
    simp at hz
    have HB := hide ((unhide HB0).trans (hb.mono (by simp)))
    clear hb
    go_wp2_with fail
    go_ret2
    exact ⟨rfl, (unhide HB).alloc (by omega) _⟩

set_option maxHeartbeats 800000 in
theorem ReadOf_any (ka : Option Addr) (ks : List ByteArray) (kc : Nat) (wa : Option Addr) (ws : List (Int × ByteArray)) (wc : Nat) (n : Int) (s : ByteArray) (w : World) (hk : Dk.RK w ka ks) (hw : Dk.RW w wa ws) (hok : Dk.chk ks ws = 0) (hin : Dk.inn ks.length n = true) (hs : (Dk.keptTo (fun _ => true) ks ws ws.length)[n.toNat]? = some s) :
    Calls Try.prog 12 #[.agg #[.slice ka ks.length kc, .slice wa ws.length wc], .int .i64 n] w fun e w' => e = .returned (.string s) ∧ Below w.heap.size w w' := by
  have hb0 := (Below.refl w.heap.size w).alloc (Nat.le_refl _) (Obj.cells #[.slice ka ks.length kc, .slice wa ws.length wc] 25)
  have HK := hide (hk.later hb0 (Nat.le_refl _))
  have HW := hide (hw.later hb0 (Nat.le_refl _))
  clear hk hw
  obtain ⟨h0, hn⟩ : 0 ≤ n ∧ n < (ks.length : Int) := by simpa [Dk.inn] using hin
  obtain ⟨h1, h2, h3, h4, h5⟩ := Dk.chk_ok hok
  have HW5 := hide (Dk.chkWs_mem _ _ h5)
  have HS := hide hs
  have hwl : (ws.length : Int) ≤ 600 := by omega
  obtain ⟨s0, hs0⟩ : ∃ s0, ks[n.toNat]? = some s0 := ⟨_, List.getElem?_eq_getElem (by omega)⟩
  obtain ⟨b, o, rfl, hb, c0, _⟩ := (unhide HK).at_ _ _ hs0
  have HS0 := hide hs0
  have HB0 := hide hb0
  clear hb0 hs hs0 h3 h5 hok hin
  go_enter Try.func12, Try.ntmps12
  go_wp2_with fail
  go_loop [5, 6] (fun sv v => ∃ (k : Nat) (t : ByteArray), k ≤ ws.length ∧ v = .int .i64 k ∧ sv = .string t ∧ (Dk.keptTo (fun _ => true) ks ws k)[n.toNat]? = some t) (fun _ v => ws.length - (intOf v).toNat)
  case atStart => exact ⟨0, s0, by omega, rfl, rfl, unhide HS0⟩
  case round =>
    obtain ⟨k, t, hk, rfl, rfl, ht⟩ := hrel
    have HT := hide ht
    clear ht
    by_cases hlt : k < ws.length
    · obtain ⟨x, hx⟩ : ∃ x, ws[k]? = some x := ⟨ws[k], List.getElem?_eq_getElem hlt⟩
      obtain ⟨b2, o2, rfl, hb2, d0, d1, hts⟩ := (unhide HW).at_ k x hx
      obtain ⟨hx0, hx1, hx2⟩ := (unhide HW5) x (List.mem_of_getElem? hx)
      have hst : Dk.keptTo (fun _ => true) ks ws (k + 1) = (Dk.keptTo (fun _ => true) ks ws k).set x.1.toNat x.2 := (Dk.keptTo_step (fun _ => true) ks ws k x hx).trans (if_pos rfl)
      have HST := hide hst
      have hlen := Dk.keptTo_length (fun _ => true) ks ws k
      clear hst hx hts
      have hk1 : (0 : Int) ≤ (k : Int) := by omega
      have hk2 : (k : Int) < (ws.length : Int) := by omega
      by_cases he : x.1 = n
      · have he' : (x.1 == n) = true := by rw [beq_iff_eq]; exact he
        have HE := hide he
        clear he
        have HL := hide hlen
        clear hlen
        go_wp2_with fail
        go_round
        case rel =>
          refine ⟨k + 1, x.2, by omega, by go_num, rfl, ?_⟩
          rw [unhide HST, unhide HE]
          exact List.getElem?_set_self (by have := unhide HL; omega)
        case measure => simp [intOf]; omega
      · have he' : (x.1 == n) = false := by rw [beq_eq_false_iff_ne]; exact he
        have HE := hide he
        clear he
        clear hlen
        go_wp2_with fail
        go_round
        case rel =>
          refine ⟨k + 1, t, by omega, by go_num, rfl, ?_⟩
          rw [unhide HST, List.getElem?_set_ne (by have := unhide HE; omega)]
          exact unhide HT
        case measure => simp [intOf]; omega
    · have hkl : k = ws.length := by omega
      subst hkl
      have hts : t = s := by have := unhide HT; rw [unhide HS] at this; exact (Option.some.inj this).symm
      subst hts
      go_wp2_with fail
      go_ret
      exact ⟨rfl, unhide HB0⟩
end Go.Proofs.Ytlbcmgphibeeiaa
