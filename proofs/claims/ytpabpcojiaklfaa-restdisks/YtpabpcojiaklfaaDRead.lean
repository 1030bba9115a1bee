/-
  Contracts of Read of package disk and of the document's own ReadOf. By the verifier.
-/
import Derived.Test.YtpabpcojiaklfaaDOps
namespace Go.Proofs.Ytpabpcojiaklfaa
open Go.RowKit
set_option linter.unusedVariables false

/-- What is read of a sector. -/
def Dk.rd (ks : List ByteArray) (ws : List (Int × ByteArray)) (n : Int) : ByteArray × Nat :=
  if Dk.chk ks ws = 0 then (if Dk.inn ks.length n then (((Dk.keptTo (fun _ => true) ks ws ws.length)[n.toNat]?).getD ⟨#[]⟩, 0) else (⟨#[]⟩, 5)) else (⟨#[]⟩, Dk.chk ks ws)

set_option maxHeartbeats 800000 in
theorem Read_any (ka : Option Addr) (ks : List ByteArray) (kc : Nat) (wa : Option Addr) (ws : List (Int × ByteArray)) (wc : Nat) (n : Int) (w : World) (hk : Dk.RK w ka ks) (hw : Dk.RW w wa ws) :
    Calls Try.prog 34 #[.agg #[.slice ka ks.length kc, .slice wa ws.length wc], .int .i64 n] w fun e w' => e = .returned (.tuple #[.string (Dk.rd ks ws n).1, .int .i64 ((Dk.rd ks ws n).2 : Nat)]) ∧ Below w.heap.size w w' := by
  have hb0 := (Below.refl w.heap.size w).alloc (Nat.le_refl _) (Obj.cells #[.slice ka ks.length kc, .slice wa ws.length wc] 29)
  have HK := hide (hk.later hb0 (Nat.le_refl _))
  have HW := hide (hw.later hb0 (Nat.le_refl _))
  clear hk hw
  by_cases hok : Dk.chk ks ws = 0
  · cases hin : Dk.inn ks.length n
    · have hR : Dk.rd ks ws n = (⟨#[]⟩, 5) := by unfold Dk.rd; rw [if_pos hok, hin]; rfl
      rw [hR]; clear hR
      have HIN := hide hin
      have HOK := hide hok
      have HB0 := hide hb0
      clear hin hok hb0
      go_enter Try.func34, Try.ntmps34
      go_wp2_with fail
      refine (Flush_ok ka ks kc wa ws wc _ (unhide HK) (unhide HW) (unhide HOK)).mono ?_
      rintro e w1 ⟨g, cap', rfl, hrk, hb⟩
      obtain ⟨hc, hf⟩ := bcell hb
      have hz := hb.size
      simp at hz
      have hzl : w.heap.size < w1.heap.size := by omega
      have c0 : w1.cell? ⟨w.heap.size, 0, none⟩ = some (.slice ka ks.length kc) := (hc _ _ (by simp)).trans (by go_simp)
      have c1 : w1.cell? ⟨w.heap.size, 1, none⟩ = some (.slice wa ws.length wc) := (hc _ _ (by simp)).trans (by go_simp)
      have HB := hide ((unhide HB0).trans (hb.mono (by simp)))
      clear hb hc hf hrk
      go_wp2_with fail
      refine (has_any ka ks.length kc wa ws.length wc n _).mono ?_
      rintro e w2 ⟨rfl, hb2⟩
      rw [unhide HIN]
      have HB2 := hide (((unhide HB).alloc (by omega) _).trans (hb2.mono (by simp; omega)))
      clear hb2
      go_wp2_with fail
      go_ret2
      exact ⟨rfl, unhide HB2⟩
    · obtain ⟨h0, hn⟩ : 0 ≤ n ∧ n < (ks.length : Int) := by simpa [Dk.inn] using hin
      obtain ⟨s, hs⟩ : ∃ s, (Dk.keptTo (fun _ => true) ks ws ws.length)[n.toNat]? = some s := ⟨_, List.getElem?_eq_getElem (by rw [Dk.keptTo_length]; omega)⟩
      have hR : Dk.rd ks ws n = (s, 0) := by unfold Dk.rd; rw [if_pos hok, hin, if_pos rfl, hs]; rfl
      rw [hR]; clear hR
      have HIN := hide hin
      have HOK := hide hok
      have HB0 := hide hb0
      have HS := hide hs
      clear hin hok hb0 hs
      go_enter Try.func34, Try.ntmps34
      go_wp2_with fail
      refine (Flush_ok ka ks kc wa ws wc _ (unhide HK) (unhide HW) (unhide HOK)).mono ?_
      rintro e w1 ⟨g, cap', rfl, hrk, hb⟩
      obtain ⟨hc, hf⟩ := bcell hb
      have hz := hb.size
      simp at hz
      have hzl : w.heap.size < w1.heap.size := by omega
      have c0 : w1.cell? ⟨w.heap.size, 0, none⟩ = some (.slice ka ks.length kc) := (hc _ _ (by simp)).trans (by go_simp)
      have c1 : w1.cell? ⟨w.heap.size, 1, none⟩ = some (.slice wa ws.length wc) := (hc _ _ (by simp)).trans (by go_simp)
      obtain ⟨g', o', hg, hgl, hgc, _⟩ := hrk.at_ _ _ (unhide HS)
      cases hg
      rw [Nat.zero_add] at hgc
      have HB := hide ((unhide HB0).trans (hb.mono (by simp)))
      clear hb hc hf hrk
      go_wp2_with fail
      refine (has_any ka ks.length kc wa ws.length wc n _).mono ?_
      rintro e w2 ⟨rfl, hb2⟩
      rw [unhide HIN]
      obtain ⟨hc2, hf2⟩ := bcell hb2
      have hz2 := hb2.size
      simp at hz2
      have d0 : w2.cell? ⟨w1.heap.size, 0, none⟩ = some (.slice (some ⟨g, 0, none⟩) ks.length cap') := (hc2 _ _ (by simp)).trans (by go_simp)
      have d1 : w2.cell? ⟨g, n.toNat, none⟩ = some (.string s) := (hc2 _ _ (by simp; omega)).trans (Dk.cell_alloc hgc)
      have HB2 := hide (((unhide HB).alloc (by omega) _).trans (hb2.mono (by simp; omega)))
      clear hb2 hc2 hf2
      go_wp2_with fail
      go_ret2
      exact ⟨rfl, unhide HB2⟩
  · have hR : Dk.rd ks ws n = (⟨#[]⟩, Dk.chk ks ws) := by unfold Dk.rd; rw [if_neg hok]
    rw [hR]; clear hR
    have h0 := Dk.ne0 hok
    have HOK := hide hok
    have HB0 := hide hb0
    clear hok hb0
    go_enter Try.func34, Try.ntmps34
    go_wp2_with fail
    refine (Flush_err ka ks kc wa ws wc _ (unhide HK) (unhide HW) (unhide HOK)).mono ?_
    rintro e w1 ⟨rfl, hb⟩
    have hz := hb.size
    simp at hz
    have HB := hide ((unhide HB0).trans (hb.mono (by simp)))
    clear hb
    go_wp2_with fail
    go_ret2
    exact ⟨rfl, (unhide HB).alloc (by omega) _⟩
end Go.Proofs.Ytpabpcojiaklfaa
