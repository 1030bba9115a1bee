/-
  The contract of the document's own SameDisk, where two disks are the same; diskIs of the laws. By the verifier.
-/
import Derived.Test.YtpabpcojiaklfaaDCrashOf
namespace Go.Proofs.Ytpabpcojiaklfaa
open Go.RowKit
set_option linter.unusedVariables false

set_option maxHeartbeats 1600000 in
theorem SameDisk_eq (ka kb : Option Addr) (ks : List ByteArray) (kc kd : Nat) (wa wb : Option Addr) (ws : List (Int × ByteArray)) (wc wd : Nat) (w : World) (hk : Dk.RK w ka ks) (hk2 : Dk.RK w kb ks) (hw : Dk.RW w wa ws) (hw2 : Dk.RW w wb ws) (h1 : ks.length ≤ 600) (h2 : ws.length ≤ 600) :
    Calls Try.prog 27 #[.agg #[.slice ka ks.length kc, .slice wa ws.length wc], .agg #[.slice kb ks.length kd, .slice wb ws.length wd]] w fun e w' => e = .returned (.bool true) ∧ Below w.heap.size w w' := by
  have HK := hide hk
  have HW := hide hw
  have HK2 := hide hk2
  have HW2 := hide hw2
  have hkl : (ks.length : Int) ≤ 600 := by omega
  have hwl : (ws.length : Int) ≤ 600 := by omega
  have g1 : ((ks.length : Int) != (ks.length : Int)) = false := by simp
  have g2 : ((ws.length : Int) != (ws.length : Int)) = false := by simp
  have HB0 := hide (((Below.refl w.heap.size w).alloc (Nat.le_refl _) (Obj.cells #[.slice ka ks.length kc, .slice wa ws.length wc] 29)).alloc (by simp only [World.size_alloc]; omega) (Obj.cells #[.slice kb ks.length kd, .slice wb ws.length wd] 29))
  clear hk hk2 hw hw2
  go_enter Try.func27, Try.ntmps27
  go_wp2_with fail
  go_loopw [5] (fun v wr => ∃ k : Nat, k ≤ ks.length ∧ v = .int .i64 k ∧ Below w.heap.size w wr ∧ w.heap.size + 1 < wr.heap.size ∧ wr.cell? ⟨w.heap.size, 0, none⟩ = some (.slice ka ks.length kc) ∧ wr.cell? ⟨w.heap.size, 1, none⟩ = some (.slice wa ws.length wc) ∧ wr.cell? ⟨w.heap.size + 1, 0, none⟩ = some (.slice kb ks.length kd) ∧ wr.cell? ⟨w.heap.size + 1, 1, none⟩ = some (.slice wb ws.length wd)) (fun v _ => ks.length - (intOf v).toNat)
  case atStart => exact ⟨0, by omega, rfl, unhide HB0, by simp, by go_simp, by go_simp, by go_simp, by go_simp⟩
  case round =>
    obtain ⟨k, hk, rfl, hbe, hz, c0, c1, c2, c3⟩ := hrel
    have HBE := hide hbe
    clear hbe
    by_cases hlt : k < ks.length
    · obtain ⟨s, hs⟩ : ∃ s, ks[k]? = some s := ⟨ks[k], List.getElem?_eq_getElem hlt⟩
      obtain ⟨b, o, rfl, hb, d0, _⟩ := ((unhide HK).later (unhide HBE) (Nat.le_refl _)).at_ k s hs
      obtain ⟨b2, o2, rfl, hb2, d2, _⟩ := ((unhide HK2).later (unhide HBE) (Nat.le_refl _)).at_ k s hs
      have hk1 : (0 : Int) ≤ (k : Int) := by omega
      have hk2 : (k : Int) < (ks.length : Int) := by omega
      have gs : (s.toList != s.toList) = false := by simp
      clear hs
      go_wp2_with fail
      go_quiet (fail)
      go_wp2_with fail
      refine ⟨⟨k + 1, by omega, by go_num, below_drewN (unhide HBE) _, by simpa using hz, by simpa using c0, by simpa using c1, by simpa using c2, by simpa using c3⟩, by simp [intOf]; omega⟩
    · go_wp2_with fail
      go_loopw [6] (fun v wr => ∃ k : Nat, k ≤ ws.length ∧ v = .int .i64 k ∧ Below w.heap.size w wr ∧ w.heap.size + 1 < wr.heap.size ∧ wr.cell? ⟨w.heap.size, 0, none⟩ = some (.slice ka ks.length kc) ∧ wr.cell? ⟨w.heap.size, 1, none⟩ = some (.slice wa ws.length wc) ∧ wr.cell? ⟨w.heap.size + 1, 0, none⟩ = some (.slice kb ks.length kd) ∧ wr.cell? ⟨w.heap.size + 1, 1, none⟩ = some (.slice wb ws.length wd)) (fun v _ => ws.length - (intOf v).toNat)
      case atStart => exact ⟨0, by omega, rfl, unhide HBE, hz, c0, c1, c2, c3⟩
      case round =>
        obtain ⟨m, hm, rfl, hbe, hz, c0, c1, c2, c3⟩ := hrel
        have HBM := hide hbe
        clear hbe
        by_cases hml : m < ws.length
        · obtain ⟨x, hx⟩ : ∃ x, ws[m]? = some x := ⟨ws[m], List.getElem?_eq_getElem hml⟩
          obtain ⟨b, o, rfl, hb, d0, d1, _⟩ := ((unhide HW).later (unhide HBM) (Nat.le_refl _)).at_ m x hx
          obtain ⟨b2, o2, rfl, hb2, d2, d3, _⟩ := ((unhide HW2).later (unhide HBM) (Nat.le_refl _)).at_ m x hx
          have hk1 : (0 : Int) ≤ (m : Int) := by omega
          have hk2 : (m : Int) < (ws.length : Int) := by omega
          have gx : (x.1 == x.1) = true := by simp
          have gs : (x.2.toList == x.2.toList) = true := by simp
          clear hx
          go_wp2_with fail
          go_quiet (fail)
          go_wp2_with fail
          refine ⟨⟨m + 1, by omega, by go_num, below_drewN (unhide HBM) _, by simpa using hz, by simpa using c0, by simpa using c1, by simpa using c2, by simpa using c3⟩, by simp [intOf]; omega⟩
        · go_wp2_with fail
          go_ret
          exact ⟨rfl, unhide HBM⟩
end Go.Proofs.Ytpabpcojiaklfaa
