/-
  SameTokens of the document's answer answers true where the tokens are the same. By the verifier.
-/
import Derived.Test.YtnfigfedijhiiaaPlaces
namespace Go.Proofs.Ytnfigfedijhiiaa
open Go.RowKit
set_option linter.unusedVariables false

set_option maxRecDepth 100000 in
set_option maxHeartbeats 1600000 in
theorem same_any (l m : List (Int × Int × ByteArray)) (ad bd : Option Addr) (c1 c2 : Nat) (at_ : Bool) (w : World) (ha : Tk.Reads w ad l) (hb : Tk.Reads w bd m) (hl : l.length = m.length) (hlen : l.length ≤ 35184372088832)
    (hsame : ∀ (i : Nat) t u, l[i]? = some t → m[i]? = some u → t.1 = u.1 ∧ t.2.2 = u.2.2 ∧ (at_ = true → t.2.1 = u.2.1)) :
    Calls Try.prog 10 #[.slice ad l.length c1, .slice bd m.length c2, .bool at_] w fun e w' => e = .returned (.bool true) ∧ Below w.heap.size w w' := by
  rw [← hl]
  have HL := hide hl
  have HA := hide ha
  have HB := hide hb
  have HS := hide hsame
  clear ha hb hsame hl
  go_enter Try.func10, Try.ntmps10
  go_wp2_with fail
  go_loopw [7] (fun iv wr => ∃ k : Nat, k ≤ l.length ∧ iv = .int .i64 k ∧ Below w.heap.size w wr) (fun iv _ => l.length - (intOf iv).toNat)
  case atStart => exact ⟨0, Nat.zero_le _, rfl, Below.refl _ _⟩
  case round =>
    obtain ⟨k, hk, rfl, hbe⟩ := hrel
    have HBE := hide hbe
    clear hbe
    by_cases hlt : k < l.length
    · obtain ⟨t, ht⟩ : ∃ t, l[k]? = some t := ⟨l[k], List.getElem?_eq_getElem hlt⟩
      have hlt2 : k < m.length := by have := unhide HL; omega
      obtain ⟨u, hu⟩ : ∃ u, m[k]? = some u := ⟨m[k], List.getElem?_eq_getElem hlt2⟩
      obtain ⟨s1, s2, s3⟩ := (unhide HS) k t u ht hu
      obtain ⟨b, o, rfl, hb1, p0, p1, p2, hts⟩ := ((unhide HA).later (unhide HBE) (Nat.le_refl _)).at_ k t ht
      obtain ⟨b', o', rfl, hb2, q0, q1, q2, hus⟩ := ((unhide HB).later (unhide HBE) (Nat.le_refl _)).at_ k u hu
      obtain ⟨tk, ta, tt⟩ := t
      obtain ⟨uk, ua, ut⟩ := u
      simp only at p0 p1 p2 q0 q1 q2 s1 s2 s3
      subst s1 s2
      clear ht hu hts hus
      have hk1 : (0 : Int) ≤ (k : Int) := by omega
      have hk2 : (k : Int) < (l.length : Int) := by omega
      have g1 : (tk != tk) = false := by simp
      have g2 : (tt.toList != tt.toList) = false := by simp
      have g3 : (!(tt.toList == tt.toList)) = false := by simp
      cases at_
      · clear s3
        go_wp2_with fail
        go_quiet (fail)
        go_wp2_with fail
        exact ⟨⟨k + 1, by omega, by go_num, below_drewN (unhide HBE) _⟩, by simp [intOf]; omega⟩
      · have e := s3 rfl
        subst e
        clear s3
        have g4 : (ta != ta) = false := by simp
        go_wp2_with fail
        go_quiet (fail)
        go_wp2_with fail
        exact ⟨⟨k + 1, by omega, by go_num, below_drewN (unhide HBE) _⟩, by simp [intOf]; omega⟩
    · go_wp2_with fail
      go_ret
      exact ⟨rfl, unhide HBE⟩
end Go.Proofs.Ytnfigfedijhiiaa
