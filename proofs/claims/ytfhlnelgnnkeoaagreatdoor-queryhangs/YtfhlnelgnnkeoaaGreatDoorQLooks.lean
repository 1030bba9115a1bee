/-
  looksOn of the laws, and what the marks of a beginning tell. By the verifier.
-/
import Derived.Test.YtfhlnelgnnkeoaaGreatDoorQMean
namespace Go.Proofs.YtfhlnelgnnkeoaaGreatDoor
open Go.RowKit
set_option linter.unusedVariables false

/-- Does a query look at what comes? -/
def Qk.looks : (n : Nat) → Qk.AT n → Bool
  | 0, _ => false
  | n + 1, x => (x.1.1 == 14) || x.2.any (Qk.looks n)
theorem Qk.any_drop {α : Type} (f : α → Bool) {l : List α} {k : Nat} {y : α} (h : l[k]? = some y) : (l.drop k).any f = (f y || (l.drop (k + 1)).any f) := by
  obtain ⟨hk, hx⟩ := List.getElem?_eq_some_iff.1 h
  rw [List.drop_eq_getElem_cons hk, hx]
  rfl

set_option maxRecDepth 100000 in
set_option maxHeartbeats 1600000 in
theorem looksOn_any : ∀ (n : Nat) (e : Qk.E) (x : Qk.AT n) (w : World), Qk.RA w n e x →
    Calls Tryz.prog 20 #[e.val] w fun r w' => r = .returned (.bool (Qk.looks n x)) ∧ Below w.heap.size w w' := by
  intro n
  induction n with
  | zero => intro e x w h; exact h.elim
  | succ n ih =>
    rintro ⟨k1, n1, ⟨ad, len, cap⟩⟩ ⟨⟨xk, xn⟩, l⟩ w ⟨⟨hk1, hn1⟩, hs⟩
    obtain rfl : k1 = xk := hk1
    obtain rfl : n1 = xn := hn1
    obtain rfl : len = l.length := hs.len
    have hfew := hs.few
    have HR := hide hs
    have HI := hide ih
    have HL := hide (show Qk.looks (n + 1) ((k1, n1), l) = ((k1 == 14) || l.any (Qk.looks n)) from rfl)
    generalize Qk.looks (n + 1) ((k1, n1), l) = B at *
    clear hs ih
    unfold Qk.E.val
    cases h14 : (k1 == 14)
    · have HB0 := hide (show B = (l.drop 0).any (Qk.looks n) by rw [unhide HL, h14]; rfl)
      go_enter Tryz.func20, Tryz.ntmps20
      go_wp2_with fail
      go_loopw [3] (fun v wr => ∃ k : Nat, k ≤ l.length ∧ v = .int .i64 (k : Nat) ∧ B = (l.drop k).any (Qk.looks n) ∧ Below w.heap.size w wr ∧ w.heap.size < wr.heap.size ∧ wr.cell? ⟨w.heap.size, 2, none⟩ = some (.slice ad l.length cap)) (fun v _ => l.length - (intOf v).toNat)
      case atStart => exact ⟨0, by omega, rfl, unhide HB0, (Below.refl _ _).alloc (Nat.le_refl _) _, by simp, by go_simp⟩
      case round =>
        obtain ⟨k, hk, rfl, hB, hbe, hsz, q2⟩ := hrel
        have HBE := hide hbe
        have HBK := hide hB
        clear hbe hB
        by_cases hlt : k < l.length
        · obtain ⟨t, ht⟩ : ∃ t, l[k]? = some t := ⟨l[k], List.getElem?_eq_getElem hlt⟩
          have HD := hide (Qk.any_drop (Qk.looks n) ht)
          obtain ⟨b, o, c, hba, hb, hL, hA⟩ := (unhide HR).at_ k t ht
          obtain rfl : ad = some ⟨b, o, none⟩ := hba
          have HA := hide (Qk.RA.later (unhide HBE) (Nat.le_refl _) n hA)
          obtain ⟨c0, c1, c2⟩ := hL.later (unhide HBE) (Nat.le_refl _) hb
          clear ht hL hA
          have hk1 : (0 : Int) ≤ (k : Int) := by omega
          have hk2 : (k : Int) < (l.length : Int) := by omega
          have hF := hide (show Calls Tryz.prog 20 #[.agg #[.int .i64 c.k, .int .i64 c.n, .slice c.args.ad c.args.len c.args.cap]] wr fun r w' => r = .returned (.bool (Qk.looks n t)) ∧ Below wr.heap.size wr w' from (unhide HI) c t wr (unhide HA))
          go_wp2_with fail
          refine (unhide hF).mono ?_
          rintro r w1 ⟨rfl, hb1⟩
          have q3 := (hb1.cell (p := ⟨w.heap.size, 2, none⟩) hsz).trans q2
          have hs1 : w.heap.size < w1.heap.size := by have := hb1.size; omega
          have HB1 := hide ((unhide HBE).trans (hb1.mono (unhide HBE).size))
          clear hb1
          cases hx : Qk.looks n t
          · have HN := hide (show B = (l.drop (k + 1)).any (Qk.looks n) by rw [unhide HBK, unhide HD, hx]; rfl)
            go_wp2_with fail
            go_round
            case rel => exact ⟨k + 1, by omega, by go_num, unhide HN, unhide HB1, hs1, q3⟩
            case measure => simp [intOf]; omega
          · have HN := hide (show B = true by rw [unhide HBK, unhide HD, hx]; rfl)
            go_wp2_with fail
            go_ret
            exact ⟨by rw [unhide HN]; rfl, unhide HB1⟩
        · have hk2 : ¬ (k : Int) < (l.length : Int) := by omega
          have HN := hide (show B = false by rw [unhide HBK, List.drop_of_length_le (by omega)]; rfl)
          go_wp2_with fail
          go_ret
          exact ⟨by rw [unhide HN]; rfl, unhide HBE⟩
    · have HN := hide (show B = true by rw [unhide HL, h14]; rfl)
      go_enter Tryz.func20, Tryz.ntmps20
      go_wp2_with fail
      go_ret
      exact ⟨by rw [unhide HN]; rfl, (Below.refl _ _).alloc (Nat.le_refl _) _⟩
end Go.Proofs.YtfhlnelgnnkeoaaGreatDoor
