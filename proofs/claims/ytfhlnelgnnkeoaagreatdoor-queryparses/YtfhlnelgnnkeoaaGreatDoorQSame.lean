/-
  The document's own SameAsk and SameBools, at equals. By the verifier.
-/
import Derived.Test.YtfhlnelgnnkeoaaGreatDoorQBase
import Derived.RegionTactic
import Derived.ChangeAlike
import Derived.BigRegion
import Derived.Deep.RegionWith
namespace Go.Proofs.YtfhlnelgnnkeoaaGreatDoor
open Go.RowKit
set_option linter.unusedVariables false

set_option maxRecDepth 100000 in
set_option maxHeartbeats 1600000 in
theorem SameBools_eq (l : List Bool) (ad bd : Option Addr) (cap dap : Nat) (w : World) (hr : Dk.RB w ad l) (hr2 : Dk.RB w bd l) (hl : l.length ≤ 4000) :
    Calls Tryz.prog 18 #[.slice ad l.length cap, .slice bd l.length dap] w fun e w' => e = .returned (.bool true) ∧ Below w.heap.size w w' := by
  have HR := hide hr
  have HR2 := hide hr2
  clear hr hr2
  have gll : ((l.length : Int) != (l.length : Int)) = false := by simp
  go_enter Tryz.func18, Tryz.ntmps18
  go_wp2_with fail
  go_loopw [5] (fun v wr => ∃ k : Nat, k ≤ l.length ∧ v = .int .i64 (k : Nat) ∧ Below w.heap.size w wr) (fun v _ => l.length - (intOf v).toNat)
  case atStart => exact ⟨0, by omega, rfl, Below.refl _ _⟩
  case round =>
    obtain ⟨k, hk, rfl, hbe⟩ := hrel
    have HBE := hide hbe
    clear hbe
    by_cases hlt : k < l.length
    · obtain ⟨t, ht⟩ : ∃ t, l[k]? = some t := ⟨l[k], List.getElem?_eq_getElem hlt⟩
      obtain ⟨b, o, rfl, hb, c0⟩ := ((unhide HR).later (unhide HBE) (Nat.le_refl _)).at_ k t ht
      obtain ⟨b', o', rfl, hb', d0⟩ := ((unhide HR2).later (unhide HBE) (Nat.le_refl _)).at_ k t ht
      clear ht
      have hk1 : (0 : Int) ≤ (k : Int) := by omega
      have hk2 : (k : Int) < (l.length : Int) := by omega
      have htt : (t != t) = false := by simp
      go_wp2_with fail
      go_quiet (fail)
      go_wp2_with fail
      exact ⟨⟨k + 1, by omega, by go_num, below_drewN (unhide HBE) _⟩, by simp [intOf]; omega⟩
    · have hk2 : ¬ (k : Int) < (l.length : Int) := by omega
      go_wp2_with fail
      go_ret
      exact ⟨rfl, unhide HBE⟩

set_option maxRecDepth 100000 in
set_option maxHeartbeats 1600000 in
theorem SameAsk_eq : ∀ (n : Nat) (ea eb : Qk.E) (x : Qk.AT n) (w : World), Qk.RA w n ea x → Qk.RA w n eb x →
    Calls Tryz.prog 15 #[ea.val, eb.val] w fun r w' => r = .returned (.bool true) ∧ Below w.heap.size w w' := by
  intro n
  induction n with
  | zero => intro ea eb x w h; exact h.elim
  | succ n ih =>
    rintro ⟨k1, n1, ⟨ad, len1, cap⟩⟩ ⟨k2, n2, ⟨bd, len2, dap⟩⟩ ⟨⟨xk, xn⟩, l⟩ w ⟨⟨hk1, hn1⟩, hs1⟩ ⟨⟨hk2, hn2⟩, hs2⟩
    obtain rfl : k1 = xk := hk1
    obtain rfl : n1 = xn := hn1
    obtain rfl : k2 = k1 := hk2
    obtain rfl : n2 = n1 := hn2
    obtain rfl : len1 = l.length := hs1.len
    obtain rfl : len2 = l.length := hs2.len
    have hfew := hs1.few
    have HR := hide hs1
    have HR2 := hide hs2
    have HI := hide ih
    clear hs1 hs2 ih
    have gll : ((l.length : Int) != (l.length : Int)) = false := by simp
    have gkk : (k2 != k2) = false := by simp
    have gnn : (n2 != n2) = false := by simp
    unfold Qk.E.val
    go_enter Tryz.func15, Tryz.ntmps15
    go_wp2_with fail
    go_loopw [5] (fun v wr => ∃ k : Nat, k ≤ l.length ∧ v = .int .i64 (k : Nat) ∧ Below w.heap.size w wr ∧ w.heap.size + 1 < wr.heap.size ∧ wr.cell? ⟨w.heap.size, 2, none⟩ = some (.slice ad l.length cap) ∧ wr.cell? ⟨w.heap.size + 1, 2, none⟩ = some (.slice bd l.length dap)) (fun v _ => l.length - (intOf v).toNat)
    case atStart => exact ⟨0, by omega, rfl, ((Below.refl _ _).alloc (Nat.le_refl _) _).alloc (by simp) _, by simp, by go_simp, by go_simp⟩
    case round =>
      obtain ⟨k, hk, rfl, hbe, hsz, q2, p2⟩ := hrel
      have HBE := hide hbe
      clear hbe
      by_cases hlt : k < l.length
      · obtain ⟨t, ht⟩ : ∃ t, l[k]? = some t := ⟨l[k], List.getElem?_eq_getElem hlt⟩
        obtain ⟨b, o, c, hba, hb, hL, hA⟩ := (unhide HR).at_ k t ht
        obtain ⟨b', o', c', hba', hb', hL', hA'⟩ := (unhide HR2).at_ k t ht
        obtain rfl : ad = some ⟨b, o, none⟩ := hba
        obtain rfl : bd = some ⟨b', o', none⟩ := hba'
        have HA := hide (And.intro (Qk.RA.later (unhide HBE) (Nat.le_refl _) n hA) (Qk.RA.later (unhide HBE) (Nat.le_refl _) n hA'))
        obtain ⟨c0, c1, c2⟩ := hL.later (unhide HBE) (Nat.le_refl _) hb
        obtain ⟨d0, d1, d2⟩ := hL'.later (unhide HBE) (Nat.le_refl _) hb'
        clear ht hL hL' hA hA'
        have hk1 : (0 : Int) ≤ (k : Int) := by omega
        have hk2 : (k : Int) < (l.length : Int) := by omega
        have hF := hide (fun (W : World) (hW : Below wr.heap.size wr W) => show Calls Tryz.prog 15 #[.agg #[.int .i64 c.k, .int .i64 c.n, .slice c.args.ad c.args.len c.args.cap], .agg #[.int .i64 c'.k, .int .i64 c'.n, .slice c'.args.ad c'.args.len c'.args.cap]] W fun r w' => r = .returned (.bool true) ∧ Below W.heap.size W w' from (unhide HI) c c' t W (Qk.RA.later hW (Nat.le_refl _) n (unhide HA).1) (Qk.RA.later hW (Nat.le_refl _) n (unhide HA).2))
        go_wp2_with fail
        go_region_with (go_at_call 15; refine ((unhide hF) _ (Below.refl _ _).drew).mono ?_; rintro r w1 ⟨rfl, hb1⟩; have HB1 := hide (show Below wr.heap.size wr w1 from (Below.refl wr.heap.size wr).drew.trans hb1); clear hb1)
        all_goals
          go_wp2_with fail
          go_round
          case rel => exact ⟨k + 1, by omega, by go_num, (unhide HBE).trans ((unhide HB1).mono (unhide HBE).size), by have := (unhide HB1).size; omega, ((unhide HB1).cell (p := ⟨w.heap.size, 2, none⟩) (by show w.heap.size < wr.heap.size; omega)).trans q2, ((unhide HB1).cell (p := ⟨w.heap.size + 1, 2, none⟩) hsz).trans p2⟩
          case measure => simp [intOf]; omega
      · have hk2 : ¬ (k : Int) < (l.length : Int) := by omega
        go_wp2_with fail
        go_ret
        exact ⟨rfl, unhide HBE⟩
end Go.Proofs.YtfhlnelgnnkeoaaGreatDoor
