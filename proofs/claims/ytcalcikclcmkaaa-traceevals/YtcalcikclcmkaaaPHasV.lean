/-
  Contracts of slices.IndexFunc and slices.ContainsFunc over lists of numbers, at trace.Eval's function value. By the verifier.
-/
import Derived.Test.YtcalcikclcmkaaaPHas
namespace Go.Proofs.Ytcalcikclcmkaaa
open Go.RowKit
set_option linter.unusedVariables false

/-- A number of a variable is none. -/
def Pg.beyondV (l : List Int) : Bool := l.any Pg.beyond

set_option maxHeartbeats 400000 in
theorem evalBeyond_any (s : Pg.Sl) (l : List Int) (w : World) (hr : Pg.RN w s l) :
    Calls Try.prog 25 #[.slice s.ad s.len s.cap] w fun e w' => e = .returned (.bool (Pg.beyondV l)) ∧ w' = w := by
  have HR := hide hr
  clear hr
  go_enter Try.func25, Try.ntmps25
  go_wp2_with fail
  refine (isBeyond_contains s l _ (unhide HR)).mono ?_
  rintro e w' ⟨rfl, hw1⟩
  subst hw1
  go_wp2_with fail
  go_ret
  exact ⟨rfl, rfl⟩

set_option maxRecDepth 100000 in
set_option maxHeartbeats 1600000 in
theorem evalBeyond_index (s : Pg.Sl) (l : List (List Int)) (w : World) (hr : Pg.RV w s l) :
    Calls Try.prog 59 #[.slice s.ad s.len s.cap, .func (.func 25) #[] #[]] w fun e w' => (∃ r : Int, e = .returned (.int .i64 r) ∧ decide (0 ≤ r) = l.any Pg.beyondV) ∧ w' = w := by
  obtain ⟨sa, sl, sc⟩ := s
  have hlen : sl = l.length := hr.len
  have hfew := hr.few
  rw [← hlen] at hfew
  have HLN := hide hlen
  have HR := hide hr
  clear hr hlen
  dsimp only
  go_enter Try.func59, Try.ntmps59
  go_wp2_with fail
  go_loop [8] (fun v => ∃ k : Nat, k ≤ sl ∧ v = .int .i64 k ∧ Hid (l.any Pg.beyondV = (l.drop k).any Pg.beyondV)) (fun v => sl - (intOf v).toNat)
  case atStart => exact ⟨0, by omega, rfl, by show _ = _; rw [List.drop_zero]⟩
  case round =>
    obtain ⟨k, hk, rfl, hall⟩ := hrel
    have HA := hide (unhide hall)
    clear hall
    by_cases hlt : k < sl
    · have hlt2 : k < l.length := by have := unhide HLN; omega
      have hy := List.getElem?_eq_getElem hlt2
      obtain ⟨b, o, ⟨ta, tl, tc⟩, had, hb, hc, hn⟩ := (unhide HR).at_ k _ hy
      have HD := hide (show (l.drop k).any Pg.beyondV = (Pg.beyondV l[k] || (l.drop (k + 1)).any Pg.beyondV) by rw [List.drop_eq_getElem_cons hlt2]; rfl)
      generalize l[k] = t at *
      have had' : sa = some ⟨b, o, none⟩ := had
      subst had'
      have hk1 : (0 : Int) ≤ (k : Int) := by omega
      have hk2 : (k : Int) < (sl : Int) := by omega
      clear hy had
      have HT := hide hn
      clear hn
      dsimp only at hc
      go_wp2_with fail
      refine (evalBeyond_any ⟨ta, tl, tc⟩ _ _ (unhide HT)).mono ?_
      rintro e w' ⟨rfl, hw1⟩
      subst hw1
      cases h3 : Pg.beyondV t
      · have HN := hide (show l.any Pg.beyondV = (l.drop (k + 1)).any Pg.beyondV by rw [unhide HA, unhide HD, h3]; rfl)
        clear h3
        go_wp2_with fail
        go_round
        case rel => exact ⟨k + 1, by omega, by go_num, unhide HN⟩
        case measure => simp [intOf]; omega
      · have HN := hide (show l.any Pg.beyondV = true by rw [unhide HA, unhide HD, h3]; rfl)
        clear h3
        go_wp2_with fail
        go_ret
        exact ⟨⟨_, rfl, by rw [unhide HN]; simp⟩, rfl⟩
    · have HN := hide (show l.any Pg.beyondV = false by rw [unhide HA, List.drop_of_length_le (by have := unhide HLN; omega)]; rfl)
      go_wp2_with fail
      go_ret
      exact ⟨⟨_, rfl, by rw [unhide HN]; rfl⟩, rfl⟩

set_option maxHeartbeats 400000 in
theorem evalBeyond_contains (s : Pg.Sl) (l : List (List Int)) (w : World) (hr : Pg.RV w s l) :
    Calls Try.prog 24 #[.slice s.ad s.len s.cap, .func (.func 25) #[] #[]] w fun e w' => e = .returned (.bool (l.any Pg.beyondV)) ∧ w' = w := by
  have HR := hide hr
  clear hr
  go_enter Try.func24, Try.ntmps24
  go_wp2_with fail
  refine (evalBeyond_index s l _ (unhide HR)).mono ?_
  rintro e w' ⟨⟨r, rfl, hd⟩, hw1⟩
  subst hw1
  have HD := hide hd
  clear hd
  go_wp2_with fail
  all_goals
    go_ret
    refine ⟨?_, rfl⟩
    rw [← unhide HD]
    try rfl
  all_goals simp_all

end Go.Proofs.Ytcalcikclcmkaaa
