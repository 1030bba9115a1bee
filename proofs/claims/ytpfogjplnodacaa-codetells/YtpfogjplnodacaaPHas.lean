/-
  Contracts of slices.IndexFunc and slices.ContainsFunc over numbers, at the function values of programs. By the verifier; written by mkhas.py.
-/
import Derived.Test.YtpfogjplnodacaaPLeaf
import Derived.Deep.RegionHeld3
import Derived.Laws.EntriesVeiled
set_option maxRecDepth 100000
set_option maxHeartbeats 1600000
namespace Go.Proofs.Ytpfogjplnodacaa
open Go.RowKit
set_option linter.unusedVariables false
def Pg.noSize (n : Int) : Bool := decide (n < 0 ∨ n > 8)
def Pg.notNought (n : Int) : Bool := decide (n ≠ 0)
theorem hasSize_any (n : Int) (w : World) :
  Calls Try.prog 53 #[.int .i64 n] w fun e w' => e = .returned (.bool (Pg.noSize n)) ∧ w' = w := by
 by_cases h1 : n < 0
 · have hh : Pg.noSize n = true := by simp [Pg.noSize]; omega
   rw [hh]; clear hh
   go_enter Try.func53, Try.ntmps53
   go_wp2
   go_ret
   exact ⟨rfl, rfl⟩
 · by_cases h2 : n > 8
   · have hh : Pg.noSize n = true := by simp [Pg.noSize]; omega
     rw [hh]; clear hh
     go_enter Try.func53, Try.ntmps53
     go_wp2
     go_ret
     exact ⟨rfl, rfl⟩
   · have hh : Pg.noSize n = false := by simp [Pg.noSize]; omega
     rw [hh]; clear hh
     go_enter Try.func53, Try.ntmps53
     go_wp2
     go_ret
     exact ⟨rfl, rfl⟩
theorem hasSize_index (s : Pg.Sl) (l : List Int) (w : World) (hr : Pg.RN w s l) :
  Calls Try.prog 49 #[.slice s.ad s.len s.cap, .func (.func 53) #[] #[]] w fun e w' => (∃ r : Int, e = .returned (.int .i64 r) ∧ decide (0 ≤ r) = l.any Pg.noSize) ∧ w' = w := by
 obtain ⟨sa, sl, sc⟩ := s
 have hlen : sl = l.length := hr.len
 have hfew := hr.few
 rw [← hlen] at hfew
 have HLN := hide hlen
 have HR := hide hr
 clear hr hlen
 dsimp only
 go_enter Try.func49, Try.ntmps49
 go_wp2_with fail
 go_loop [8] (fun v => ∃ k : Nat, k ≤ sl ∧ v = .int .i64 k ∧ Hid (l.any Pg.noSize = (l.drop k).any Pg.noSize)) (fun v => sl - (intOf v).toNat)
 case atStart => exact ⟨0, by omega, rfl, by show _ = _; rw [List.drop_zero]⟩
 case round =>
  obtain ⟨k, hk, rfl, hall⟩ := hrel
  have HA := hide (unhide hall)
  clear hall
  by_cases hlt : k < sl
  · have hlt2 : k < l.length := by have := unhide HLN; omega
    have hy := List.getElem?_eq_getElem hlt2
    obtain ⟨b, o, had, hb, hc⟩ := (unhide HR).at_ k _ hy
    have HD := hide (show (l.drop k).any Pg.noSize = (Pg.noSize l[k] || (l.drop (k + 1)).any Pg.noSize) by rw [List.drop_eq_getElem_cons hlt2]; rfl)
    generalize l[k] = t at *
    have had' : sa = some ⟨b, o, none⟩ := had
    subst had'
    have hk1 : (0 : Int) ≤ (k : Int) := by omega
    have hk2 : (k : Int) < (sl : Int) := by omega
    clear hy had
    go_wp2_with fail
    refine (hasSize_any _ _).mono ?_
    rintro e w' ⟨rfl, hw1⟩
    subst hw1
    cases h3 : Pg.noSize t
    · have HN := hide (show l.any Pg.noSize = (l.drop (k + 1)).any Pg.noSize by rw [unhide HA, unhide HD, h3]; rfl)
      clear h3
      go_wp2_with fail
      go_round
      case rel => exact ⟨k + 1, by omega, by go_num, unhide HN⟩
      case measure => simp [intOf]; omega
    · have HN := hide (show l.any Pg.noSize = true by rw [unhide HA, unhide HD, h3]; rfl)
      clear h3
      go_wp2_with fail
      go_ret
      exact ⟨⟨_, rfl, by rw [unhide HN]; simp⟩, rfl⟩
  · have HN := hide (show l.any Pg.noSize = false by rw [unhide HA, List.drop_of_length_le (by have := unhide HLN; omega)]; rfl)
    go_wp2_with fail
    go_ret
    exact ⟨⟨_, rfl, by rw [unhide HN]; rfl⟩, rfl⟩
theorem hasSize_contains (s : Pg.Sl) (l : List Int) (w : World) (hr : Pg.RN w s l) :
  Calls Try.prog 34 #[.slice s.ad s.len s.cap, .func (.func 53) #[] #[]] w fun e w' => e = .returned (.bool (l.any Pg.noSize)) ∧ w' = w := by
 have HR := hide hr
 clear hr
 go_enter Try.func34, Try.ntmps34
 go_wp2_with fail
 refine (hasSize_index s l _ (unhide HR)).mono ?_
 rintro e w' ⟨⟨r, rfl, hd⟩, hw1⟩
 subst hw1
 have HD := hide hd
 clear hd
 go_wp2_with fail
 all_goals
  go_ret
  refine ⟨?_, rfl⟩
  rw [← unhide HD]
  try rfl
 all_goals simp_all
theorem hasNought_any (n : Int) (w : World) :
  Calls Try.prog 54 #[.int .i64 n] w fun e w' => e = .returned (.bool (Pg.notNought n)) ∧ w' = w := by
 by_cases h1 : n = 0
 · subst h1
   go_enter Try.func54, Try.ntmps54
   go_wp2
   go_ret
   exact ⟨rfl, rfl⟩
 · have hh : Pg.notNought n = true := by simp [Pg.notNought]; omega
   rw [hh]; clear hh
   go_enter Try.func54, Try.ntmps54
   go_wp2
   go_ret
   first
    | exact ⟨rfl, rfl⟩
    | exact ⟨by simp [h1], rfl⟩
theorem hasNought_index (s : Pg.Sl) (l : List Int) (w : World) (hr : Pg.RN w s l) :
  Calls Try.prog 49 #[.slice s.ad s.len s.cap, .func (.func 54) #[] #[]] w fun e w' => (∃ r : Int, e = .returned (.int .i64 r) ∧ decide (0 ≤ r) = l.any Pg.notNought) ∧ w' = w := by
 obtain ⟨sa, sl, sc⟩ := s
 have hlen : sl = l.length := hr.len
 have hfew := hr.few
 rw [← hlen] at hfew
 have HLN := hide hlen
 have HR := hide hr
 clear hr hlen
 dsimp only
 go_enter Try.func49, Try.ntmps49
 go_wp2_with fail
 go_loop [8] (fun v => ∃ k : Nat, k ≤ sl ∧ v = .int .i64 k ∧ Hid (l.any Pg.notNought = (l.drop k).any Pg.notNought)) (fun v => sl - (intOf v).toNat)
 case atStart => exact ⟨0, by omega, rfl, by show _ = _; rw [List.drop_zero]⟩
 case round =>
  obtain ⟨k, hk, rfl, hall⟩ := hrel
  have HA := hide (unhide hall)
  clear hall
  by_cases hlt : k < sl
  · have hlt2 : k < l.length := by have := unhide HLN; omega
    have hy := List.getElem?_eq_getElem hlt2
    obtain ⟨b, o, had, hb, hc⟩ := (unhide HR).at_ k _ hy
    have HD := hide (show (l.drop k).any Pg.notNought = (Pg.notNought l[k] || (l.drop (k + 1)).any Pg.notNought) by rw [List.drop_eq_getElem_cons hlt2]; rfl)
    generalize l[k] = t at *
    have had' : sa = some ⟨b, o, none⟩ := had
    subst had'
    have hk1 : (0 : Int) ≤ (k : Int) := by omega
    have hk2 : (k : Int) < (sl : Int) := by omega
    clear hy had
    go_wp2_with fail
    refine (hasNought_any _ _).mono ?_
    rintro e w' ⟨rfl, hw1⟩
    subst hw1
    cases h3 : Pg.notNought t
    · have HN := hide (show l.any Pg.notNought = (l.drop (k + 1)).any Pg.notNought by rw [unhide HA, unhide HD, h3]; rfl)
      clear h3
      go_wp2_with fail
      go_round
      case rel => exact ⟨k + 1, by omega, by go_num, unhide HN⟩
      case measure => simp [intOf]; omega
    · have HN := hide (show l.any Pg.notNought = true by rw [unhide HA, unhide HD, h3]; rfl)
      clear h3
      go_wp2_with fail
      go_ret
      exact ⟨⟨_, rfl, by rw [unhide HN]; simp⟩, rfl⟩
  · have HN := hide (show l.any Pg.notNought = false by rw [unhide HA, List.drop_of_length_le (by have := unhide HLN; omega)]; rfl)
    go_wp2_with fail
    go_ret
    exact ⟨⟨_, rfl, by rw [unhide HN]; rfl⟩, rfl⟩
theorem hasNought_contains (s : Pg.Sl) (l : List Int) (w : World) (hr : Pg.RN w s l) :
  Calls Try.prog 34 #[.slice s.ad s.len s.cap, .func (.func 54) #[] #[]] w fun e w' => e = .returned (.bool (l.any Pg.notNought)) ∧ w' = w := by
 have HR := hide hr
 clear hr
 go_enter Try.func34, Try.ntmps34
 go_wp2_with fail
 refine (hasNought_index s l _ (unhide HR)).mono ?_
 rintro e w' ⟨⟨r, rfl, hd⟩, hw1⟩
 subst hw1
 have HD := hide hd
 clear hd
 go_wp2_with fail
 all_goals
  go_ret
  refine ⟨?_, rfl⟩
  rw [← unhide HD]
  try rfl
 all_goals simp_all
end Go.Proofs.Ytpfogjplnodacaa
