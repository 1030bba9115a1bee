/-
  The contract of the document's CheckIn. By the verifier.
-/
import Derived.Test.YtpfogjplnodacaaGreatLL
set_option maxRecDepth 100000
set_option maxHeartbeats 1600000
namespace Go.Proofs.YtpfogjplnodacaaGreat
open Go.RowKit
set_option linter.unusedVariables false
theorem CheckIn_any (s : Pg.Sl) (l : List Int) (fuel : Int) (w : World) (h : Pg.RN w s l) :
  Calls Tryz.prog 7 #[.slice s.ad s.len s.cap, .int .i64 fuel] w fun r w' => r = .returned (.int .i64 (Pg.chkIn l fuel : Nat)) ∧ w' = w := by
 obtain ⟨sa, sl, sc⟩ := s
 have hlen : sl = l.length := h.len
 have hfew := h.few
 rw [← hlen] at hfew
 have HC := hide (show Pg.chkIn l fuel = if 50 < sl then 2 else if l.any Pg.beyond then 3 else if 0 ≤ fuel ∧ fuel ≤ 500 then 0 else 3 by rw [hlen]; rfl)
 generalize Pg.chkIn l fuel = R at *
 have HLN := hide hlen
 have HS := hide h
 clear h hlen
 dsimp only
 go_enter Tryz.func7, Tryz.ntmps7
 by_cases h50 : 50 < sl
 · have g50 : (sl : Int) > 50 := by omega
   have HR := hide (show R = 2 by rw [unhide HC, if_pos h50])
   go_wp2_with fail
   go_ret
   exact ⟨ret_int (by rw [unhide HR]; rfl), rfl⟩
 · have g50 : ¬ (sl : Int) > 50 := by omega
   have HR := hide (show R = if l.any Pg.beyond then 3 else if 0 ≤ fuel ∧ fuel ≤ 500 then 0 else 3 by rw [unhide HC, if_neg h50])
   clear HC
   go_wp2_with fail
   go_loopw [5] (fun iv wr => ∃ (i : Nat), i ≤ sl ∧ iv = .int .i64 i ∧ Hid (l.any Pg.beyond = (l.drop i).any Pg.beyond) ∧ wr = w) (fun iv _ => sl - (intOf iv).toNat)
   case atStart => exact ⟨0, Nat.zero_le _, rfl, by show _ = _; rw [List.drop_zero], rfl⟩
   case round =>
    obtain ⟨i, hi, rfl, hrel, hwr⟩ := hrel
    subst hwr
    have HRL := hide (unhide hrel)
    clear hrel
    by_cases hlt : i < sl
    · have hlt2 : i < l.length := by have := unhide HLN; omega
      have hy := List.getElem?_eq_getElem hlt2
      obtain ⟨b, o, had, hb, hc⟩ := (unhide HS).at_ i _ hy
      have HD := hide (show (l.drop i).any Pg.beyond = (Pg.beyond l[i] || (l.drop (i + 1)).any Pg.beyond) by rw [List.drop_eq_getElem_cons hlt2]; rfl)
      generalize l[i] = z at *
      have had' : sa = some ⟨b, o, none⟩ := had
      subst had'
      have hi0 : (0 : Int) ≤ (i : Int) := by omega
      have hi1 : (i : Int) < (sl : Int) := by omega
      clear hy had
      go_wp2_with fail
      refine (IsNumber_any z _).mono ?_
      rintro r w1 ⟨rfl, hw1⟩
      subst hw1
      cases hbz : Pg.beyond z
      · have HN := hide (show l.any Pg.beyond = (l.drop (i + 1)).any Pg.beyond by rw [unhide HRL, unhide HD, hbz]; rfl)
        clear hbz
        go_wp2_with fail
        exact ⟨⟨i + 1, by omega, by go_num, unhide HN, trivial⟩, by simp [intOf]; omega⟩
      · have HN := hide (show R = 3 by rw [unhide HR, unhide HRL, unhide HD, hbz]; rfl)
        clear hbz
        go_wp2_with fail
        go_ret
        exact ⟨ret_int (by rw [unhide HN]; rfl), rfl⟩
    · have HN := hide (show R = if 0 ≤ fuel ∧ fuel ≤ 500 then 0 else 3 by
       rw [unhide HR, unhide HRL, List.drop_of_length_le (by have := unhide HLN; omega)]; rfl)
      by_cases hf : 0 ≤ fuel ∧ fuel ≤ 500
      · have HM := hide (show R = 0 by rw [unhide HN, if_pos hf])
        have HDF := hide (show decide (0 ≤ fuel ∧ fuel ≤ 500) = true from decide_eq_true hf)
        clear hf
        go_wp2_with fail
        refine (between_any _ _ _ _).mono ?_
        rintro r w1 ⟨rfl, hw1⟩
        subst hw1
        rw [unhide HDF]
        go_wp2_with fail
        go_ret
        exact ⟨ret_int (by rw [unhide HM]; rfl), rfl⟩
      · have HM := hide (show R = 3 by rw [unhide HN, if_neg hf])
        have HDF := hide (show decide (0 ≤ fuel ∧ fuel ≤ 500) = false from decide_eq_false hf)
        clear hf
        go_wp2_with fail
        refine (between_any _ _ _ _).mono ?_
        rintro r w1 ⟨rfl, hw1⟩
        subst hw1
        rw [unhide HDF]
        go_wp2_with fail
        go_ret
        exact ⟨ret_int (by rw [unhide HM]; rfl), rfl⟩
end Go.Proofs.YtpfogjplnodacaaGreat
