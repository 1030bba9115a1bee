/-
  PHasV, XForm, VJn. By the verifier.
-/
import Derived.Test.YtpfogjplnodacaaGreatLL
import Derived.Test.YtpfogjplnodacaaGreatXRenamed
import Derived.Test.YtpfogjplnodacaaGreatLI
set_option maxRecDepth 100000
set_option maxHeartbeats 3200000
namespace Go.Proofs.YtpfogjplnodacaaGreat
open Go.RowKit
set_option linter.unusedVariables false
def Pg.beyondV (l : List Int) : Bool := l.any Pg.beyond
theorem evalBeyond_any (s : Pg.Sl) (l : List Int) (w : World) (hr : Pg.RN w s l) :
  Calls Tryz.prog 52 #[.slice s.ad s.len s.cap] w fun e w' => e = .returned (.bool (Pg.beyondV l)) ∧ w' = w := by
 have HR := hide hr
 clear hr
 go_enter Tryz.func52, Tryz.ntmps52
 go_wp2_with fail
 refine (isBeyond_contains s l _ (unhide HR)).mono ?_
 rintro e w' ⟨rfl, hw1⟩
 subst hw1
 go_wp2_with fail
 go_ret
 exact ⟨rfl, rfl⟩
theorem evalBeyond_index (s : Pg.Sl) (l : List (List Int)) (w : World) (hr : Pg.RV w s l) :
  Calls Tryz.prog 95 #[.slice s.ad s.len s.cap, .func (.func 52) #[] #[]] w fun e w' => (∃ r : Int, e = .returned (.int .i64 r) ∧ decide (0 ≤ r) = l.any Pg.beyondV) ∧ w' = w := by
 obtain ⟨sa, sl, sc⟩ := s
 have hlen : sl = l.length := hr.len
 have hfew := hr.few
 rw [← hlen] at hfew
 have HLN := hide hlen
 have HR := hide hr
 clear hr hlen
 dsimp only
 go_enter Tryz.func95, Tryz.ntmps95
 go_wp2_with fail
 go_loop [8] (fun v => ∃ k : Nat, k ≤ sl ∧ v = .int .i64 k ∧ Hid (l.any Pg.beyondV = (l.drop k).any Pg.beyondV)) (fun v => sl - (intOf v).toNat)
 case atStart => exact ⟨0, by omega, rfl, by show _ = _; rw [List.drop_zero]⟩
 case round =>
  obtain ⟨k, hk, rfl, hall⟩ := hrel
  have HA := hide (unhide hall)
  clear hall
  by_cases hlt : k < sl
  · have hlt2 : k < l.length := by have := unhide HLN; omega
    have hy := List.getElem?_eq_getElem hlt2
    obtain ⟨b, o, ⟨ta, tl, tc⟩, had, hb, hc, hn⟩ := (unhide HR).at_ k _ hy
    have HD := hide (show (l.drop k).any Pg.beyondV = (Pg.beyondV l[k] || (l.drop (k + 1)).any Pg.beyondV) by rw [List.drop_eq_getElem_cons hlt2]; rfl)
    generalize l[k] = t at *
    have had' : sa = some ⟨b, o, none⟩ := had
    subst had'
    have hk1 : (0 : Int) ≤ (k : Int) := by omega
    have hk2 : (k : Int) < (sl : Int) := by omega
    clear hy had
    have HT := hide hn
    clear hn
    dsimp only at hc
    go_wp2_with fail
    refine (evalBeyond_any ⟨ta, tl, tc⟩ _ _ (unhide HT)).mono ?_
    rintro e w' ⟨rfl, hw1⟩
    subst hw1
    cases h3 : Pg.beyondV t
    · have HN := hide (show l.any Pg.beyondV = (l.drop (k + 1)).any Pg.beyondV by rw [unhide HA, unhide HD, h3]; rfl)
      clear h3
      go_wp2_with fail
      go_round
      case rel => exact ⟨k + 1, by omega, by go_num, unhide HN⟩
      case measure => simp [intOf]; omega
    · have HN := hide (show l.any Pg.beyondV = true by rw [unhide HA, unhide HD, h3]; rfl)
      clear h3
      go_wp2_with fail
      go_ret
      exact ⟨⟨_, rfl, by rw [unhide HN]; simp⟩, rfl⟩
  · have HN := hide (show l.any Pg.beyondV = false by rw [unhide HA, List.drop_of_length_le (by have := unhide HLN; omega)]; rfl)
    go_wp2_with fail
    go_ret
    exact ⟨⟨_, rfl, by rw [unhide HN]; rfl⟩, rfl⟩
theorem evalBeyond_contains (s : Pg.Sl) (l : List (List Int)) (w : World) (hr : Pg.RV w s l) :
  Calls Tryz.prog 51 #[.slice s.ad s.len s.cap, .func (.func 52) #[] #[]] w fun e w' => e = .returned (.bool (l.any Pg.beyondV)) ∧ w' = w := by
 have HR := hide hr
 clear hr
 go_enter Tryz.func51, Tryz.ntmps51
 go_wp2_with fail
 refine (evalBeyond_index s l _ (unhide HR)).mono ?_
 rintro e w' ⟨⟨r, rfl, hd⟩, hw1⟩
 subst hw1
 have HD := hide hd
 clear hd
 go_wp2_with fail
 all_goals
  go_ret
  refine ⟨?_, rfl⟩
  rw [← unhide HD]
  try rfl
 all_goals simp_all
end Go.Proofs.YtpfogjplnodacaaGreat
namespace Go.Proofs.YtpfogjplnodacaaGreat
open Go.RowKit
set_option linter.unusedVariables false
theorem formOf_any (sa : Option Addr) (sl sc : Nat) (vs : List (List Int)) (n : Nat) (e : Pg.E) (x : Pg.XT n) (w : World) (hre : Pg.RX w n e x) (hrv : Pg.RV w ⟨sa, sl, sc⟩ vs) :
  Calls Tryz.prog 50 #[e.val, .slice sa sl sc] w fun r w' => r = .returned (.int .i64 (Pg.chkX (Pg.sizesOf vs) n x : Nat)) ∧ Below w.heap.size w w' := by
 cases n with
 | zero => exact absurd hre id
 | succ n =>
 obtain ⟨ek, en, ea, el, ec⟩ := e
 show Calls Tryz.prog 50 #[.agg #[.int .i64 ek, .int .i64 en, .slice ea el ec], .slice sa sl sc] w _
 have hb1 := (Below.refl w.heap.size w).alloc (Nat.le_refl _) (Obj.cells #[.int .i64 ek, .int .i64 en, .slice ea el ec] 69)
 have hs1 : (w.alloc (Obj.cells #[.int .i64 ek, .int .i64 en, .slice ea el ec] 69)).heap.size = w.heap.size + 1 := by simp
 have HRE := hide (hre.later hb1 (Nat.le_refl _))
 have HRV := hide (hrv.later hb1 (Nat.le_refl _))
 have HB1 := hide hb1
 have hb3 := ((Below.refl (w.alloc (Obj.cells #[.int .i64 ek, .int .i64 en, .slice ea el ec] 69)).heap.size (w.alloc (Obj.cells #[.int .i64 ek, .int .i64 en, .slice ea el ec] 69))).alloc (Nat.le_refl _) (Obj.cells #[.int .i64 15] 3)).alloc (by simp) (Obj.cells #[.int .i64 0, .int .i64 1] 3)
 have HRN := hide (show Calls Tryz.prog 94 #[.agg #[.int .i64 ek, .int .i64 en, .slice ea el ec], .slice sa sl sc, .pointer (some ⟨w.heap.size + 1, 0, none⟩)] (((w.alloc (Obj.cells #[.int .i64 ek, .int .i64 en, .slice ea el ec] 69)).alloc (Obj.cells #[.int .i64 15] 3)).alloc (Obj.cells #[.int .i64 0, .int .i64 1] 3)) _ from renamed_any (w0 := (w.alloc (Obj.cells #[.int .i64 ek, .int .i64 en, .slice ea el ec] 69))) sa sl sc vs (unhide HRV) (n + 1) ⟨ek, en, ⟨ea, el, ec⟩⟩ x (w.heap.size + 1) 15 (((w.alloc (Obj.cells #[.int .i64 ek, .int .i64 en, .slice ea el ec] 69)).alloc (Obj.cells #[.int .i64 15] 3)).alloc (Obj.cells #[.int .i64 0, .int .i64 1] 3)) (unhide HRE) hb3 (by omega) (by simp <;> omega) (by go_simp) (by go_simp) (by omega))
 have HB3 := hide ((unhide HB1).trans (hb3.mono (by omega)))
 have hs3 : (((w.alloc (Obj.cells #[.int .i64 ek, .int .i64 en, .slice ea el ec] 69)).alloc (Obj.cells #[.int .i64 15] 3)).alloc (Obj.cells #[.int .i64 0, .int .i64 1] 3)).heap.size = w.heap.size + 3 := by simp
 have q0 : (((w.alloc (Obj.cells #[.int .i64 ek, .int .i64 en, .slice ea el ec] 69)).alloc (Obj.cells #[.int .i64 15] 3)).alloc (Obj.cells #[.int .i64 0, .int .i64 1] 3)).cell? ⟨w.heap.size + 2, 0, none⟩ = some (.int .i64 0) := by go_simp
 have q1 : (((w.alloc (Obj.cells #[.int .i64 ek, .int .i64 en, .slice ea el ec] 69)).alloc (Obj.cells #[.int .i64 15] 3)).alloc (Obj.cells #[.int .i64 0, .int .i64 1] 3)).cell? ⟨w.heap.size + 2, 1, none⟩ = some (.int .i64 1) := by go_simp
 clear hre hrv hb1 hb3 hs1
 go_enter Tryz.func50, Tryz.ntmps50
 go_wp2_with fail
 generalize (((w.alloc (Obj.cells #[.int .i64 ek, .int .i64 en, .slice ea el ec] 69)).alloc (Obj.cells #[.int .i64 15] 3)).alloc (Obj.cells #[.int .i64 0, .int .i64 1] 3)) = W3 at *
 refine (unhide HRN).mono ?_
 rintro r w4 ⟨⟨k, v, ⟨a4, n4, c4⟩⟩, hr4, hro, hcl, hfl, hbt⟩
 obtain rfl : r = .returned (.agg #[.int .i64 k, .int .i64 v, .slice a4 n4 c4]) := hr4
 clear HRN HRE HRV HB1
 have hz4 := hbt.size
 have hbV := (((Below.refl w4.heap.size w4).alloc (Nat.le_refl _) (Obj.cells #[.int .i64 5, .int .i64 0, .int .i64 0, .int .i64 0, .int .i64 0, .slice none 0 0, .int .i64 k, .int .i64 v, .slice a4 n4 c4, .slice none 0 0, .slice none 0 0, .slice none 0 0] 107)).alloc (by simp) (Obj.cells #[.int .i64 0, .slice (some ⟨w.heap.size + 1 + 1, 0, none⟩) 2 2, .slice (some ⟨w4.heap.size, 0, none⟩) 1 1, .int .i64 0, .int .i64 0, .slice none 0 0] 78)).alloc (by simp; omega) (Obj.cells #[.int .i64 0, .slice (some ⟨w.heap.size + 1 + 1, 0, none⟩) 2 2, .slice (some ⟨w4.heap.size, 0, none⟩) 1 1, .int .i64 0, .int .i64 0, .slice none 0 0] 78)
 have hrx := (hro.rx).later hbV (Nat.le_refl _)
 have hk := hbt.block (w.heap.size + 2) (by omega) (by omega)
 have r0 := (hbV.cell (p := ⟨w.heap.size + 2, 0, none⟩) (by show w.heap.size + 2 < w4.heap.size; omega)).trans ((Xr.cell_kept hk 0).trans q0)
 have r1 := (hbV.cell (p := ⟨w.heap.size + 2, 1, none⟩) (by show w.heap.size + 2 < w4.heap.size; omega)).trans ((Xr.cell_kept hk 1).trans q1)
 have hsV : (((w4.alloc (Obj.cells #[.int .i64 5, .int .i64 0, .int .i64 0, .int .i64 0, .int .i64 0, .slice none 0 0, .int .i64 k, .int .i64 v, .slice a4 n4 c4, .slice none 0 0, .slice none 0 0, .slice none 0 0] 107)).alloc (Obj.cells #[.int .i64 0, .slice (some ⟨w.heap.size + 1 + 1, 0, none⟩) 2 2, .slice (some ⟨w4.heap.size, 0, none⟩) 1 1, .int .i64 0, .int .i64 0, .slice none 0 0] 78)).alloc (Obj.cells #[.int .i64 0, .slice (some ⟨w.heap.size + 1 + 1, 0, none⟩) 2 2, .slice (some ⟨w4.heap.size, 0, none⟩) 1 1, .int .i64 0, .int .i64 0, .slice none 0 0] 78)).heap.size = w4.heap.size + 3 := by simp
 have HBV := hide (show Below w.heap.size w (((w4.alloc (Obj.cells #[.int .i64 5, .int .i64 0, .int .i64 0, .int .i64 0, .int .i64 0, .slice none 0 0, .int .i64 k, .int .i64 v, .slice a4 n4 c4, .slice none 0 0, .slice none 0 0, .slice none 0 0] 107)).alloc (Obj.cells #[.int .i64 0, .slice (some ⟨w.heap.size + 1 + 1, 0, none⟩) 2 2, .slice (some ⟨w4.heap.size, 0, none⟩) 1 1, .int .i64 0, .int .i64 0, .slice none 0 0] 78)).alloc (Obj.cells #[.int .i64 0, .slice (some ⟨w.heap.size + 1 + 1, 0, none⟩) 2 2, .slice (some ⟨w4.heap.size, 0, none⟩) 1 1, .int .i64 0, .int .i64 0, .slice none 0 0] 78)) from ⟨hbV.os.trans (hbt.os.trans (unhide HB3).os), hbV.tape.trans (hbt.tape.trans (unhide HB3).tape), hbV.output.trans (hbt.output.trans (unhide HB3).output), by have := (unhide HB3).size; omega, fun q hq => (hbV.block q (by omega)).trans ((hbt.block q (by omega) (by omega)).trans ((unhide HB3).block q hq))⟩)
 have HCK := hide (show Calls Tryz.prog 27 #[.agg #[.slice (some ⟨w4.heap.size + 1 + 1, 0, none⟩) 1 1]] (((w4.alloc (Obj.cells #[.int .i64 5, .int .i64 0, .int .i64 0, .int .i64 0, .int .i64 0, .slice none 0 0, .int .i64 k, .int .i64 v, .slice a4 n4 c4, .slice none 0 0, .slice none 0 0, .slice none 0 0] 107)).alloc (Obj.cells #[.int .i64 0, .slice (some ⟨w.heap.size + 1 + 1, 0, none⟩) 2 2, .slice (some ⟨w4.heap.size, 0, none⟩) 1 1, .int .i64 0, .int .i64 0, .slice none 0 0] 78)).alloc (Obj.cells #[.int .i64 0, .slice (some ⟨w.heap.size + 1 + 1, 0, none⟩) 2 2, .slice (some ⟨w4.heap.size, 0, none⟩) 1 1, .int .i64 0, .int .i64 0, .slice none 0 0] 78)) _ from Check_any ⟨some ⟨w4.heap.size + 1 + 1, 0, none⟩, 1, 1⟩ (Xr.prt (Xr.rn vs (n + 1) 15 x).1) (((w4.alloc (Obj.cells #[.int .i64 5, .int .i64 0, .int .i64 0, .int .i64 0, .int .i64 0, .slice none 0 0, .int .i64 k, .int .i64 v, .slice a4 n4 c4, .slice none 0 0, .slice none 0 0, .slice none 0 0] 107)).alloc (Obj.cells #[.int .i64 0, .slice (some ⟨w.heap.size + 1 + 1, 0, none⟩) 2 2, .slice (some ⟨w4.heap.size, 0, none⟩) 1 1, .int .i64 0, .int .i64 0, .slice none 0 0] 78)).alloc (Obj.cells #[.int .i64 0, .slice (some ⟨w.heap.size + 1 + 1, 0, none⟩) 2 2, .slice (some ⟨w4.heap.size, 0, none⟩) 1 1, .int .i64 0, .int .i64 0, .slice none 0 0] 78)) ⟨rfl, Nat.le_refl _, by simp [Xr.prt], fun i y hy => by
  match i, hy with
  | 0, hy =>
   cases hy
   refine ⟨w4.heap.size + 1 + 1, 0, ⟨0, ⟨some ⟨w.heap.size + 1 + 1, 0, none⟩, 2, 2⟩, ⟨some ⟨w4.heap.size, 0, none⟩, 1, 1⟩, ⟨0, 0, ⟨none, 0, 0⟩⟩⟩, rfl, by simp, ⟨by go_simp, by go_simp, by go_simp, by go_simp, by go_simp, by go_simp⟩, ⟨rfl, ⟨rfl, Nat.le_refl _, by simp, fun j z hz => ?_⟩, ⟨rfl, Nat.le_refl _, by show 1 ≤ 35184372088832; omega, fun j z hz => ?_⟩, ⟨⟨rfl, rfl⟩, Pg.RS.none _ _ _ _⟩⟩⟩
   · match j, hz with
     | 0, hz => cases hz; exact ⟨w.heap.size + 1 + 1, 0, rfl, by omega, r0⟩
     | 1, hz => cases hz; exact ⟨w.heap.size + 1 + 1, 0, rfl, by omega, r1⟩
     | _ + 2, hz => simp at hz
   · match j, hz with
     | 0, hz =>
      cases hz
      exact ⟨w4.heap.size, 0, ⟨5, 0, 0, ⟨0, 0, ⟨none, 0, 0⟩⟩, ⟨k, v, ⟨a4, n4, c4⟩⟩, ⟨none, 0, 0⟩, ⟨none, 0, 0⟩, ⟨none, 0, 0⟩⟩, rfl, by omega, ⟨by go_simp, by go_simp, by go_simp, by go_simp, by go_simp, by go_simp, by go_simp, by go_simp, by go_simp, by go_simp, by go_simp, by go_simp⟩, ⟨rfl, rfl, rfl⟩, ⟨⟨⟨rfl, rfl⟩, Pg.RS.none _ _ _ _⟩, hrx, Pg.RS.none _ _ _ _⟩, Pg.RS.none _ _ _ _, Pg.RS.none _ _ _ _⟩
     | _ + 1, hz => cases hz
  | _ + 1, hy => simp [Xr.prt] at hy⟩ (Xr.prt_fit _))
 have HE := hide (show Pg.chkP (Xr.prt (Xr.rn vs (n + 1) 15 x).1) = Pg.chkX (Pg.sizesOf vs) (n + 1) x by rw [Xr.prt_chk, Xr.chkX_rn])
 generalize Pg.chkP (Xr.prt (Xr.rn vs (n + 1) 15 x).1) = R at *
 clear hcl hfl hro hbt hrx hk r0 r1 hsV hz4 hbV q0 q1 hs3 HB3
 go_wp2_with fail
 refine (unhide HCK).mono ?_
 rintro r w5 ⟨rfl, hb5⟩
 have HB5 := hide ((unhide HBV).trans (hb5.mono (unhide HBV).size))
 clear hb5
 go_wp2_with fail
 go_ret
 exact ⟨by rw [unhide HE]; rfl, unhide HB5⟩
def Xr.evE (vs : List (List Int)) (n : Nat) (x : Pg.XT n) : Nat := if Pg.chkX (Pg.sizesOf vs) n x = 0 then (if vs.any Pg.beyondV then 3 else 0) else Pg.chkX (Pg.sizesOf vs) n x
def Xr.evV (vs : List (List Int)) (n : Nat) (x : Pg.XT n) : Int × Int := if Xr.evE vs n x = 0 then Pg.val vs n x else (0, 0)
theorem Pg.okV_chk {vs : List (List Int)} {n : Nat} {x : Pg.XT n} {w : World} {e : Pg.E} (hr : Pg.RX w n e x) (h : Pg.chkX (Pg.sizesOf vs) n x = 0) : Pg.okV vs n x := by
 cases n with
 | zero => exact absurd hr id
 | succ n =>
  refine Pg.okV_of vs n x ?_
  unfold Pg.chkX at h
  split at h
  · cases h
  · exact h
theorem Eval_any (sa : Option Addr) (sl sc : Nat) (vs : List (List Int)) (n : Nat) (e : Pg.E) (x : Pg.XT n) (w : World) (hre : Pg.RX w n e x) (hrv : Pg.RV w ⟨sa, sl, sc⟩ vs) :
  Calls Tryz.prog 24 #[e.val, .slice sa sl sc] w fun r w' => r = .returned (.tuple #[.int .i64 (Xr.evV vs n x).1, .int .i64 (Xr.evV vs n x).2, .int .i64 (Xr.evE vs n x : Nat)]) ∧ Below w.heap.size w w' := by
 obtain ⟨ek, en, ea, el, ec⟩ := e
 show Calls Tryz.prog 24 #[.agg #[.int .i64 ek, .int .i64 en, .slice ea el ec], .slice sa sl sc] w _
 have hb1 := (Below.refl w.heap.size w).alloc (Nat.le_refl _) (Obj.cells #[.int .i64 ek, .int .i64 en, .slice ea el ec] 69)
 have l0 : (w.alloc (Obj.cells #[.int .i64 ek, .int .i64 en, .slice ea el ec] 69)).cell? ⟨w.heap.size, 0, none⟩ = some (.int .i64 ek) := by go_simp
 have l1 : (w.alloc (Obj.cells #[.int .i64 ek, .int .i64 en, .slice ea el ec] 69)).cell? ⟨w.heap.size, 1, none⟩ = some (.int .i64 en) := by go_simp
 have l2 : (w.alloc (Obj.cells #[.int .i64 ek, .int .i64 en, .slice ea el ec] 69)).cell? ⟨w.heap.size, 2, none⟩ = some (.slice ea el ec) := by go_simp
 have HRE := hide (hre.later hb1 (Nat.le_refl _))
 have HRV := hide (hrv.later hb1 (Nat.le_refl _))
 have HFO := hide (show Calls Tryz.prog 50 #[.agg #[.int .i64 ek, .int .i64 en, .slice ea el ec], .slice sa sl sc] (w.alloc (Obj.cells #[.int .i64 ek, .int .i64 en, .slice ea el ec] 69)) _ from formOf_any sa sl sc vs n ⟨ek, en, ⟨ea, el, ec⟩⟩ x _ (unhide HRE) (unhide HRV))
 have HB1 := hide hb1
 have HEE := hide (show Xr.evE vs n x = if Pg.chkX (Pg.sizesOf vs) n x = 0 then (if vs.any Pg.beyondV then 3 else 0) else Pg.chkX (Pg.sizesOf vs) n x from rfl)
 have HEV := hide (show Xr.evV vs n x = if Xr.evE vs n x = 0 then Pg.val vs n x else (0, 0) from rfl)
 have HOK := hide (fun (h : Pg.chkX (Pg.sizesOf vs) n x = 0) => Pg.okV_chk hre h)
 generalize Xr.evE vs n x = EE at *
 generalize Xr.evV vs n x = EV at *
 clear hre hrv hb1
 go_enter Tryz.func24, Tryz.ntmps24
 go_wp2_with fail
 generalize w.alloc (Obj.cells #[.int .i64 ek, .int .i64 en, .slice ea el ec] 69) = W1 at *
 refine (unhide HFO).mono ?_
 rintro r w2 ⟨rfl, hb2⟩
 have hlt := World.block_lt_of_cell? _ _ l0
 have m0 := (hb2.cell (p := ⟨w.heap.size, 0, none⟩) hlt).trans l0
 have m1 := (hb2.cell (p := ⟨w.heap.size, 1, none⟩) hlt).trans l1
 have m2 := (hb2.cell (p := ⟨w.heap.size, 2, none⟩) hlt).trans l2
 have HB2 := hide ((unhide HB1).trans (hb2.mono (unhide HB1).size))
 have HRE2 := hide ((unhide HRE).later hb2 (Nat.le_refl _))
 have HRV2 := hide ((unhide HRV).later hb2 (Nat.le_refl _))
 clear hb2 hlt l0 l1 l2 HFO HRE HRV HB1
 by_cases hc : Pg.chkX (Pg.sizesOf vs) n x = 0
 case neg =>
  have HE1 := hide (show EE = Pg.chkX (Pg.sizesOf vs) n x by rw [unhide HEE, if_neg hc])
  have HV1 := hide (show EV = (0, 0) by rw [unhide HEV, unhide HE1, if_neg hc])
  clear HEE HEV HOK
  generalize Pg.chkX (Pg.sizesOf vs) n x = R at *
  have bc : (((R : Nat) : Int) != 0) = true := by simp; exact hc
  clear hc
  go_wp2_with fail
  refine bodyPost_ret (v := .tuple #[.int .i64 0, .int .i64 0, .int .i64 (R : Nat)]) (by simp [results, Tryz.results24, go_sem]) rfl ?_
  rw [unhide HE1, unhide HV1]
  exact ⟨rfl, unhide HB2⟩
 case pos =>
  have HOK2 := hide ((unhide HOK) hc)
  have HE1 := hide (show EE = if vs.any Pg.beyondV then 3 else 0 by rw [unhide HEE, if_pos hc])
  have HBY := hide (evalBeyond_contains ⟨sa, sl, sc⟩ vs w2 (unhide HRV2))
  rw [hc]
  clear hc HEE HOK
  generalize vs.any Pg.beyondV = BY at *
  go_wp2_with fail
  refine (unhide HBY).mono ?_
  rintro r w3 ⟨rfl, hw3⟩
  subst hw3
  cases BY
  case true =>
   have HE2 := hide (show EE = 3 by rw [unhide HE1]; rfl)
   have HV1 := hide (show EV = (0, 0) by rw [unhide HEV, unhide HE2]; rfl)
   go_wp2_with fail
   refine bodyPost_ret (v := .tuple #[.int .i64 0, .int .i64 0, .int .i64 3]) (by simp [results, Tryz.results24, go_sem]) rfl ?_
   rw [unhide HE2, unhide HV1]
   exact ⟨rfl, unhide HB2⟩
  case false =>
   have HE2 := hide (show EE = 0 by rw [unhide HE1]; rfl)
   have HV1 := hide (show EV = Pg.val vs n x by rw [unhide HEV, unhide HE2]; rfl)
   have HRK := hide (show Calls Tryz.prog 53 #[.agg #[.int .i64 ek, .int .i64 en, .slice ea el ec], .slice sa sl sc] w3 _ from reckon_any sa sl sc vs n ⟨ek, en, ⟨ea, el, ec⟩⟩ x w3 (unhide HRE2) (unhide HRV2) (unhide HOK2))
   generalize Pg.val vs n x = V at *
   obtain ⟨v1, v2⟩ := V
   go_wp2_with fail
   refine (unhide HRK).mono ?_
   rintro r w4 ⟨rfl, hb4⟩
   have HB4 := hide ((unhide HB2).trans (hb4.mono (unhide HB2).size))
   clear hb4
   go_wp2_with fail
   refine bodyPost_ret (v := .tuple #[.int .i64 v1, .int .i64 v2, .int .i64 0]) (by simp [results, Tryz.results24, go_sem]) rfl ?_
   rw [unhide HE2, unhide HV1]
   exact ⟨rfl, unhide HB4⟩
end Go.Proofs.YtpfogjplnodacaaGreat
namespace Go.Proofs.YtpfogjplnodacaaGreat
open Go.RowKit Go.Maps
set_option linter.unusedVariables false
def Vm.two (k : Int) : Pg.XT 2 := ((k, 0), [((2, 0), []), ((2, 1), [])])
theorem Vm.two_eE {k i n : Int} (hk : 4 ≤ k ∧ k ≤ 10) (hi : Vd.nm i) (hn : Vd.nm n) : Xr.evE [[i], [n]] 2 (Vm.two k) = 0 := by
 have h1 : Pg.chkX (Pg.sizesOf [[i], [n]]) 2 (Vm.two k) = 0 := by
  rcases (show k = 4 ∨ k = 5 ∨ k = 6 ∨ k = 7 ∨ k = 8 ∨ k = 9 ∨ k = 10 by omega) with rfl | rfl | rfl | rfl | rfl | rfl | rfl <;> rfl
 unfold Xr.evE
 rw [if_pos h1, if_neg]
 unfold Vd.nm at hi hn
 simp [Pg.beyondV, hi, hn]
theorem Vm.two_eV {k i n : Int} (hk : 4 ≤ k ∧ k ≤ 10) (hi : Vd.nm i) (hn : Vd.nm n) : Xr.evV [[i], [n]] 2 (Vm.two k) = Pg.op k i n := by
 unfold Xr.evV
 rw [if_pos (Vm.two_eE hk hi hn)]
 rcases (show k = 4 ∨ k = 5 ∨ k = 6 ∨ k = 7 ∨ k = 8 ∨ k = 9 ∨ k = 10 by omega) with rfl | rfl | rfl | rfl | rfl | rfl | rfl <;> rfl
theorem Vm.two_rx {W : World} {b : Nat} {k : Int} (h : Vm.Bx W b [.int .i64 2, .int .i64 0, .slice none 0 0, .int .i64 2, .int .i64 1, .slice none 0 0]) : Pg.RX W 2 ⟨k, 0, ⟨some ⟨b, 0, none⟩, 2, 2⟩⟩ (Vm.two k) := by
 have leaf : ∀ m : Int, Pg.RX W 1 ⟨2, m, ⟨none, 0, 0⟩⟩ ((2, m), []) := fun m => ⟨⟨rfl, rfl⟩, rfl, Nat.le_refl _, by simp, fun i y hy => by simp at hy⟩
 refine ⟨⟨rfl, rfl⟩, rfl, Nat.le_refl _, by show 2 ≤ _; omega, fun i y hy => ?_⟩
 have hy2 : [(((2, 0), []) : Pg.XT 1), ((2, 1), [])][i]? = some y := hy
 match i, hy2 with
 | 0, hy2 =>
  cases hy2
  exact ⟨b, 0, ⟨2, 0, ⟨none, 0, 0⟩⟩, rfl, h.lt, ⟨h.at_ 0 _ rfl, h.at_ 1 _ rfl, h.at_ 2 _ rfl⟩, leaf 0⟩
 | 1, hy2 =>
  cases hy2
  exact ⟨b, 0, ⟨2, 1, ⟨none, 0, 0⟩⟩, rfl, h.lt, ⟨h.at_ 3 _ rfl, h.at_ 4 _ rfl, h.at_ 5 _ rfl⟩, leaf 1⟩
 | j + 2, hy2 => simp at hy2
theorem Vm.two_rv {W : World} {b g o cc dd : Nat} {i n : Int} (h : Vm.Bx W b [.slice (some ⟨g, o, none⟩) 1 cc, .slice (some ⟨g, o + 1, none⟩) 1 dd]) (hg : g < W.heap.size) (hc : 1 ≤ cc) (hd : 1 ≤ dd) (h0 : W.cell? ⟨g, o, none⟩ = some (.int .i64 i)) (h1 : W.cell? ⟨g, o + 1, none⟩ = some (.int .i64 n)) : Pg.RV W ⟨some ⟨b, 0, none⟩, 2, 2⟩ [[i], [n]] := by
 refine ⟨rfl, Nat.le_refl _, by show 2 ≤ _; omega, fun j l hl => ?_⟩
 match j, hl with
 | 0, hl =>
  cases hl
  refine ⟨b, 0, ⟨some ⟨g, o, none⟩, 1, cc⟩, rfl, h.lt, h.at_ 0 _ rfl, rfl, hc, by show 1 ≤ _; omega, fun u y hu => ?_⟩
  match u, hu with
  | 0, hu => cases hu; exact ⟨g, o, rfl, hg, h0⟩
  | u + 1, hu => simp at hu
 | 1, hl =>
  cases hl
  refine ⟨b, 0, ⟨some ⟨g, o + 1, none⟩, 1, dd⟩, rfl, h.lt, h.at_ 1 _ rfl, rfl, hd, by show 1 ≤ _; omega, fun u y hu => ?_⟩
  match u, hu with
  | 0, hu => cases hu; exact ⟨g, o + 1, rfl, hg, h1⟩
  | u + 1, hu => simp at hu
 | j + 2, hl => simp at hl
theorem vjoin_any {w0 W : World} {tg : Nat → Nat} {N bm : Nat} {c : Vm.Cx} {ss : List (List Int)} {s : Xr.S} {f : Vd.F} {z : Vm.Z} {r : List Vm.X} {rf ev : Value} {li : List Kd.I} (hfo : Vd.FOk li ss f) (h : Vm.J w0 W tg N bm c ss s ((f, z) :: r) rf ev) (hs : s.ended = false) (hle : s.evs.length ≤ 1000000) {n i : Int} {q : List Int} (hp : f.pile = n :: i :: q) {k : Int} (hk : 4 ≤ k ∧ k ≤ 10) :
  Calls Tryz.prog 84 #[.pointer (some ⟨bm, 0, none⟩), .pointer (some ⟨z.bf, 0, none⟩), .int .i64 k] W fun rr W' => rr = .returned (.tuple #[]) ∧ Vm.Q w0 bm c ss N (if (Pg.op k i n).2 = 0 then ⟨s, { f with pile := (Pg.op k i n).1 :: q } :: r.map Prod.fst, false⟩ else Vd.over (Xr.fin s f.fr f.fr.at_ (Pg.op k i n).2)) W' := by
 have htop := hfo.top
 have hnn : Vd.nm n := hfo.num n (by rw [hp]; exact List.mem_cons_self)
 have hni : Vd.nm i := hfo.num i (by rw [hp]; exact List.mem_cons_of_mem _ List.mem_cons_self)
 have hpa := vpopAll_any h.frs.1 2 (show 2 ≤ f.pile.length by rw [hp]; simp) (show f.pile.length ≤ 1000 by omega)
 rw [show ((f, z).1.pile.take 2).reverse = [i, n] by show (f.pile.take 2).reverse = _; rw [hp]; rfl, show (f, z).1.pile.drop 2 = q by show f.pile.drop 2 = q; rw [hp]; rfl] at hpa
 have HP := hide hpa
 have hq64 : q.length ≤ 1000 := by rw [hp] at htop; simp at htop; omega
 have HJ := hide h
 have HSE := hide hs
 have HEV := hide (fun (V : World) (sa : Option Addr) (e : Pg.E) (h1 : Pg.RX V 2 e (Vm.two k)) (h2 : Pg.RV V ⟨sa, 2, 2⟩ [[i], [n]]) => by
  have := Eval_any sa 2 2 [[i], [n]] 2 e (Vm.two k) V h1 h2
  rw [Vm.two_eE hk hni hnn, Vm.two_eV hk hni hnn] at this
  exact this)
 generalize Pg.op k i n = R at *
 obtain ⟨R1, R2⟩ := R
 dsimp only at *
 clear h hs hpa hp hnn hni
 go_enter Tryz.func84, Tryz.ntmps84
 go_wp2_with fail
 refine (unhide HP).mono ?_
 rintro r1 w1 ⟨a1, c1, z1, rfl, hcc, hz1, hf1, hk1, hpd⟩
 have hJ1 := (unhide HJ).frame hf1 hz1 (Nat.le_refl _) hk1
 obtain ⟨b1, o1, rfl, hbl, _, e0⟩ := hpd 0 _ rfl
 obtain ⟨b1', o1', hh, _, _, e1⟩ := hpd 1 _ rfl
 cases hh
 rw [Nat.add_zero] at e0
 have HJ1 := hide hJ1
 have HZ1 := hide hz1
 clear hf1 hz1 hk1 hJ1 hpd
 have g1 : (1 : Int) ≤ (c1 : Int) := by omega
 have g2 : 1 ≤ c1 := by omega
 have g3 : ¬ c1 = 1 := by omega
 have g4 : (1 : Int) < (c1 : Int) := by omega
 go_upto_region 2 with fail
 have hbx1 := Vm.Bx.new (heap_alloc_new w1 (Obj.cells #[.int .i64 2, .int .i64 0, .slice none 0 0, .int .i64 2, .int .i64 1, .slice none 0 0] 69))
 have hbx2 := Vm.Bx.new (heap_alloc_new (w1.alloc (Obj.cells #[.int .i64 2, .int .i64 0, .slice none 0 0, .int .i64 2, .int .i64 1, .slice none 0 0] 69)) (Obj.cells #[.int .i64 k, .int .i64 0, .slice (some ⟨w1.heap.size, 0, none⟩) 2 2] 69))
 have hba := (Below.refl w1.heap.size w1).alloc (Nat.le_refl _) (Obj.cells #[.int .i64 2, .int .i64 0, .slice none 0 0, .int .i64 2, .int .i64 1, .slice none 0 0] 69)
 have hbb := (Below.refl (w1.alloc (Obj.cells #[.int .i64 2, .int .i64 0, .slice none 0 0, .int .i64 2, .int .i64 1, .slice none 0 0] 69)).heap.size (w1.alloc (Obj.cells #[.int .i64 2, .int .i64 0, .slice none 0 0, .int .i64 2, .int .i64 1, .slice none 0 0] 69))).alloc (Nat.le_refl _) (Obj.cells #[.int .i64 k, .int .i64 0, .slice (some ⟨w1.heap.size, 0, none⟩) 2 2] 69)
 have hbx1' := hbx1.kept hbb.size (hbb.block _ hbx1.lt)
 have hB2 := hba.trans (hbb.mono hba.size)
 have hsz1 : (w1.alloc (Obj.cells #[.int .i64 2, .int .i64 0, .slice none 0 0, .int .i64 2, .int .i64 1, .slice none 0 0] 69)).heap.size = w1.heap.size + 1 := by simp
 rw [hsz1] at hbx2
 generalize (w1.alloc (Obj.cells #[.int .i64 2, .int .i64 0, .slice none 0 0, .int .i64 2, .int .i64 1, .slice none 0 0] 69)).alloc (Obj.cells #[.int .i64 k, .int .i64 0, .slice (some ⟨w1.heap.size, 0, none⟩) 2 2] 69) = W2 at *
 clear hbx1 hba hbb hsz1
 have m0 := hbx2.at_ 0 _ rfl
 have m1 := hbx2.at_ 1 _ rfl
 have m2 := hbx2.at_ 2 _ rfl
 have hE : ∀ V, V = (W2.alloc (Obj.cells #[.slice (some ⟨b1, o1, none⟩) 1 c1, .slice (some ⟨b1, o1 + 1, none⟩) 1 (c1 - 1)] 23)).drew → Calls Tryz.prog 24 #[.agg #[.int .i64 k, .int .i64 0, .slice (some ⟨w1.heap.size, 0, none⟩) 2 2], .slice (some ⟨W2.heap.size, 0, none⟩) 2 2] V fun r w' => r = .returned (.tuple #[.int .i64 R1, .int .i64 R2, .int .i64 ((0 : Nat) : Int)]) ∧ Below w1.heap.size w1 w' ∧ Below W2.heap.size W2 w' := by
  rintro V rfl
  have hb3 : Below W2.heap.size W2 (W2.alloc (Obj.cells #[.slice (some ⟨b1, o1, none⟩) 1 c1, .slice (some ⟨b1, o1 + 1, none⟩) 1 (c1 - 1)] 23)).drew := ((Below.refl W2.heap.size W2).alloc (Nat.le_refl _) _).drew
  have hx3 : Vm.Bx (W2.alloc (Obj.cells #[.slice (some ⟨b1, o1, none⟩) 1 c1, .slice (some ⟨b1, o1 + 1, none⟩) 1 (c1 - 1)] 23)).drew W2.heap.size [.slice (some ⟨b1, o1, none⟩) 1 c1, .slice (some ⟨b1, o1 + 1, none⟩) 1 (c1 - 1)] := Vm.Bx.new (heap_alloc_new W2 (Obj.cells #[.slice (some ⟨b1, o1, none⟩) 1 c1, .slice (some ⟨b1, o1 + 1, none⟩) 1 (c1 - 1)] 23))
  have hB3 := hB2.trans (hb3.mono hB2.size)
  have hbk := hB3.block b1 hbl
  refine ((unhide HEV) (W2.alloc (Obj.cells #[.slice (some ⟨b1, o1, none⟩) 1 c1, .slice (some ⟨b1, o1 + 1, none⟩) 1 (c1 - 1)] 23)).drew (some ⟨W2.heap.size, 0, none⟩) ⟨k, 0, ⟨some ⟨w1.heap.size, 0, none⟩, 2, 2⟩⟩ (Vm.two_rx (hbx1'.kept hb3.size (hb3.block _ hbx1'.lt))) (Vm.two_rv hx3 (by have := hB3.size; omega) g2 (by omega) ((Xr.cell_kept hbk o1).trans e0) ((Xr.cell_kept hbk (o1 + 1)).trans e1))).mono ?_
  rintro r3 w3 ⟨h1, h2⟩
  exact ⟨h1, hB3.trans (h2.mono hB3.size), hb3.trans (h2.mono hb3.size)⟩
 have HE := hide hE
 have HMB := hide (show ∀ V, Below W2.heap.size W2 V → V.cell? ⟨w1.heap.size + 1, 0, none⟩ = some (.int .i64 k) ∧ V.cell? ⟨w1.heap.size + 1, 1, none⟩ = some (.int .i64 0) ∧ V.cell? ⟨w1.heap.size + 1, 2, none⟩ = some (.slice (some ⟨w1.heap.size, 0, none⟩) 2 2) from fun V hV => ⟨(Xr.cell_kept (hV.block _ hbx2.lt) 0).trans m0, (Xr.cell_kept (hV.block _ hbx2.lt) 1).trans m1, (Xr.cell_kept (hV.block _ hbx2.lt) 2).trans m2⟩)
 have HM0 := hide ((unhide HMB) _ (Below.refl W2.heap.size W2).drew)
 clear hE hbx1' hbx2 hB2
 go_cut [8, 9] (fun v h V => v = .int .i64 R1 ∧ h = .int .i64 R2 ∧ Below w1.heap.size w1 V)
 case first =>
  go_region_held3 (fun V => V.cell? ⟨w1.heap.size + 1, 0, none⟩ = some (.int .i64 k) ∧ V.cell? ⟨w1.heap.size + 1, 1, none⟩ = some (.int .i64 0) ∧ V.cell? ⟨w1.heap.size + 1, 2, none⟩ = some (.slice (some ⟨w1.heap.size, 0, none⟩) 2 2))
   (first | assumption | exact unhide HM0 | exact (unhide HMB) _ ((Below.refl W2.heap.size W2).alloc (Nat.le_refl _) _).drew | exact unhide HM3)
   (first | (go_at_call 24; refine ((unhide HE) _ ?_).mono ?_; rfl; rintro r3 w3 ⟨rfl, hb3, hb4⟩; have HB3 := hide hb3; have HM3 := hide ((unhide HMB) _ hb4); clear hb3 hb4))
  all_goals
   go_wp2_with fail
   go_meet
   case rel => exact ⟨rfl, rfl, unhide HB3⟩
 case rest =>
  rename World => W5
  obtain ⟨rfl, rfl, hB5⟩ := hcut
  have hJ5 := (unhide HJ1).below hB5
  have k0 := hJ5.frs.1.k0
  have k1 := hJ5.frs.1.k1
  rw [show ((({ f with pile := q } : Vd.F), z1) : Vm.X).2.bf = z.bf from unhide HZ1] at k0 k1
  clear m0 m1 m2 e0 e1
  by_cases h0 : R2 = 0
  · have HH := hide h0
    have g5 : (R2 != 0) = false := by rw [h0]; rfl
    clear h0
    have hps := vpush_any hJ5.frs.1 hJ5.bel.size R1 (by exact hq64)
    rw [show ((({ f with pile := q } : Vd.F), z1) : Vm.X).2.bf = z.bf from unhide HZ1] at hps
    have HPS := hide hps
    have HJ5 := hide hJ5
    clear hJ5 hps hB5
    go_wp2_with fail
    refine (unhide HPS).mono ?_
    rintro r6 w6 ⟨rfl, tg6, z6, hz6, hf6, hk6⟩
    have HJ6 := hide ((unhide HJ5).frame hf6 (hz6.trans (unhide HZ1).symm) (Nat.le_refl _) hk6)
    clear hf6 hz6 hk6
    go_wp2_with fail
    go_end0
    try rw [if_pos (unhide HH)]
    exact ⟨rfl, Vm.Q.on (unhide HJ6) (unhide HSE) rfl⟩
  · have HH := hide h0
    have HEN := hide (vjend_any (N' := N) hJ5 z.bf f.fr f.fr.at_ R2 k0 (unhide HSE) hle)
    have g5 : (R2 != 0) = true := by simpa using h0
    clear hJ5 hB5 h0
    go_wp2_with fail
    refine (unhide HEN).mono ?_
    rintro r6 w6 ⟨rfl, hq6⟩
    have HQ6 := hide hq6
    clear hq6
    go_wp2_with fail
    try simp only [Exit.inBlock, Exit.then]
    refine bodyPost_ret (results_none rfl _ _ _) rfl ?_
    try rw [if_neg (unhide HH)]
    exact ⟨rfl, unhide HQ6⟩
end Go.Proofs.YtpfogjplnodacaaGreat
