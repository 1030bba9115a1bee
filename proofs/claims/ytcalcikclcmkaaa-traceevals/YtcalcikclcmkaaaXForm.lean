/-
  The contracts of trace's formOf and Eval. By the verifier.
-/
import Derived.Test.YtcalcikclcmkaaaXRenamed
import Derived.Test.YtcalcikclcmkaaaPHasV
namespace Go.Proofs.Ytcalcikclcmkaaa
open Go.RowKit
set_option linter.unusedVariables false

set_option maxRecDepth 100000 in
set_option maxHeartbeats 1600000 in
theorem formOf_any (sa : Option Addr) (sl sc : Nat) (vs : List (List Int)) (n : Nat) (e : Pg.E) (x : Pg.XT n) (w : World) (hre : Pg.RX w n e x) (hrv : Pg.RV w ⟨sa, sl, sc⟩ vs) :
    Calls Try.prog 23 #[e.val, .slice sa sl sc] w fun r w' => r = .returned (.int .i64 (Pg.chkX (Pg.sizesOf vs) n x : Nat)) ∧ Below w.heap.size w w' := by
  cases n with
  | zero => exact absurd hre id
  | succ n =>
  obtain ⟨ek, en, ea, el, ec⟩ := e
  show Calls Try.prog 23 #[.agg #[.int .i64 ek, .int .i64 en, .slice ea el ec], .slice sa sl sc] w _
  have hb1 := (Below.refl w.heap.size w).alloc (Nat.le_refl _) (Obj.cells #[.int .i64 ek, .int .i64 en, .slice ea el ec] 24)
  have hs1 : (w.alloc (Obj.cells #[.int .i64 ek, .int .i64 en, .slice ea el ec] 24)).heap.size = w.heap.size + 1 := by simp
  have HRE := hide (hre.later hb1 (Nat.le_refl _))
  have HRV := hide (hrv.later hb1 (Nat.le_refl _))
  have HB1 := hide hb1
  have hb3 := ((Below.refl (w.alloc (Obj.cells #[.int .i64 ek, .int .i64 en, .slice ea el ec] 24)).heap.size (w.alloc (Obj.cells #[.int .i64 ek, .int .i64 en, .slice ea el ec] 24))).alloc (Nat.le_refl _) (Obj.cells #[.int .i64 15] 3)).alloc (by simp) (Obj.cells #[.int .i64 0, .int .i64 1] 3)
  have HRN := hide (show Calls Try.prog 58 #[.agg #[.int .i64 ek, .int .i64 en, .slice ea el ec], .slice sa sl sc, .pointer (some ⟨w.heap.size + 1, 0, none⟩)] (((w.alloc (Obj.cells #[.int .i64 ek, .int .i64 en, .slice ea el ec] 24)).alloc (Obj.cells #[.int .i64 15] 3)).alloc (Obj.cells #[.int .i64 0, .int .i64 1] 3)) _ from renamed_any (w0 := (w.alloc (Obj.cells #[.int .i64 ek, .int .i64 en, .slice ea el ec] 24))) sa sl sc vs (unhide HRV) (n + 1) ⟨ek, en, ⟨ea, el, ec⟩⟩ x (w.heap.size + 1) 15 (((w.alloc (Obj.cells #[.int .i64 ek, .int .i64 en, .slice ea el ec] 24)).alloc (Obj.cells #[.int .i64 15] 3)).alloc (Obj.cells #[.int .i64 0, .int .i64 1] 3)) (unhide HRE) hb3 (by omega) (by simp <;> omega) (by go_simp) (by go_simp) (by omega))
  have HB3 := hide ((unhide HB1).trans (hb3.mono (by omega)))
  have hs3 : (((w.alloc (Obj.cells #[.int .i64 ek, .int .i64 en, .slice ea el ec] 24)).alloc (Obj.cells #[.int .i64 15] 3)).alloc (Obj.cells #[.int .i64 0, .int .i64 1] 3)).heap.size = w.heap.size + 3 := by simp
  have q0 : (((w.alloc (Obj.cells #[.int .i64 ek, .int .i64 en, .slice ea el ec] 24)).alloc (Obj.cells #[.int .i64 15] 3)).alloc (Obj.cells #[.int .i64 0, .int .i64 1] 3)).cell? ⟨w.heap.size + 2, 0, none⟩ = some (.int .i64 0) := by go_simp
  have q1 : (((w.alloc (Obj.cells #[.int .i64 ek, .int .i64 en, .slice ea el ec] 24)).alloc (Obj.cells #[.int .i64 15] 3)).alloc (Obj.cells #[.int .i64 0, .int .i64 1] 3)).cell? ⟨w.heap.size + 2, 1, none⟩ = some (.int .i64 1) := by go_simp
  clear hre hrv hb1 hb3 hs1
  go_enter Try.func23, Try.ntmps23
  go_wp2_with fail
  generalize (((w.alloc (Obj.cells #[.int .i64 ek, .int .i64 en, .slice ea el ec] 24)).alloc (Obj.cells #[.int .i64 15] 3)).alloc (Obj.cells #[.int .i64 0, .int .i64 1] 3)) = W3 at *
  refine (unhide HRN).mono ?_
  rintro r w4 ⟨⟨k, v, ⟨a4, n4, c4⟩⟩, hr4, hro, hcl, hfl, hbt⟩
  obtain rfl : r = .returned (.agg #[.int .i64 k, .int .i64 v, .slice a4 n4 c4]) := hr4
  clear HRN HRE HRV HB1
  have hz4 := hbt.size
  have hbV := (((Below.refl w4.heap.size w4).alloc (Nat.le_refl _) (Obj.cells #[.int .i64 5, .int .i64 0, .int .i64 0, .int .i64 0, .int .i64 0, .slice none 0 0, .int .i64 k, .int .i64 v, .slice a4 n4 c4, .slice none 0 0, .slice none 0 0, .slice none 0 0] 80)).alloc (by simp) (Obj.cells #[.int .i64 0, .slice (some ⟨w.heap.size + 1 + 1, 0, none⟩) 2 2, .slice (some ⟨w4.heap.size, 0, none⟩) 1 1, .int .i64 0, .int .i64 0, .slice none 0 0] 78)).alloc (by simp; omega) (Obj.cells #[.int .i64 0, .slice (some ⟨w.heap.size + 1 + 1, 0, none⟩) 2 2, .slice (some ⟨w4.heap.size, 0, none⟩) 1 1, .int .i64 0, .int .i64 0, .slice none 0 0] 78)
  have hrx := (hro.rx).later hbV (Nat.le_refl _)
  have hk := hbt.block (w.heap.size + 2) (by omega) (by omega)
  have r0 := (hbV.cell (p := ⟨w.heap.size + 2, 0, none⟩) (by show w.heap.size + 2 < w4.heap.size; omega)).trans ((Xr.cell_kept hk 0).trans q0)
  have r1 := (hbV.cell (p := ⟨w.heap.size + 2, 1, none⟩) (by show w.heap.size + 2 < w4.heap.size; omega)).trans ((Xr.cell_kept hk 1).trans q1)
  have hsV : (((w4.alloc (Obj.cells #[.int .i64 5, .int .i64 0, .int .i64 0, .int .i64 0, .int .i64 0, .slice none 0 0, .int .i64 k, .int .i64 v, .slice a4 n4 c4, .slice none 0 0, .slice none 0 0, .slice none 0 0] 80)).alloc (Obj.cells #[.int .i64 0, .slice (some ⟨w.heap.size + 1 + 1, 0, none⟩) 2 2, .slice (some ⟨w4.heap.size, 0, none⟩) 1 1, .int .i64 0, .int .i64 0, .slice none 0 0] 78)).alloc (Obj.cells #[.int .i64 0, .slice (some ⟨w.heap.size + 1 + 1, 0, none⟩) 2 2, .slice (some ⟨w4.heap.size, 0, none⟩) 1 1, .int .i64 0, .int .i64 0, .slice none 0 0] 78)).heap.size = w4.heap.size + 3 := by simp
  have HBV := hide (show Below w.heap.size w (((w4.alloc (Obj.cells #[.int .i64 5, .int .i64 0, .int .i64 0, .int .i64 0, .int .i64 0, .slice none 0 0, .int .i64 k, .int .i64 v, .slice a4 n4 c4, .slice none 0 0, .slice none 0 0, .slice none 0 0] 80)).alloc (Obj.cells #[.int .i64 0, .slice (some ⟨w.heap.size + 1 + 1, 0, none⟩) 2 2, .slice (some ⟨w4.heap.size, 0, none⟩) 1 1, .int .i64 0, .int .i64 0, .slice none 0 0] 78)).alloc (Obj.cells #[.int .i64 0, .slice (some ⟨w.heap.size + 1 + 1, 0, none⟩) 2 2, .slice (some ⟨w4.heap.size, 0, none⟩) 1 1, .int .i64 0, .int .i64 0, .slice none 0 0] 78)) from ⟨hbV.os.trans (hbt.os.trans (unhide HB3).os), hbV.tape.trans (hbt.tape.trans (unhide HB3).tape), hbV.output.trans (hbt.output.trans (unhide HB3).output), by have := (unhide HB3).size; omega, fun q hq => (hbV.block q (by omega)).trans ((hbt.block q (by omega) (by omega)).trans ((unhide HB3).block q hq))⟩)
  have HCK := hide (show Calls Try.prog 35 #[.agg #[.slice (some ⟨w4.heap.size + 1 + 1, 0, none⟩) 1 1]] (((w4.alloc (Obj.cells #[.int .i64 5, .int .i64 0, .int .i64 0, .int .i64 0, .int .i64 0, .slice none 0 0, .int .i64 k, .int .i64 v, .slice a4 n4 c4, .slice none 0 0, .slice none 0 0, .slice none 0 0] 80)).alloc (Obj.cells #[.int .i64 0, .slice (some ⟨w.heap.size + 1 + 1, 0, none⟩) 2 2, .slice (some ⟨w4.heap.size, 0, none⟩) 1 1, .int .i64 0, .int .i64 0, .slice none 0 0] 78)).alloc (Obj.cells #[.int .i64 0, .slice (some ⟨w.heap.size + 1 + 1, 0, none⟩) 2 2, .slice (some ⟨w4.heap.size, 0, none⟩) 1 1, .int .i64 0, .int .i64 0, .slice none 0 0] 78)) _ from Check_any ⟨some ⟨w4.heap.size + 1 + 1, 0, none⟩, 1, 1⟩ (Xr.prt (Xr.rn vs (n + 1) 15 x).1) (((w4.alloc (Obj.cells #[.int .i64 5, .int .i64 0, .int .i64 0, .int .i64 0, .int .i64 0, .slice none 0 0, .int .i64 k, .int .i64 v, .slice a4 n4 c4, .slice none 0 0, .slice none 0 0, .slice none 0 0] 80)).alloc (Obj.cells #[.int .i64 0, .slice (some ⟨w.heap.size + 1 + 1, 0, none⟩) 2 2, .slice (some ⟨w4.heap.size, 0, none⟩) 1 1, .int .i64 0, .int .i64 0, .slice none 0 0] 78)).alloc (Obj.cells #[.int .i64 0, .slice (some ⟨w.heap.size + 1 + 1, 0, none⟩) 2 2, .slice (some ⟨w4.heap.size, 0, none⟩) 1 1, .int .i64 0, .int .i64 0, .slice none 0 0] 78)) ⟨rfl, Nat.le_refl _, by simp [Xr.prt], fun i y hy => by
    match i, hy with
    | 0, hy =>
      cases hy
      refine ⟨w4.heap.size + 1 + 1, 0, ⟨0, ⟨some ⟨w.heap.size + 1 + 1, 0, none⟩, 2, 2⟩, ⟨some ⟨w4.heap.size, 0, none⟩, 1, 1⟩, ⟨0, 0, ⟨none, 0, 0⟩⟩⟩, rfl, by simp, ⟨by go_simp, by go_simp, by go_simp, by go_simp, by go_simp, by go_simp⟩, ⟨rfl, ⟨rfl, Nat.le_refl _, by simp, fun j z hz => ?_⟩, ⟨rfl, Nat.le_refl _, by show 1 ≤ 35184372088832; omega, fun j z hz => ?_⟩, ⟨⟨rfl, rfl⟩, Pg.RS.none _ _ _ _⟩⟩⟩
      · match j, hz with
        | 0, hz => cases hz; exact ⟨w.heap.size + 1 + 1, 0, rfl, by omega, r0⟩
        | 1, hz => cases hz; exact ⟨w.heap.size + 1 + 1, 0, rfl, by omega, r1⟩
        | _ + 2, hz => simp at hz
      · match j, hz with
        | 0, hz =>
          cases hz
          exact ⟨w4.heap.size, 0, ⟨5, 0, 0, ⟨0, 0, ⟨none, 0, 0⟩⟩, ⟨k, v, ⟨a4, n4, c4⟩⟩, ⟨none, 0, 0⟩, ⟨none, 0, 0⟩, ⟨none, 0, 0⟩⟩, rfl, by omega, ⟨by go_simp, by go_simp, by go_simp, by go_simp, by go_simp, by go_simp, by go_simp, by go_simp, by go_simp, by go_simp, by go_simp, by go_simp⟩, ⟨rfl, rfl, rfl⟩, ⟨⟨⟨rfl, rfl⟩, Pg.RS.none _ _ _ _⟩, hrx, Pg.RS.none _ _ _ _⟩, Pg.RS.none _ _ _ _, Pg.RS.none _ _ _ _⟩
        | _ + 1, hz => cases hz
    | _ + 1, hy => simp [Xr.prt] at hy⟩ (Xr.prt_fit _))
  have HE := hide (show Pg.chkP (Xr.prt (Xr.rn vs (n + 1) 15 x).1) = Pg.chkX (Pg.sizesOf vs) (n + 1) x by rw [Xr.prt_chk, Xr.chkX_rn])
  generalize Pg.chkP (Xr.prt (Xr.rn vs (n + 1) 15 x).1) = R at *
  clear hcl hfl hro hbt hrx hk r0 r1 hsV hz4 hbV q0 q1 hs3 HB3
  go_wp2_with fail
  refine (unhide HCK).mono ?_
  rintro r w5 ⟨rfl, hb5⟩
  have HB5 := hide ((unhide HBV).trans (hb5.mono (unhide HBV).size))
  clear hb5
  go_wp2_with fail
  go_ret
  exact ⟨by rw [unhide HE]; rfl, unhide HB5⟩

/-- What is wrong with an expression and variables that come to Eval; what it answers. -/
def Xr.evE (vs : List (List Int)) (n : Nat) (x : Pg.XT n) : Nat := if Pg.chkX (Pg.sizesOf vs) n x = 0 then (if vs.any Pg.beyondV then 3 else 0) else Pg.chkX (Pg.sizesOf vs) n x
def Xr.evV (vs : List (List Int)) (n : Nat) (x : Pg.XT n) : Int × Int := if Xr.evE vs n x = 0 then Pg.val vs n x else (0, 0)
theorem Pg.okV_chk {vs : List (List Int)} {n : Nat} {x : Pg.XT n} {w : World} {e : Pg.E} (hr : Pg.RX w n e x) (h : Pg.chkX (Pg.sizesOf vs) n x = 0) : Pg.okV vs n x := by
  cases n with
  | zero => exact absurd hr id
  | succ n =>
    refine Pg.okV_of vs n x ?_
    unfold Pg.chkX at h
    split at h
    · cases h
    · exact h

set_option maxRecDepth 100000 in
set_option maxHeartbeats 1600000 in
theorem Eval_any (sa : Option Addr) (sl sc : Nat) (vs : List (List Int)) (n : Nat) (e : Pg.E) (x : Pg.XT n) (w : World) (hre : Pg.RX w n e x) (hrv : Pg.RV w ⟨sa, sl, sc⟩ vs) :
    Calls Try.prog 8 #[e.val, .slice sa sl sc] w fun r w' => r = .returned (.tuple #[.int .i64 (Xr.evV vs n x).1, .int .i64 (Xr.evV vs n x).2, .int .i64 (Xr.evE vs n x : Nat)]) ∧ Below w.heap.size w w' := by
  obtain ⟨ek, en, ea, el, ec⟩ := e
  show Calls Try.prog 8 #[.agg #[.int .i64 ek, .int .i64 en, .slice ea el ec], .slice sa sl sc] w _
  have hb1 := (Below.refl w.heap.size w).alloc (Nat.le_refl _) (Obj.cells #[.int .i64 ek, .int .i64 en, .slice ea el ec] 24)
  have l0 : (w.alloc (Obj.cells #[.int .i64 ek, .int .i64 en, .slice ea el ec] 24)).cell? ⟨w.heap.size, 0, none⟩ = some (.int .i64 ek) := by go_simp
  have l1 : (w.alloc (Obj.cells #[.int .i64 ek, .int .i64 en, .slice ea el ec] 24)).cell? ⟨w.heap.size, 1, none⟩ = some (.int .i64 en) := by go_simp
  have l2 : (w.alloc (Obj.cells #[.int .i64 ek, .int .i64 en, .slice ea el ec] 24)).cell? ⟨w.heap.size, 2, none⟩ = some (.slice ea el ec) := by go_simp
  have HRE := hide (hre.later hb1 (Nat.le_refl _))
  have HRV := hide (hrv.later hb1 (Nat.le_refl _))
  have HFO := hide (show Calls Try.prog 23 #[.agg #[.int .i64 ek, .int .i64 en, .slice ea el ec], .slice sa sl sc] (w.alloc (Obj.cells #[.int .i64 ek, .int .i64 en, .slice ea el ec] 24)) _ from formOf_any sa sl sc vs n ⟨ek, en, ⟨ea, el, ec⟩⟩ x _ (unhide HRE) (unhide HRV))
  have HB1 := hide hb1
  have HEE := hide (show Xr.evE vs n x = if Pg.chkX (Pg.sizesOf vs) n x = 0 then (if vs.any Pg.beyondV then 3 else 0) else Pg.chkX (Pg.sizesOf vs) n x from rfl)
  have HEV := hide (show Xr.evV vs n x = if Xr.evE vs n x = 0 then Pg.val vs n x else (0, 0) from rfl)
  have HOK := hide (fun (h : Pg.chkX (Pg.sizesOf vs) n x = 0) => Pg.okV_chk hre h)
  generalize Xr.evE vs n x = EE at *
  generalize Xr.evV vs n x = EV at *
  clear hre hrv hb1
  go_enter Try.func8, Try.ntmps8
  go_wp2_with fail
  generalize w.alloc (Obj.cells #[.int .i64 ek, .int .i64 en, .slice ea el ec] 24) = W1 at *
  refine (unhide HFO).mono ?_
  rintro r w2 ⟨rfl, hb2⟩
  have hlt := World.block_lt_of_cell? _ _ l0
  have m0 := (hb2.cell (p := ⟨w.heap.size, 0, none⟩) hlt).trans l0
  have m1 := (hb2.cell (p := ⟨w.heap.size, 1, none⟩) hlt).trans l1
  have m2 := (hb2.cell (p := ⟨w.heap.size, 2, none⟩) hlt).trans l2
  have HB2 := hide ((unhide HB1).trans (hb2.mono (unhide HB1).size))
  have HRE2 := hide ((unhide HRE).later hb2 (Nat.le_refl _))
  have HRV2 := hide ((unhide HRV).later hb2 (Nat.le_refl _))
  clear hb2 hlt l0 l1 l2 HFO HRE HRV HB1
  by_cases hc : Pg.chkX (Pg.sizesOf vs) n x = 0
  case neg =>
    have HE1 := hide (show EE = Pg.chkX (Pg.sizesOf vs) n x by rw [unhide HEE, if_neg hc])
    have HV1 := hide (show EV = (0, 0) by rw [unhide HEV, unhide HE1, if_neg hc])
    clear HEE HEV HOK
    generalize Pg.chkX (Pg.sizesOf vs) n x = R at *
    have bc : (((R : Nat) : Int) != 0) = true := by simp; exact hc
    clear hc
    go_wp2_with fail
    refine bodyPost_ret (v := .tuple #[.int .i64 0, .int .i64 0, .int .i64 (R : Nat)]) (by simp [results, Try.results8, go_sem]) rfl ?_
    rw [unhide HE1, unhide HV1]
    exact ⟨rfl, unhide HB2⟩
  case pos =>
    have HOK2 := hide ((unhide HOK) hc)
    have HE1 := hide (show EE = if vs.any Pg.beyondV then 3 else 0 by rw [unhide HEE, if_pos hc])
    have HBY := hide (evalBeyond_contains ⟨sa, sl, sc⟩ vs w2 (unhide HRV2))
    rw [hc]
    clear hc HEE HOK
    generalize vs.any Pg.beyondV = BY at *
    go_wp2_with fail
    refine (unhide HBY).mono ?_
    rintro r w3 ⟨rfl, hw3⟩
    subst hw3
    cases BY
    case true =>
      have HE2 := hide (show EE = 3 by rw [unhide HE1]; rfl)
      have HV1 := hide (show EV = (0, 0) by rw [unhide HEV, unhide HE2]; rfl)
      go_wp2_with fail
      refine bodyPost_ret (v := .tuple #[.int .i64 0, .int .i64 0, .int .i64 3]) (by simp [results, Try.results8, go_sem]) rfl ?_
      rw [unhide HE2, unhide HV1]
      exact ⟨rfl, unhide HB2⟩
    case false =>
      have HE2 := hide (show EE = 0 by rw [unhide HE1]; rfl)
      have HV1 := hide (show EV = Pg.val vs n x by rw [unhide HEV, unhide HE2]; rfl)
      have HRK := hide (show Calls Try.prog 28 #[.agg #[.int .i64 ek, .int .i64 en, .slice ea el ec], .slice sa sl sc] w3 _ from reckon_any sa sl sc vs n ⟨ek, en, ⟨ea, el, ec⟩⟩ x w3 (unhide HRE2) (unhide HRV2) (unhide HOK2))
      generalize Pg.val vs n x = V at *
      obtain ⟨v1, v2⟩ := V
      go_wp2_with fail
      refine (unhide HRK).mono ?_
      rintro r w4 ⟨rfl, hb4⟩
      have HB4 := hide ((unhide HB2).trans (hb4.mono (unhide HB2).size))
      clear hb4
      go_wp2_with fail
      refine bodyPost_ret (v := .tuple #[.int .i64 v1, .int .i64 v2, .int .i64 0]) (by simp [results, Try.results8, go_sem]) rfl ?_
      rw [unhide HE2, unhide HV1]
      exact ⟨rfl, unhide HB4⟩
end Go.Proofs.Ytcalcikclcmkaaa
