/-
  The walk of IndexTells. By the verifier.
-/
import Derived.Test.YtahcobkpdcognaaIBegun
namespace Go.Proofs.Ytahcobkpdcognaa
open Go.RowKit
set_option linter.unusedVariables false

set_option maxRecDepth 100000 in
set_option maxHeartbeats 1600000 in
theorem itells_err (ad : Option Addr) (len cap : Nat) (kind n f t : Int) (w : World) (hl : len ≤ 35184372088832) (h0 : Ix.chk len kind ≠ 0) :
    Calls Try.prog 3 #[.slice ad len cap, .int .i64 kind, .int .i64 n, .int .i64 f, .int .i64 t] w fun e w' => e = .returned (.bool true) ∧ Below w.heap.size w w' := by
  have HF := hide (fun W => Find_err ad len cap kind n f t W hl h0)
  have HL := hide (fun W => Last_err ad len cap kind n t W hl h0)
  have HC := hide (fun W => Count_err ad len cap kind n W hl h0)
  have HCF := hide (fun W => CheckFind_any ad len cap kind W hl)
  have g0 : ((Ix.chk len kind : Int) == 0) = false := by simpa using h0
  have g1 : ((Ix.chk len kind : Int) == (Ix.chk len kind : Int)) = true := by simp
  have g2 : ((0 : Int) == 0) = true := by simp
  clear h0
  generalize Ix.chk len kind = C at *
  go_enter Try.func3, Try.ntmps3
  go_wp2_with fail
  refine ((unhide HF) _).mono ?_
  rintro e w1 ⟨rfl, hb1⟩
  have HB1 := hide hb1
  clear hb1
  go_wp2_with fail
  refine ((unhide HL) _).mono ?_
  rintro e w2 ⟨rfl, hb2⟩
  have HB2 := hide ((unhide HB1).trans (hb2.mono (unhide HB1).size))
  clear hb2
  go_wp2_with fail
  refine ((unhide HC) _).mono ?_
  rintro e w3 ⟨rfl, hb3⟩
  have HB3 := hide ((unhide HB2).trans (hb3.mono (unhide HB2).size))
  clear hb3
  go_wp2_with fail
  refine ((unhide HCF) _).mono ?_
  rintro e w4 ⟨rfl, rfl⟩
  go_wp2_with fail
  refine (indexBegun_any _).mono ?_
  rintro e w5 ⟨rfl, hb5⟩
  have HB5 := hide ((unhide HB3).trans (hb5.mono (unhide HB3).size))
  clear hb5
  go_wp2_with fail
  refine (SameInts_eq [] none none 0 0 _ (Ix.RI.nil _ _) (Ix.RI.nil _ _) (by decide)).mono ?_
  rintro e w6 ⟨rfl, hb6⟩
  have HB6 := hide ((unhide HB5).trans (hb6.mono (unhide HB5).size))
  clear hb6
  go_wp2_with fail
  go_ret
  exact ⟨rfl, unhide HB6⟩

theorem Ix.found_len (kind n f t : Int) (l : List Ev) : (Ix.found kind n f t l).length ≤ l.length := Ix.fd_length kind n f t l l.length
theorem Ix.found_whole (kind n : Int) (l : List Ev) : Ix.found kind n 0 (l.length : Int) l = Ix.T kind n l l.length := by
  unfold Ix.found
  refine List.filter_eq_self.2 fun x hx => ?_
  have := Ix.T_mem hx
  simp [Ix.rng, this]
/-- The last one less, of the first k. -/
def Ix.lv (t : Int) (zs : List Int) (k : Nat) : Int := Ix.lastV t (zs.take k)
def Ix.lb (t : Int) (zs : List Int) (k : Nat) : Bool := Ix.lastB t (zs.take k)
theorem Ix.l_step (t : Int) (zs : List Int) (k : Nat) (x : Int) (h : zs[k]? = some x) : Ix.lv t zs (k + 1) = (if x < t then x else Ix.lv t zs k) ∧ Ix.lb t zs (k + 1) = (if x < t then true else Ix.lb t zs k) := by
  unfold Ix.lv Ix.lb Ix.lastV Ix.lastB Ix.cnt
  rw [List.take_add_one, h]
  by_cases hx : x < t
  · simp [Ix.low, hx]
  · simp [Ix.low, hx]

set_option maxRecDepth 100000 in
set_option maxHeartbeats 1600000 in
theorem itells_ok (l : List Ev) (ad : Option Addr) (cap : Nat) (kind n f t : Int) (w : World) (hr : Cl.RE w ad l) (hw : ∀ e ∈ l, e.wf) (hn : Ix.wf n) (h0 : Ix.chk l.length kind = 0) :
    Calls Try.prog 3 #[.slice ad l.length cap, .int .i64 kind, .int .i64 n, .int .i64 f, .int .i64 t] w fun e w' => e = .returned (.bool true) ∧ Below w.heap.size w w' := by
  have hl := Ix.chk_ok h0
  have HR := hide hr
  have HF := hide (fun W h => Find_ok l ad cap kind n f t W h hw hn h0)
  have HL := hide (fun W h => Last_ok l ad cap kind n t W h hw hn h0)
  have HC := hide (fun W h => Count_ok l ad cap kind n W h hw hn h0)
  have HCF := hide (fun W => (show Calls Try.prog 8 #[.slice ad l.length cap, .int .i64 kind] W fun e w' => e = .returned (.int .i64 0) ∧ w' = W by
    have := CheckFind_any ad l.length cap kind W (by omega)
    rw [h0] at this
    exact this))
  have HO1 := hide (fun W h => FindOf_any l ad cap kind n f t W h hl)
  have HO2 := hide (fun W h => FindOf_any l ad cap kind n 0 (l.length : Int) W h hl)
  have hfl := Ix.found_len kind n f t l
  have hTl := Ix.T_length kind n l l.length
  rw [Ix.found_whole] at HO2
  clear hr hw hn h0
  generalize Ix.found kind n f t l = F at *
  generalize Ix.T kind n l l.length = T at *
  have HV := hide (show Ix.lv t T T.length = Ix.lastV t T ∧ Ix.lb t T T.length = Ix.lastB t T by unfold Ix.lv Ix.lb; rw [List.take_length]; exact ⟨rfl, rfl⟩)
  generalize Ix.lastV t T = V at *
  generalize Ix.lastB t T = B at *
  have g1 : (V == V) = true := by simp
  have g2 : (B == B) = true := by simp
  have g3 : ((T.length : Int) == (T.length : Int)) = true := by simp
  go_enter Try.func3, Try.ntmps3
  go_wp2_with fail
  refine ((unhide HF) _ (unhide HR)).mono ?_
  rintro e w1 ⟨a1, c1, rfl, hr1, hb1⟩
  have HR1 := hide hr1
  have HB1 := hide hb1
  clear hr1 hb1
  go_wp2_with fail
  refine ((unhide HL) _ ((unhide HR).later (unhide HB1) (Nat.le_refl _))).mono ?_
  rintro e w2 ⟨rfl, hb2⟩
  have HR2 := hide ((unhide HR1).later hb2 (Nat.le_refl _))
  have HB2 := hide ((unhide HB1).trans (hb2.mono (unhide HB1).size))
  clear hb2
  go_wp2_with fail
  refine ((unhide HC) _ ((unhide HR).later (unhide HB2) (Nat.le_refl _))).mono ?_
  rintro e w3 ⟨rfl, hb3⟩
  have HR3 := hide ((unhide HR2).later hb3 (Nat.le_refl _))
  have HB3 := hide ((unhide HB2).trans (hb3.mono (unhide HB2).size))
  clear hb3
  go_wp2_with fail
  refine ((unhide HCF) _).mono ?_
  rintro e w4 ⟨rfl, rfl⟩
  go_wp2_with fail
  refine ((unhide HO1) _ ((unhide HR).later (unhide HB3) (Nat.le_refl _))).mono ?_
  rintro e w5 ⟨a5, c5, rfl, hr5, hb5⟩
  have HR35 := hide ((unhide HR3).later hb5 (Nat.le_refl _))
  have HR5 := hide hr5
  have HB5 := hide ((unhide HB3).trans (hb5.mono (unhide HB3).size))
  clear hr5 hb5
  go_wp2_with fail
  refine ((unhide HO2) _ ((unhide HR).later (unhide HB5) (Nat.le_refl _))).mono ?_
  rintro e w6 ⟨a6, c6, rfl, hr6, hb6⟩
  have HR36 := hide ((unhide HR35).later hb6 (Nat.le_refl _))
  have HR56 := hide ((unhide HR5).later hb6 (Nat.le_refl _))
  have HR6 := hide hr6
  have HB6 := hide ((unhide HB5).trans (hb6.mono (unhide HB5).size))
  clear hr6 hb6
  go_wp2_with fail
  go_loop [20, 21, 24] (fun lv lb v => ∃ k : Nat, k ≤ T.length ∧ v = .int .i64 k ∧ lv = .int .i64 (Ix.lv t T k) ∧ lb = .bool (Ix.lb t T k)) (fun _ _ v => T.length - (intOf v).toNat)
  case atStart => exact ⟨0, Nat.zero_le _, rfl, rfl, rfl⟩
  case round =>
    obtain ⟨k, hk, rfl, rfl, rfl⟩ := hrel
    by_cases hlt : k < T.length
    · obtain ⟨x, ht⟩ : ∃ t, T[k]? = some t := ⟨T[k], List.getElem?_eq_getElem hlt⟩
      obtain ⟨b, o, rfl, hb, c0⟩ := (unhide HR6).at_ k x ht
      have HST := hide (Ix.l_step t T k x ht)
      clear ht
      have hk1 : (0 : Int) ≤ (k : Int) := by omega
      have hk2 : (k : Int) < (T.length : Int) := by omega
      by_cases hx : x < t
      · go_wp2_with fail
        go_round
        case rel => exact ⟨k + 1, by omega, by go_num, by rw [(unhide HST).1, if_pos hx], by rw [(unhide HST).2, if_pos hx]⟩
        case measure => simp [intOf]; omega
      · go_wp2_with fail
        go_round
        case rel => exact ⟨k + 1, by omega, by go_num, by rw [(unhide HST).1, if_neg hx], by rw [(unhide HST).2, if_neg hx]⟩
        case measure => simp [intOf]; omega
    · have hk2 : ¬ (k : Int) < (T.length : Int) := by omega
      have hkl : k = T.length := by omega
      subst hkl
      rw [(unhide HV).1, (unhide HV).2]
      go_wp2_with fail
      refine (indexBegun_any _).mono ?_
      rintro e w7 ⟨rfl, hb7⟩
      have HR37 := hide ((unhide HR36).later hb7 (Nat.le_refl _))
      have HR57 := hide ((unhide HR56).later hb7 (Nat.le_refl _))
      have HB7 := hide ((unhide HB6).trans (hb7.mono (unhide HB6).size))
      clear hb7
      go_wp2_with fail
      refine (SameInts_eq F a1 a5 c1 c5 _ (unhide HR37) (unhide HR57) (by omega)).mono ?_
      rintro e w8 ⟨rfl, hb8⟩
      have HB8 := hide ((unhide HB7).trans (hb8.mono (unhide HB7).size))
      clear hb8
      go_wp2_with fail
      go_ret
      exact ⟨rfl, unhide HB8⟩
end Go.Proofs.Ytahcobkpdcognaa
