/-
  ColumnTells: the walk of the law. By the verifier.
-/
import Derived.Test.YtpekejebimkleaaCEncOf
import Derived.Test.YtpekejebimkleaaCDecOf
import Derived.Test.YtpekejebimkleaaCBack
namespace Go.Proofs.Ytpekejebimkleaa
open Go.RowKit
set_option linter.unusedVariables false

set_option maxHeartbeats 800000 in
theorem eventsAre_any (l : List Ev) (n : Nat) (a b : Option Addr) (c d : Nat) (w : World) (hr : Cl.RE w a l) (hr2 : Cl.RE w b l) (hl : l.length ≤ 4000) (h : n ≠ 0 → l = []) :
    Calls Try.prog 23 #[.slice a l.length c, .int .i64 (n : Nat), .int .i64 (n : Nat), .slice b l.length d] w fun e w' => e = .returned (.bool true) ∧ Below w.heap.size w w' := by
  have HR := hide hr
  have HR2 := hide hr2
  clear hr hr2
  have gnn : ((n : Int) == (n : Int)) = true := by simp
  by_cases h0 : n = 0
  · subst h0
    go_enter Try.func23, Try.ntmps23
    go_wp2_with fail
    refine (SameEvents_eq l a b c d _ (unhide HR) (unhide HR2) hl).mono ?_
    rintro e w1 ⟨rfl, hb⟩
    have HB := hide hb
    clear hb
    go_wp2_with fail
    go_ret
    exact ⟨rfl, unhide HB⟩
  · have hnil := h h0
    subst hnil
    have g0 := Cl.ne0 h0
    clear h
    go_enter Try.func23, Try.ntmps23
    go_wp2_with fail
    refine (SameEvents_eq [] a none c 0 _ (Cl.RE.nil _ _) (Cl.RE.nil _ _) (by simp)).mono ?_
    rintro e w1 ⟨rfl, hb⟩
    have HB := hide hb
    clear hb
    go_wp2_with fail
    go_ret
    exact ⟨rfl, unhide HB⟩

theorem Cl.decR_len (bs : List Nat) (hb : ∀ b ∈ bs, b < 256) : (Cl.decR bs).1.length ≤ 4000 := by
  by_cases h : (Cl.decR bs).2 = 0
  · exact (Cl.enc_dec bs hb h).1
  · rw [Cl.decR_err bs h]; simp

set_option maxRecDepth 100000 in
set_option maxHeartbeats 3200000 in
theorem ctells_many (l : List Ev) (ad : Option Addr) (cap : Nat) (bs : List Nat) (w : World) (hr : Cl.RE w ad l) (hll : l.length ≤ 35184372088832) (hbl : bs.length ≤ 140737488351232) (hbb : ∀ b ∈ bs, b < 256) (h4 : 4000 < l.length) :
    Calls Try.prog 5 #[.slice ad l.length cap, .string (Cl.str bs)] w fun e w' => e = .returned (.bool true) ∧ Below w.heap.size w w' := by
  have HR := hide hr
  have HBB := hide hbb
  have HDL := hide (Cl.decR_len bs hbb)
  have HDE := hide (Cl.decR_err bs)
  have HDA := hide (fun W : World => Decode_any bs W (by unfold maxLen; omega) hbb)
  have HDO := hide (fun W : World => DecodeOf_any bs W hbl hbb)
  clear hr hbb
  have HENC := hide (show Cl.encR l = (⟨#[]⟩, 2) by unfold Cl.encR; rw [if_pos h4])
  have h4i : (4000 : Int) < (l.length : Int) := by omega
  have gs : ((⟨#[]⟩ : ByteArray).toList == (⟨#[]⟩ : ByteArray).toList) = true := by simp
  generalize hDR : Cl.decR bs = DR at *
  obtain ⟨D, E⟩ := DR
  have HD1 := hide (show D.length ≤ 4000 from unhide HDL)
  have HD2 := hide (show E ≠ 0 → D = [] from unhide HDE)
  have gee : ((E : Int) == (E : Int)) = true := by simp
  clear HDL HDE hDR
  go_enter Try.func5, Try.ntmps5
  go_wp2_with fail
  refine (Encode_any l ad cap _ (unhide HR) hll).mono ?_
  rw [unhide HENC]
  rintro e w1 ⟨rfl, hb1⟩
  have HB1 := hide hb1
  have HR1 := hide ((unhide HR).later hb1 (Nat.le_refl _))
  clear hb1
  go_wp2_with fail
  refine ((unhide HDA) _).mono ?_
  rintro e w2 ⟨a2, c2, rfl, hr2, hb2⟩
  have HB2 := hide ((unhide HB1).trans (hb2.mono (unhide HB1).size))
  have HD := hide (show Cl.RE w2 a2 D from hr2)
  have HR2 := hide ((unhide HR1).later hb2 (Nat.le_refl _))
  clear hr2 hb2
  go_wp2_with fail
  refine ((unhide HDO) _).mono ?_
  rintro e w4 ⟨a4, c4, rfl, hr4, hb4⟩
  have HB4 := hide ((unhide HB2).trans (hb4.mono (unhide HB2).size))
  have HD4 := hide (show Cl.RE w4 a4 D from hr4)
  have HDD := hide ((unhide HD).later hb4 (Nat.le_refl _))
  clear hr4 hb4
  go_wp2_with fail
  refine (columnBegun_any _).mono ?_
  rintro e w5 ⟨rfl, hb5⟩
  have HB5 := hide ((unhide HB4).trans (hb5.mono (unhide HB4).size))
  have HD45 := hide ((unhide HD4).later hb5 (Nat.le_refl _))
  have HDD5 := hide ((unhide HDD).later hb5 (Nat.le_refl _))
  clear hb5
  go_wp2_with fail
  refine (eventsAre_any D E a2 a4 c2 c4 _ (unhide HDD5) (unhide HD45) (unhide HD1) (unhide HD2)).mono ?_
  rintro e w6 ⟨rfl, hb6⟩
  have HB6 := hide ((unhide HB5).trans (hb6.mono (unhide HB5).size))
  clear hb6
  go_wp2_with fail
  go_ret
  exact ⟨rfl, unhide HB6⟩

set_option maxRecDepth 100000 in
set_option maxHeartbeats 3200000 in
theorem ctells_range (l : List Ev) (ad : Option Addr) (cap : Nat) (bs : List Nat) (w : World) (hr : Cl.RE w ad l) (hll : l.length ≤ 35184372088832) (hbl : bs.length ≤ 140737488351232) (hbb : ∀ b ∈ bs, b < 256) (h4 : ¬ 4000 < l.length) (hok : l.all Ev.ok = false) :
    Calls Try.prog 5 #[.slice ad l.length cap, .string (Cl.str bs)] w fun e w' => e = .returned (.bool true) ∧ Below w.heap.size w w' := by
  have HR := hide hr
  have HBB := hide hbb
  have HDL := hide (Cl.decR_len bs hbb)
  have HDE := hide (Cl.decR_err bs)
  have HDA := hide (fun W : World => Decode_any bs W (by unfold maxLen; omega) hbb)
  have HDO := hide (fun W : World => DecodeOf_any bs W hbl hbb)
  clear hr hbb
  have HENC := hide (show Cl.encR l = (⟨#[]⟩, 3) by unfold Cl.encR; rw [if_neg h4, hok]; rfl)
  have h4i : ¬ (4000 : Int) < (l.length : Int) := by omega
  have hl4 : l.length ≤ 4000 := by omega
  have HOK := hide hok
  have gs : ((⟨#[]⟩ : ByteArray).toList == (⟨#[]⟩ : ByteArray).toList) = true := by simp
  clear hok
  generalize hDR : Cl.decR bs = DR at *
  obtain ⟨D, E⟩ := DR
  have HD1 := hide (show D.length ≤ 4000 from unhide HDL)
  have HD2 := hide (show E ≠ 0 → D = [] from unhide HDE)
  have gee : ((E : Int) == (E : Int)) = true := by simp
  clear HDL HDE hDR
  go_enter Try.func5, Try.ntmps5
  go_wp2_with fail
  refine (Encode_any l ad cap _ (unhide HR) hll).mono ?_
  rw [unhide HENC]
  rintro e w1 ⟨rfl, hb1⟩
  have HB1 := hide hb1
  have HR1 := hide ((unhide HR).later hb1 (Nat.le_refl _))
  clear hb1
  go_wp2_with fail
  refine ((unhide HDA) _).mono ?_
  rintro e w2 ⟨a2, c2, rfl, hr2, hb2⟩
  have HB2 := hide ((unhide HB1).trans (hb2.mono (unhide HB1).size))
  have HD := hide (show Cl.RE w2 a2 D from hr2)
  have HR2 := hide ((unhide HR1).later hb2 (Nat.le_refl _))
  clear hr2 hb2
  go_wp2_with fail
  refine (AreSmall_any l ad cap _ (unhide HR2) hl4).mono ?_
  rw [unhide HOK]
  rintro e w3 ⟨rfl, hb3⟩
  have HB3 := hide ((unhide HB2).trans (hb3.mono (unhide HB2).size))
  have HD3 := hide ((unhide HD).later hb3 (Nat.le_refl _))
  have HR3 := hide ((unhide HR2).later hb3 (Nat.le_refl _))
  clear hb3
  go_wp2_with fail
  refine ((unhide HDO) _).mono ?_
  rintro e w4 ⟨a4, c4, rfl, hr4, hb4⟩
  have HB4 := hide ((unhide HB3).trans (hb4.mono (unhide HB3).size))
  have HD4 := hide (show Cl.RE w4 a4 D from hr4)
  have HDD := hide ((unhide HD3).later hb4 (Nat.le_refl _))
  clear hr4 hb4
  go_wp2_with fail
  refine (columnBegun_any _).mono ?_
  rintro e w5 ⟨rfl, hb5⟩
  have HB5 := hide ((unhide HB4).trans (hb5.mono (unhide HB4).size))
  have HD45 := hide ((unhide HD4).later hb5 (Nat.le_refl _))
  have HDD5 := hide ((unhide HDD).later hb5 (Nat.le_refl _))
  clear hb5
  go_wp2_with fail
  refine (eventsAre_any D E a2 a4 c2 c4 _ (unhide HDD5) (unhide HD45) (unhide HD1) (unhide HD2)).mono ?_
  rintro e w6 ⟨rfl, hb6⟩
  have HB6 := hide ((unhide HB5).trans (hb6.mono (unhide HB5).size))
  clear hb6
  go_wp2_with fail
  go_ret
  exact ⟨rfl, unhide HB6⟩

set_option maxRecDepth 100000 in
set_option maxHeartbeats 3200000 in
theorem ctells_ok (l : List Ev) (ad : Option Addr) (cap : Nat) (bs : List Nat) (w : World) (hr : Cl.RE w ad l) (hll : l.length ≤ 35184372088832) (hbl : bs.length ≤ 140737488351232) (hbb : ∀ b ∈ bs, b < 256) (h4 : ¬ 4000 < l.length) (hok : l.all Ev.ok = true) :
    Calls Try.prog 5 #[.slice ad l.length cap, .string (Cl.str bs)] w fun e w' => e = .returned (.bool true) ∧ Below w.heap.size w w' := by
  have HR := hide hr
  have HBB := hide hbb
  have HDL := hide (Cl.decR_len bs hbb)
  have HDE := hide (Cl.decR_err bs)
  have HDA := hide (fun W : World => Decode_any bs W (by unfold maxLen; omega) hbb)
  have HDO := hide (fun W : World => DecodeOf_any bs W hbl hbb)
  clear hr hbb
  have HENC := hide (show Cl.encR l = (Cl.str (Cl.encTo l 6), 0) by unfold Cl.encR; rw [if_neg h4, hok]; rfl)
  have h4i : ¬ (4000 : Int) < (l.length : Int) := by omega
  have hl4 : l.length ≤ 4000 := by omega
  have HOK := hide hok
  have HEO := hide (fun (W : World) (h : Cl.RE W ad l) => EncodeOf_any l ad cap W h hl4 hok)
  clear hok
  generalize Cl.str (Cl.encTo l 6) = S at *
  have gs : (S.toList == S.toList) = true := by simp
  generalize hDR : Cl.decR bs = DR at *
  obtain ⟨D, E⟩ := DR
  have HD1 := hide (show D.length ≤ 4000 from unhide HDL)
  have HD2 := hide (show E ≠ 0 → D = [] from unhide HDE)
  have gee : ((E : Int) == (E : Int)) = true := by simp
  clear HDL HDE hDR
  go_enter Try.func5, Try.ntmps5
  go_wp2_with fail
  refine (Encode_any l ad cap _ (unhide HR) hll).mono ?_
  rw [unhide HENC]
  rintro e w1 ⟨rfl, hb1⟩
  have HB1 := hide hb1
  have HR1 := hide ((unhide HR).later hb1 (Nat.le_refl _))
  clear hb1
  go_wp2_with fail
  refine ((unhide HDA) _).mono ?_
  rintro e w2 ⟨a2, c2, rfl, hr2, hb2⟩
  have HB2 := hide ((unhide HB1).trans (hb2.mono (unhide HB1).size))
  have HD := hide (show Cl.RE w2 a2 D from hr2)
  have HR2 := hide ((unhide HR1).later hb2 (Nat.le_refl _))
  clear hr2 hb2
  go_wp2_with fail
  refine (AreSmall_any l ad cap _ (unhide HR2) hl4).mono ?_
  rw [unhide HOK]
  rintro e w3 ⟨rfl, hb3⟩
  have HB3 := hide ((unhide HB2).trans (hb3.mono (unhide HB2).size))
  have HD3 := hide ((unhide HD).later hb3 (Nat.le_refl _))
  have HR3 := hide ((unhide HR2).later hb3 (Nat.le_refl _))
  clear hb3
  go_wp2_with fail
  refine ((unhide HEO) _ (unhide HR3)).mono ?_
  rintro e w35 ⟨rfl, hb35⟩
  have HB35 := hide ((unhide HB3).trans (hb35.mono (unhide HB3).size))
  have HD35 := hide ((unhide HD3).later hb35 (Nat.le_refl _))
  clear hb35
  go_wp2_with fail
  refine ((unhide HDO) _).mono ?_
  rintro e w4 ⟨a4, c4, rfl, hr4, hb4⟩
  have HB4 := hide ((unhide HB35).trans (hb4.mono (unhide HB35).size))
  have HD4 := hide (show Cl.RE w4 a4 D from hr4)
  have HDD := hide ((unhide HD35).later hb4 (Nat.le_refl _))
  clear hr4 hb4
  go_wp2_with fail
  refine (columnBegun_any _).mono ?_
  rintro e w5 ⟨rfl, hb5⟩
  have HB5 := hide ((unhide HB4).trans (hb5.mono (unhide HB4).size))
  have HD45 := hide ((unhide HD4).later hb5 (Nat.le_refl _))
  have HDD5 := hide ((unhide HDD).later hb5 (Nat.le_refl _))
  clear hb5
  go_wp2_with fail
  refine (eventsAre_any D E a2 a4 c2 c4 _ (unhide HDD5) (unhide HD45) (unhide HD1) (unhide HD2)).mono ?_
  rintro e w6 ⟨rfl, hb6⟩
  have HB6 := hide ((unhide HB5).trans (hb6.mono (unhide HB5).size))
  clear hb6
  go_wp2_with fail
  go_ret
  exact ⟨rfl, unhide HB6⟩

theorem ctells_walk (l : List Ev) (ad : Option Addr) (cap : Nat) (s : ByteArray) (w : World) (hr : Cl.RE w ad l) (hll : l.length ≤ 35184372088832) (hs : s.size ≤ 140737488351232) :
    Calls Try.prog 5 #[.slice ad l.length cap, .string s] w fun e w' => e = .returned (.bool true) ∧ Below w.heap.size w w' := by
  rw [← Cl.str_bts s]
  have hbl : (Cl.bts s).length ≤ 140737488351232 := by rw [Cl.bts_len]; exact hs
  by_cases h4 : 4000 < l.length
  · exact ctells_many l ad cap _ w hr hll hbl (Cl.bts_byte s) h4
  · cases hok : l.all Ev.ok
    · exact ctells_range l ad cap _ w hr hll hbl (Cl.bts_byte s) h4 hok
    · exact ctells_ok l ad cap _ w hr hll hbl (Cl.bts_byte s) h4 hok
end Go.Proofs.Ytpekejebimkleaa
