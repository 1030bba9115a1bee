/-
  ColumnBack: the walk of the law. By the verifier.
-/
import Derived.Test.YtpabpcojiaklfaaCBegun
namespace Go.Proofs.Ytpabpcojiaklfaa
open Go.RowKit
set_option linter.unusedVariables false

/-- A text's bytes. -/
def Cl.bts (s : ByteArray) : List Nat := s.data.toList.map UInt8.toNat
theorem Cl.bts_byte (s : ByteArray) : ∀ b ∈ Cl.bts s, b < 256 := by
  intro b hb
  obtain ⟨u, _, rfl⟩ := List.mem_map.1 hb
  exact u.toNat_lt
theorem Cl.str_bts (s : ByteArray) : Cl.str (Cl.bts s) = s := by
  apply Cl.ba_ext
  show ((s.data.toList.map UInt8.toNat).map UInt8.ofNat).toArray = s.data
  rw [List.map_map]
  have : (UInt8.ofNat ∘ UInt8.toNat) = id := by funext u; simp
  rw [this, List.map_id]
theorem Cl.bts_len (s : ByteArray) : (Cl.bts s).length = s.size := by
  have := Cl.str_size (Cl.bts s)
  rw [Cl.str_bts] at this
  exact this.symm

theorem Cl.ne0 {n : Nat} (h : n ≠ 0) : ((n : Int) == 0) = false := by rw [beq_eq_false_iff_ne]; omega

theorem Cl.enc_of_dec (bs : List Nat) (hb : ∀ b ∈ bs, b < 256) (h : (Cl.decR bs).2 = 0) : Cl.encR (Cl.decR bs).1 = (Cl.str bs, 0) := by
  obtain ⟨h1, h2, h3⟩ := Cl.enc_dec bs hb h
  unfold Cl.encR
  rw [if_neg (by omega), h2, h3]
  rfl

set_option maxRecDepth 100000 in
set_option maxHeartbeats 1600000 in
theorem back_many (l : List Ev) (ad : Option Addr) (cap : Nat) (bs : List Nat) (w : World) (hr : Cl.RE w ad l) (hll : l.length ≤ 35184372088832) (hbl : bs.length ≤ maxLen) (hbb : ∀ b ∈ bs, b < 256) (h4 : 4000 < l.length) :
    Calls Try.prog 6 #[.slice ad l.length cap, .string (Cl.str bs)] w fun e w' => e = .returned (.bool true) ∧ Below w.heap.size w w' := by
  have HR := hide hr
  have HBB := hide hbb
  have gs : ((Cl.str bs).toList == (Cl.str bs).toList) = true := by simp
  clear hr hbb
  have HENC := hide (show Cl.encR l = (⟨#[]⟩, 2) by unfold Cl.encR; rw [if_pos h4])
  go_enter Try.func6, Try.ntmps6
  go_wp2_with fail
  refine (columnBegun_any _).mono ?_
  rintro e w1 ⟨rfl, hb1⟩
  have HB1 := hide hb1
  have HR1 := hide ((unhide HR).later hb1 (Nat.le_refl _))
  clear hb1
  go_wp2_with fail
  refine (Encode_any l ad cap _ (unhide HR1) hll).mono ?_
  rw [unhide HENC]
  rintro e w2 ⟨rfl, hb2⟩
  have HB2 := hide ((unhide HB1).trans (hb2.mono (unhide HB1).size))
  have HR2 := hide ((unhide HR1).later hb2 (Nat.le_refl _))
  clear hb2
  go_wp2_with fail
  refine (Decode_any bs _ hbl (unhide HBB)).mono ?_
  rintro e wd ⟨ad2, cap2, rfl, hrd, hbd⟩
  have HRD := hide hrd
  have HBD := hide ((unhide HB2).trans (hbd.mono (unhide HB2).size))
  clear hrd hbd
  by_cases hd0 : (Cl.decR bs).2 = 0
  · have HEN := hide (Cl.enc_of_dec bs (unhide HBB) hd0)
    have hlen := (Cl.enc_dec bs (unhide HBB) hd0).1
    rw [hd0]
    generalize (Cl.decR bs).1 = D at *
    clear hd0
    go_wp2_with fail
    refine (Encode_any D ad2 cap2 _ (unhide HRD) (by omega)).mono ?_
    rw [unhide HEN]
    rintro e we ⟨rfl, hbe⟩
    have HBE := hide ((unhide HBD).trans (hbe.mono (unhide HBD).size))
    clear hbe
    go_wp2_with fail
    go_ret
    exact ⟨rfl, unhide HBE⟩
  · have hnil := Cl.decR_err bs hd0
    have g0 := Cl.ne0 hd0
    rw [hnil]
    generalize (Cl.decR bs).2 = E at *
    go_wp2_with fail
    go_ret
    exact ⟨rfl, unhide HBD⟩

set_option maxRecDepth 100000 in
set_option maxHeartbeats 1600000 in
theorem back_range (l : List Ev) (ad : Option Addr) (cap : Nat) (bs : List Nat) (w : World) (hr : Cl.RE w ad l) (hll : l.length ≤ 35184372088832) (hbl : bs.length ≤ maxLen) (hbb : ∀ b ∈ bs, b < 256) (h4 : ¬ 4000 < l.length) (hok : l.all Ev.ok = false) :
    Calls Try.prog 6 #[.slice ad l.length cap, .string (Cl.str bs)] w fun e w' => e = .returned (.bool true) ∧ Below w.heap.size w w' := by
  have HR := hide hr
  have HBB := hide hbb
  have gs : ((Cl.str bs).toList == (Cl.str bs).toList) = true := by simp
  clear hr hbb
  have HENC := hide (show Cl.encR l = (⟨#[]⟩, 3) by unfold Cl.encR; rw [if_neg h4, hok]; rfl)
  clear hok
  go_enter Try.func6, Try.ntmps6
  go_wp2_with fail
  refine (columnBegun_any _).mono ?_
  rintro e w1 ⟨rfl, hb1⟩
  have HB1 := hide hb1
  have HR1 := hide ((unhide HR).later hb1 (Nat.le_refl _))
  clear hb1
  go_wp2_with fail
  refine (Encode_any l ad cap _ (unhide HR1) hll).mono ?_
  rw [unhide HENC]
  rintro e w2 ⟨rfl, hb2⟩
  have HB2 := hide ((unhide HB1).trans (hb2.mono (unhide HB1).size))
  have HR2 := hide ((unhide HR1).later hb2 (Nat.le_refl _))
  clear hb2
  go_wp2_with fail
  refine (Decode_any bs _ hbl (unhide HBB)).mono ?_
  rintro e wd ⟨ad2, cap2, rfl, hrd, hbd⟩
  have HRD := hide hrd
  have HBD := hide ((unhide HB2).trans (hbd.mono (unhide HB2).size))
  clear hrd hbd
  by_cases hd0 : (Cl.decR bs).2 = 0
  · have HEN := hide (Cl.enc_of_dec bs (unhide HBB) hd0)
    have hlen := (Cl.enc_dec bs (unhide HBB) hd0).1
    rw [hd0]
    generalize (Cl.decR bs).1 = D at *
    clear hd0
    go_wp2_with fail
    refine (Encode_any D ad2 cap2 _ (unhide HRD) (by omega)).mono ?_
    rw [unhide HEN]
    rintro e we ⟨rfl, hbe⟩
    have HBE := hide ((unhide HBD).trans (hbe.mono (unhide HBD).size))
    clear hbe
    go_wp2_with fail
    go_ret
    exact ⟨rfl, unhide HBE⟩
  · have hnil := Cl.decR_err bs hd0
    have g0 := Cl.ne0 hd0
    rw [hnil]
    generalize (Cl.decR bs).2 = E at *
    go_wp2_with fail
    go_ret
    exact ⟨rfl, unhide HBD⟩

set_option maxRecDepth 100000 in
set_option maxHeartbeats 1600000 in
theorem back_ok (l : List Ev) (ad : Option Addr) (cap : Nat) (bs : List Nat) (w : World) (hr : Cl.RE w ad l) (hll : l.length ≤ 35184372088832) (hbl : bs.length ≤ maxLen) (hbb : ∀ b ∈ bs, b < 256) (h4 : ¬ 4000 < l.length) (hok : l.all Ev.ok = true) :
    Calls Try.prog 6 #[.slice ad l.length cap, .string (Cl.str bs)] w fun e w' => e = .returned (.bool true) ∧ Below w.heap.size w w' := by
  have HR := hide hr
  have HBB := hide hbb
  have gs : ((Cl.str bs).toList == (Cl.str bs).toList) = true := by simp
  clear hr hbb
  have HENC := hide (show Cl.encR l = (Cl.str (Cl.encTo l 6), 0) by unfold Cl.encR; rw [if_neg h4, hok]; rfl)
  have hl4 : l.length ≤ 4000 := by omega
  have HDEC := hide (fun (W : World) => (show Calls Try.prog 19 #[.string (Cl.str (Cl.encTo l 6))] W fun e w' => ∃ a c, e = .returned (.tuple #[.slice a l.length c, .int .i64 0]) ∧ Cl.RE w' a l ∧ Below W.heap.size W w' by
    have := Decode_any (Cl.encTo l 6) W (by have := Cl.encTo_len l hl4 (List.all_eq_true.1 hok) 6 (by omega); unfold maxLen; omega) (Cl.encTo_byte _ 6)
    rw [Cl.dec_enc l hl4 hok] at this
    exact this))
  clear hok
  generalize Cl.str (Cl.encTo l 6) = S at *
  go_enter Try.func6, Try.ntmps6
  go_wp2_with fail
  refine (columnBegun_any _).mono ?_
  rintro e w1 ⟨rfl, hb1⟩
  have HB1 := hide hb1
  have HR1 := hide ((unhide HR).later hb1 (Nat.le_refl _))
  clear hb1
  go_wp2_with fail
  refine (Encode_any l ad cap _ (unhide HR1) hll).mono ?_
  rw [unhide HENC]
  rintro e w2 ⟨rfl, hb2⟩
  have HB2 := hide ((unhide HB1).trans (hb2.mono (unhide HB1).size))
  have HR2 := hide ((unhide HR1).later hb2 (Nat.le_refl _))
  clear hb2
  go_wp2_with fail
  refine ((unhide HDEC) _).mono ?_
  rintro e w3 ⟨a3, c3, rfl, hr3, hb3⟩
  have HR3 := hide hr3
  have HB3 := hide ((unhide HB2).trans (hb3.mono (unhide HB2).size))
  have HR23 := hide ((unhide HR2).later hb3 (Nat.le_refl _))
  clear hr3 hb3
  go_wp2_with fail
  refine (SameEvents_eq l a3 ad c3 cap _ (unhide HR3) (unhide HR23) hl4).mono ?_
  rintro e w4 ⟨rfl, hb4⟩
  have HB4 := hide ((unhide HB3).trans (hb4.mono (unhide HB3).size))
  clear hb4
  go_wp2_with fail
  refine (Decode_any bs _ hbl (unhide HBB)).mono ?_
  rintro e wd ⟨ad2, cap2, rfl, hrd, hbd⟩
  have HRD := hide hrd
  have HBD := hide ((unhide HB4).trans (hbd.mono (unhide HB4).size))
  clear hrd hbd
  by_cases hd0 : (Cl.decR bs).2 = 0
  · have HEN := hide (Cl.enc_of_dec bs (unhide HBB) hd0)
    have hlen := (Cl.enc_dec bs (unhide HBB) hd0).1
    rw [hd0]
    generalize (Cl.decR bs).1 = D at *
    clear hd0
    go_wp2_with fail
    refine (Encode_any D ad2 cap2 _ (unhide HRD) (by omega)).mono ?_
    rw [unhide HEN]
    rintro e we ⟨rfl, hbe⟩
    have HBE := hide ((unhide HBD).trans (hbe.mono (unhide HBD).size))
    clear hbe
    go_wp2_with fail
    go_ret
    exact ⟨rfl, unhide HBE⟩
  · have hnil := Cl.decR_err bs hd0
    have g0 := Cl.ne0 hd0
    rw [hnil]
    generalize (Cl.decR bs).2 = E at *
    go_wp2_with fail
    go_ret
    exact ⟨rfl, unhide HBD⟩

theorem back_walk (l : List Ev) (ad : Option Addr) (cap : Nat) (s : ByteArray) (w : World) (hr : Cl.RE w ad l) (hll : l.length ≤ 35184372088832) (hs : s.size ≤ maxLen) :
    Calls Try.prog 6 #[.slice ad l.length cap, .string s] w fun e w' => e = .returned (.bool true) ∧ Below w.heap.size w w' := by
  rw [← Cl.str_bts s]
  have hbl : (Cl.bts s).length ≤ maxLen := by rw [Cl.bts_len]; exact hs
  by_cases h4 : 4000 < l.length
  · exact back_many l ad cap _ w hr hll hbl (Cl.bts_byte s) h4
  · cases hok : l.all Ev.ok
    · exact back_range l ad cap _ w hr hll hbl (Cl.bts_byte s) h4 hok
    · exact back_ok l ad cap _ w hr hll hbl (Cl.bts_byte s) h4 hok
end Go.Proofs.Ytpabpcojiaklfaa
