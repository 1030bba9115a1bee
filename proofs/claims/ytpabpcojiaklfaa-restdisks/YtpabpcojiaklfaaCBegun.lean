/-
  SameEvents of the document, smallTrace and columnBegun of the laws. By the verifier.
-/
import Derived.Test.YtpabpcojiaklfaaCDec
import Derived.Test.YtpabpcojiaklfaaCMath
namespace Go.Proofs.Ytpabpcojiaklfaa
open Go.RowKit
set_option linter.unusedVariables false

set_option maxRecDepth 100000 in
set_option maxHeartbeats 1600000 in
theorem SameEvents_long (l : List Ev) (ad bd : Option Addr) (cap dap : Nat) (w : World) (hr : Cl.RE w ad l) (hr2 : Cl.RE w bd l) (hl : l.length ≤ 35184372088832) :
    Calls Try.prog 24 #[.slice ad l.length cap, .slice bd l.length dap] w fun e w' => e = .returned (.bool true) ∧ Below w.heap.size w w' := by
  have HR := hide hr
  have HR2 := hide hr2
  clear hr hr2
  have gll : ((l.length : Int) != (l.length : Int)) = false := by simp
  go_enter Try.func24, Try.ntmps24
  go_wp2_with fail
  go_loopw [5] (fun v wr => ∃ k : Nat, k ≤ l.length ∧ v = .int .i64 (k : Nat) ∧ Below w.heap.size w wr) (fun v _ => l.length - (intOf v).toNat)
  case atStart => exact ⟨0, by omega, rfl, Below.refl _ _⟩
  case round =>
    obtain ⟨k, hk, rfl, hbe⟩ := hrel
    have HBE := hide hbe
    clear hbe
    by_cases hlt : k < l.length
    · obtain ⟨t, ht⟩ : ∃ t, l[k]? = some t := ⟨l[k], List.getElem?_eq_getElem hlt⟩
      obtain ⟨b, o, rfl, hb, c0, c1, c2, c3, c4, c5⟩ := ((unhide HR).later (unhide HBE) (Nat.le_refl _)).at_ k t ht
      obtain ⟨b', o', rfl, hb', d0, d1, d2, d3, d4, d5⟩ := ((unhide HR2).later (unhide HBE) (Nat.le_refl _)).at_ k t ht
      clear ht
      have hk1 : (0 : Int) ≤ (k : Int) := by omega
      have hk2 : (k : Int) < (l.length : Int) := by omega
      go_wp2_with fail
      go_quiet (fail)
      go_wp2_with fail
      exact ⟨⟨k + 1, by omega, by go_num, below_drewN (unhide HBE) _⟩, by simp [intOf]; omega⟩
    · have hk2 : ¬ (k : Int) < (l.length : Int) := by omega
      go_wp2_with fail
      go_ret
      exact ⟨rfl, unhide HBE⟩

theorem SameEvents_eq (l : List Ev) (ad bd : Option Addr) (cap dap : Nat) (w : World) (hr : Cl.RE w ad l) (hr2 : Cl.RE w bd l) (hl : l.length ≤ 4000) :
    Calls Try.prog 24 #[.slice ad l.length cap, .slice bd l.length dap] w fun e w' => e = .returned (.bool true) ∧ Below w.heap.size w w' := SameEvents_long l ad bd cap dap w hr hr2 (by omega)

def Cl.small : List Ev := [⟨1, 0, 0, 0, 0, 0⟩, ⟨3, 0, 0, 0, 0, 7⟩, ⟨2, 0, 0, 0, 0, 7⟩, ⟨1, 0, 1, 0, 0, 0⟩, ⟨4, 0, 1, 0, 0, 7⟩, ⟨7, 0, -1, 0, 0, 0⟩]

set_option maxRecDepth 100000 in
set_option maxHeartbeats 1600000 in
theorem smallTrace_any (w : World) :
    Calls Try.prog 30 #[] w fun e w' => ∃ g c, e = .returned (.slice (some ⟨g, 0, none⟩) 6 c) ∧ Cl.RE w' (some ⟨g, 0, none⟩) Cl.small ∧ Below w.heap.size w w' := by
  go_enter Try.func30, Try.ntmps30
  go_wp2_with fail
  refine bodyPost_ret (v := .slice (some ⟨w.heap.size, 0, none⟩) 6 6) (by simp [results, Try.results30, go_sem]) rfl ⟨w.heap.size, 6, rfl, ⟨fun i x hi => ?_⟩, (Below.refl _ _).alloc (Nat.le_refl _) _⟩
  match i, hi with
  | 0, hi => cases hi; exact ⟨w.heap.size, 0, rfl, by simp, by go_simp, by go_simp, by go_simp, by go_simp, by go_simp, by go_simp⟩
  | 1, hi => cases hi; exact ⟨w.heap.size, 0, rfl, by simp, by go_simp, by go_simp, by go_simp, by go_simp, by go_simp, by go_simp⟩
  | 2, hi => cases hi; exact ⟨w.heap.size, 0, rfl, by simp, by go_simp, by go_simp, by go_simp, by go_simp, by go_simp, by go_simp⟩
  | 3, hi => cases hi; exact ⟨w.heap.size, 0, rfl, by simp, by go_simp, by go_simp, by go_simp, by go_simp, by go_simp, by go_simp⟩
  | 4, hi => cases hi; exact ⟨w.heap.size, 0, rfl, by simp, by go_simp, by go_simp, by go_simp, by go_simp, by go_simp, by go_simp⟩
  | 5, hi => cases hi; exact ⟨w.heap.size, 0, rfl, by simp, by go_simp, by go_simp, by go_simp, by go_simp, by go_simp, by go_simp⟩
  | _ + 6, hi => simp [Cl.small] at hi

theorem Cl.small_ok : Cl.small.all Ev.ok = true := by decide
theorem Cl.small_enc : Cl.encR Cl.small = (Cl.str (Cl.encTo Cl.small 6), 0) := by
  unfold Cl.encR
  rw [if_neg (by decide), Cl.small_ok]
  rfl
theorem Cl.small_len : (Cl.encTo Cl.small 6).length = 37 := by
  simp [Cl.encTo, Cl.colB, Cl.small, Cl.zig, Ev.col, Cl.natB_lt]
theorem Cl.small_dec : Cl.decR (Cl.encTo Cl.small 6) = (Cl.small, 0) := Cl.dec_enc _ (by decide) Cl.small_ok

set_option maxRecDepth 100000 in
set_option maxHeartbeats 1600000 in
theorem columnBegun_any (w : World) :
    Calls Try.prog 22 #[] w fun e w' => e = .returned (.bool true) ∧ Below w.heap.size w w' := by
  have HE := hide (fun (g c : Nat) (W : World) (h : Cl.RE W (some ⟨g, 0, none⟩) Cl.small) => (show Calls Try.prog 18 #[.slice (some ⟨g, 0, none⟩) 6 c] W fun e w' => e = .returned (.tuple #[.string (Cl.str (Cl.encTo Cl.small 6)), .int .i64 0]) ∧ Below W.heap.size W w' by
    have := Encode_any Cl.small (some ⟨g, 0, none⟩) c W h (by decide)
    rw [Cl.small_enc] at this
    exact this))
  have HD := hide (fun (W : World) => (show Calls Try.prog 19 #[.string (Cl.str (Cl.encTo Cl.small 6))] W fun e w' => ∃ a c, e = .returned (.tuple #[.slice a 6 c, .int .i64 0]) ∧ Cl.RE w' a Cl.small ∧ Below W.heap.size W w' by
    have := Decode_any (Cl.encTo Cl.small 6) W (by rw [Cl.small_len]; decide) (Cl.encTo_byte _ 6)
    rw [Cl.small_dec] at this
    exact this))
  have hsz : (Cl.str (Cl.encTo Cl.small 6)).size = 37 := by rw [Cl.str_size, Cl.small_len]
  generalize Cl.str (Cl.encTo Cl.small 6) = S at *
  go_enter Try.func22, Try.ntmps22
  go_wp2_with fail
  refine (smallTrace_any _).mono ?_
  rintro e w1 ⟨g1, c1, rfl, hr1, hb1⟩
  have HR1 := hide hr1
  have HB1 := hide hb1
  have hz1 := hb1.size
  clear hr1 hb1
  go_wp2_with fail
  refine ((unhide HE) g1 c1 _ (unhide HR1)).mono ?_
  rintro e w2 ⟨rfl, hb2⟩
  have HB2 := hide ((unhide HB1).trans (hb2.mono hz1))
  clear hb2
  go_wp2_with fail
  refine ((unhide HD) _).mono ?_
  rintro e w3 ⟨a3, c3, rfl, hr3, hb3⟩
  have HR3 := hide hr3
  have HB3 := hide ((unhide HB2).trans (hb3.mono (unhide HB2).size))
  clear hr3 hb3
  go_wp2_with fail
  refine (smallTrace_any _).mono ?_
  rintro e w4 ⟨g4, c4, rfl, hr4, hb4⟩
  have HR4 := hide hr4
  have HR34 := hide ((unhide HR3).later hb4 (Nat.le_refl _))
  have HB4 := hide ((unhide HB3).trans (hb4.mono (unhide HB3).size))
  clear hr4 hb4
  go_wp2_with fail
  refine (SameEvents_eq Cl.small a3 (some ⟨g4, 0, none⟩) c3 c4 _ (unhide HR34) (unhide HR4) (by decide)).mono ?_
  rintro e w5 ⟨rfl, hb5⟩
  have HB5 := hide ((unhide HB4).trans (hb5.mono (unhide HB4).size))
  clear hb5
  go_wp2_with fail
  go_ret
  exact ⟨rfl, unhide HB5⟩
end Go.Proofs.Ytpabpcojiaklfaa
