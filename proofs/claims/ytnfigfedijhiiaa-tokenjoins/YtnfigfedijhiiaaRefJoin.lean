/-
  The contract of JoinOf of the document's answer. By the verifier.
-/
import Derived.Test.YtnfigfedijhiiaaIsToken
import Derived.Test.YtnfigfedijhiiaaJoin
namespace Go.Proofs.Ytnfigfedijhiiaa
open Go.RowKit
set_option linter.unusedVariables false

/-- The count that JoinOf keeps: one less than there are, ahead of the first. -/
def Tk.nTo (l : List (Int × Int × ByteArray)) (k : Nat) : Int := if k = 0 then -1 else ((Tk.jnTo l k).length : Int)

theorem Tk.cat2 (a : List UInt8) (t : ByteArray) : (⟨a.toArray⟩ : ByteArray) ++ t = ⟨(a ++ [] ++ t.data.toList).toArray⟩ := by
  obtain ⟨⟨x⟩⟩ := t
  apply ByteArray.ext
  rw [ByteArray.data_append]
  simp

theorem Tk.cat3 (a : List UInt8) (t : ByteArray) : (⟨a.toArray⟩ : ByteArray) ++ ⟨#[32]⟩ ++ t = ⟨(a ++ [32] ++ t.data.toList).toArray⟩ := by
  obtain ⟨⟨x⟩⟩ := t
  apply ByteArray.ext
  rw [ByteArray.data_append, ByteArray.data_append]
  simp

set_option maxRecDepth 100000 in
set_option maxHeartbeats 1600000 in
theorem JoinOf_any (l : List (Int × Int × ByteArray)) (ad : Option Addr) (cap : Nat) (w : World) (hr : Tk.Reads w ad l) (hl : l.length ≤ 35184372088832) :
    Calls Try.prog 12 #[.slice ad l.length cap] w fun e w' => e = .returned (.tuple #[.string (Tk.joinR l).1, .int .i64 ((Tk.joinR l).2 : Int)]) ∧ Below w.heap.size w w' := by
  have HR := hide hr
  clear hr
  have hmul : ∀ k : Nat, k ≤ l.length → 6001 * k ≤ 6001 * 35184372088832 := fun k hk => Nat.mul_le_mul_left _ (by omega)
  have HMU := hide hmul
  clear hmul
  go_enter Try.func12, Try.ntmps12
  go_wp2_with fail
  go_loopw [4, 5, 6] (fun tv nv iv wr => ∃ (k : Nat) (str : ByteArray) (n : Int), k ≤ l.length ∧ iv = .int .i64 k ∧ tv = .string str ∧ nv = .int .i64 n ∧ n = Tk.nTo l k ∧ (Tk.jnTo l k).length ≤ 6001 * k ∧ (n ≤ 6000 → str = ⟨(Tk.jnTo l k).toArray⟩) ∧
    (∀ j t, j < k → l[j]? = some t → Tk.isTok t.1 (Tk.B t.2.2) = true) ∧ Below w.heap.size w wr) (fun _ _ iv _ => l.length - (intOf iv).toNat)
  case atStart => exact ⟨0, ⟨#[]⟩, -1, Nat.zero_le _, rfl, rfl, rfl, rfl, Nat.zero_le _, fun _ => rfl, fun j t h => by omega, Below.refl _ _⟩
  case round =>
    obtain ⟨k, str, n, hk, rfl, rfl, rfl, hn, hle, hstr, hall, hbe⟩ := hrel
    have HN := hide hn
    have HST := hide hstr
    have HAL := hide hall
    have HBE := hide hbe
    have hz := hbe.size
    have hmk := (unhide HMU) k hk
    have hn1 : -1 ≤ n := by rw [hn]; unfold Tk.nTo; split <;> omega
    have hn2 : n ≤ 6001 * 35184372088832 := by rw [hn]; unfold Tk.nTo; split <;> omega
    clear hn hstr hall hbe
    by_cases hlt : k < l.length
    · obtain ⟨t, ht⟩ : ∃ t, l[k]? = some t := ⟨l[k], List.getElem?_eq_getElem hlt⟩
      obtain ⟨b, o, rfl, hb, c0, c1, c2, hts⟩ := ((unhide HR).later (unhide HBE) (Nat.le_refl _)).at_ k t ht
      obtain ⟨tk, ta, tt⟩ := t
      simp only at c0 c1 c2 hts
      have HT := hide ht
      have HTS := hide hts
      clear ht hts
      have hk1 : (0 : Int) ≤ (k : Int) := by omega
      have hk2 : (k : Int) < (l.length : Int) := by omega
      go_wp2_with fail
      go_quiet ((go_at_call 17; exact Calls.quiet_of_same (isToken_any tk tt _ (unhide HTS))))
      cases htk : Tk.isTok tk (Tk.B tt)
      · have hR : Tk.joinR l = (⟨#[]⟩, 1) := by unfold Tk.joinR; rw [Tk.allTok_false l k _ (unhide HT) htk]; rfl
        have HR1 := hide hR
        clear hR htk
        go_wp2_with fail
        go_ret2
        exact ⟨by rw [unhide HR1]; rfl, below_drewN (unhide HBE) _⟩
      · have hts6 : tt.size ≤ 6000 := by have := ((Tk.isTok_iff _ _).1 htk).1; rw [Tk.B_length] at this; exact this
        have HTK := hide htk
        clear htk
        have hmk1 := (unhide HMU) (k + 1) hlt
        by_cases h6 : n + (1 + (tt.size : Int)) ≤ 6000
        · have hs := (unhide HST) (by omega)
          have hss : str.size = (Tk.jnTo l k).length := by rw [hs]; rfl
          have hjn : ((Tk.jnTo l k).length : Int) ≤ 6000 := by
            have a := unhide HN; unfold Tk.nTo at a; split at a
            · rename_i e; rw [e]; show (0 : Int) ≤ 6000; omega
            · omega
          have hs6 : str.size ≤ 6000 := by omega
          have hsa : (str ++ ⟨#[32]⟩ : ByteArray).size = str.size + 1 := by rw [ByteArray.size_append]; rfl
          have HSS := hide hs
          clear hs hss hjn
          by_cases h0 : (0 : Int) < (k : Int)
          · go_wp2_with fail
            have hst := Tk.jnTo_step l k _ (unhide HT)
            rw [if_neg (by omega)] at hst
            have hs' := unhide HN
            have e : tt.data.size = tt.size := rfl
            have hln := congrArg List.length hst
            simp only [List.length_append, List.length_cons, List.length_nil, Array.length_toList] at hln
            refine ⟨⟨k + 1, _, _, by omega, by go_num, rfl, rfl, ?_, by omega, ?_, ?_, below_drewN (unhide HBE) _⟩, by simp [intOf]; omega⟩
            · unfold Tk.nTo at hs' ⊢; rw [if_neg (by omega)]; rw [if_neg (by omega)] at hs'; omega
            · intro hle6
              rw [unhide HSS, hst]; exact Tk.cat3 _ _
            · intro j u hj hu
              by_cases e2 : j = k
              · subst e2
                have := unhide HT
                rw [this] at hu
                cases hu
                exact unhide HTK
              · exact (unhide HAL) j u (by omega) hu
          · go_wp2_with fail
            have hst := Tk.jnTo_step l k _ (unhide HT)
            rw [if_pos (by omega)] at hst
            have hs' := unhide HN
            have e : tt.data.size = tt.size := rfl
            have hln := congrArg List.length hst
            simp only [List.length_append, List.length_nil, Array.length_toList] at hln
            refine ⟨⟨k + 1, _, _, by omega, by go_num, rfl, rfl, ?_, by omega, ?_, ?_, below_drewN (unhide HBE) _⟩, by simp [intOf]; omega⟩
            · unfold Tk.nTo at hs' ⊢; rw [if_neg (by omega)]; rw [if_pos (by omega)] at hs'; omega
            · intro hle6
              rw [unhide HSS, hst]; exact Tk.cat2 _ _
            · intro j u hj hu
              by_cases e2 : j = k
              · subst e2
                have := unhide HT
                rw [this] at hu
                cases hu
                exact unhide HTK
              · exact (unhide HAL) j u (by omega) hu
        · go_wp2_with fail
          by_cases h0 : (0 : Int) < (k : Int)
          · have hst := Tk.jnTo_step l k _ (unhide HT)
            rw [if_neg (by omega)] at hst
            have hs' := unhide HN
            have e : tt.data.size = tt.size := rfl
            have hln := congrArg List.length hst
            simp only [List.length_append, List.length_cons, List.length_nil, Array.length_toList] at hln
            refine ⟨⟨k + 1, _, _, by omega, by go_num, rfl, rfl, ?_, by omega, ?_, ?_, below_drewN (unhide HBE) _⟩, by simp [intOf]; omega⟩
            · unfold Tk.nTo at hs' ⊢; rw [if_neg (by omega)]; rw [if_neg (by omega)] at hs'; omega
            · intro hle6
              exact absurd hle6 h6
            · intro j u hj hu
              by_cases e2 : j = k
              · subst e2
                have := unhide HT
                rw [this] at hu
                cases hu
                exact unhide HTK
              · exact (unhide HAL) j u (by omega) hu
          · have hst := Tk.jnTo_step l k _ (unhide HT)
            rw [if_pos (by omega)] at hst
            have hs' := unhide HN
            have e : tt.data.size = tt.size := rfl
            have hln := congrArg List.length hst
            simp only [List.length_append, List.length_nil, Array.length_toList] at hln
            refine ⟨⟨k + 1, _, _, by omega, by go_num, rfl, rfl, ?_, by omega, ?_, ?_, below_drewN (unhide HBE) _⟩, by simp [intOf]; omega⟩
            · unfold Tk.nTo at hs' ⊢; rw [if_neg (by omega)]; rw [if_pos (by omega)] at hs'; omega
            · intro hle6
              exact absurd hle6 h6
            · intro j u hj hu
              by_cases e2 : j = k
              · subst e2
                have := unhide HT
                rw [this] at hu
                cases hu
                exact unhide HTK
              · exact (unhide HAL) j u (by omega) hu
    · have hkl : k = l.length := by omega
      subst hkl
      have hat : Tk.allTok l = true := Tk.allTok_true l fun j t hj => (unhide HAL) j t (by have := (List.getElem?_eq_some_iff.1 hj).1; exact this) hj
      by_cases hbig : (6000 : Int) < n
      · have hR : Tk.joinR l = (⟨#[]⟩, 2) := by
          have a := unhide HN; unfold Tk.nTo at a
          unfold Tk.joinR; rw [hat, if_pos rfl, if_pos (by split at a <;> omega)]
        have HR1 := hide hR
        clear hR hat
        go_wp2_with fail
        go_ret2
        exact ⟨by rw [unhide HR1]; rfl, unhide HBE⟩
      · have hs := (unhide HST) (by omega)
        have hR : Tk.joinR l = (⟨(Tk.jnTo l l.length).toArray⟩, 0) := by
          have a := unhide HN; unfold Tk.nTo at a
          unfold Tk.joinR; rw [hat, if_pos rfl, if_neg (by
            split at a
            · rename_i e; rw [e]; show ¬ 6000 < 0; omega
            · omega)]
        subst hs
        have HR1 := hide hR
        clear hR hat
        go_wp2_with fail
        go_ret2
        exact ⟨by rw [unhide HR1]; rfl, unhide HBE⟩
end Go.Proofs.Ytnfigfedijhiiaa
