/-
  The contract of Join of package token. By the verifier.
-/
import Derived.Test.YtnfigfedijhiiaaBlanks
namespace Go.Proofs.Ytnfigfedijhiiaa
open Go.RowKit
set_option linter.unusedVariables false

def Tk.allTok (l : List (Int × Int × ByteArray)) : Bool := l.all fun t => Tk.isTok t.1 (Tk.B t.2.2)

/-- What Join answers. -/
def Tk.joinR (l : List (Int × Int × ByteArray)) : ByteArray × Nat :=
  if Tk.allTok l then (if 6000 < (Tk.jnTo l l.length).length then (⟨#[]⟩, 2) else (⟨(Tk.jnTo l l.length).toArray⟩, 0)) else (⟨#[]⟩, 1)

theorem Tk.allTok_false (l : List (Int × Int × ByteArray)) (k : Nat) (t : Int × Int × ByteArray) (h : l[k]? = some t) (ht : Tk.isTok t.1 (Tk.B t.2.2) = false) : Tk.allTok l = false := by
  unfold Tk.allTok
  rw [List.all_eq_false]
  exact ⟨t, List.mem_of_getElem? h, by rw [ht]; decide⟩

theorem Tk.allTok_true (l : List (Int × Int × ByteArray)) (h : ∀ (j : Nat) (t : Int × Int × ByteArray), l[j]? = some t → Tk.isTok t.1 (Tk.B t.2.2) = true) : Tk.allTok l = true := by
  unfold Tk.allTok
  rw [List.all_eq_true]
  intro t ht
  obtain ⟨j, hj⟩ := List.getElem?_of_mem ht
  exact h j t hj

theorem ret_two {a a' b b' : Value} (h : a = a') (k : b = b') : Ending.returned (.tuple #[a, b]) = .returned (.tuple #[a', b']) := by rw [h, k]

set_option maxHeartbeats 800000 in
theorem Join_any (l : List (Int × Int × ByteArray)) (ad : Option Addr) (cap : Nat) (w : World) (hr : Tk.Reads w ad l) (hl : l.length ≤ 35184372088832) :
    Calls Try.prog 11 #[.slice ad l.length cap] w fun e w' => e = .returned (.tuple #[.string (Tk.joinR l).1, .int .i64 ((Tk.joinR l).2 : Int)]) ∧ Below w.heap.size w w' := by
  have HR := hide hr
  clear hr
  have hmul : ∀ k : Nat, k ≤ l.length → 6001 * k ≤ 6001 * 35184372088832 := fun k hk => Nat.mul_le_mul_left _ (by omega)
  have HMU := hide hmul
  clear hmul
  go_enter Try.func11, Try.ntmps11
  go_wp2_with fail
  go_loopw [4, 9] (fun sv iv wr => ∃ k sz : Nat, k ≤ l.length ∧ iv = .int .i64 k ∧ sv = .int .i64 sz ∧ sz = (Tk.jnTo l k).length ∧ sz ≤ 6001 * k ∧ (∀ j t, j < k → l[j]? = some t → Tk.isTok t.1 (Tk.B t.2.2) = true) ∧ Below w.heap.size w wr) (fun _ iv _ => l.length - (intOf iv).toNat)
  case atStart => exact ⟨0, 0, Nat.zero_le _, rfl, rfl, rfl, by omega, fun j t h => by omega, Below.refl _ _⟩
  case round =>
    obtain ⟨k, sz, hk, rfl, rfl, hsz, hle, hall, hbe⟩ := hrel
    have HSZ := hide hsz
    have HAL := hide hall
    have HBE := hide hbe
    have hz := hbe.size
    have hmk := (unhide HMU) k hk
    clear hsz hall hbe
    by_cases hlt : k < l.length
    · obtain ⟨t, ht⟩ : ∃ t, l[k]? = some t := ⟨l[k], List.getElem?_eq_getElem hlt⟩
      obtain ⟨b, o, rfl, hb, c0, c1, c2, hts⟩ := ((unhide HR).later (unhide HBE) (Nat.le_refl _)).at_ k t ht
      have HT := hide ht
      have HTS := hide hts
      clear ht hts
      have hk1 : (0 : Int) ≤ (k : Int) := by omega
      have hk2 : (k : Int) < (l.length : Int) := by omega
      go_wp2_with fail
      refine (isAlone_any t.1 t.2.1 t.2.2 _ (unhide HTS)).mono ?_
      rintro e w1 ⟨rfl, hb1⟩
      have hz1 := hb1.size
      simp at hz1
      have hc2 : w1.cell? ⟨wr.heap.size, 2, none⟩ = some (.string t.2.2) := (hb1.cell (p := ⟨wr.heap.size, 2, none⟩) (by simp)).trans (by simp)
      have HB1 := hide hb1
      clear hb1
      cases htk : Tk.isTok t.1 (Tk.B t.2.2)
      · have hR : Tk.joinR l = (⟨#[]⟩, 1) := by unfold Tk.joinR; rw [Tk.allTok_false l k t (unhide HT) htk]; rfl
        have HR1 := hide hR
        clear hR htk
        go_wp2_with fail
        go_ret2
        exact ⟨by rw [unhide HR1]; rfl, (unhide HBE).trans ((below_two (unhide HB1)).mono hz)⟩
      · have hts6 : t.2.2.size ≤ 6000 := by have := ((Tk.isTok_iff _ _).1 htk).1; rw [Tk.B_length] at this; exact this
        have HTK := hide htk
        clear htk
        have hmk1 := (unhide HMU) (k + 1) hlt
        by_cases h0 : (0 : Int) < (k : Int)
        · go_wp2_with fail
          have hst := Tk.jnTo_step l k t (unhide HT)
          rw [if_neg (by omega)] at hst
          have hs' := unhide HSZ
          have e : t.2.2.data.size = t.2.2.size := rfl
          have hln := congrArg List.length hst
          simp only [List.length_append, List.length_cons, List.length_nil, Array.length_toList] at hln
          refine ⟨⟨k + 1, sz + 1 + t.2.2.size, by omega, by go_num, by go_num, by omega, by omega, ?_, (unhide HBE).trans ((below_two (unhide HB1)).mono hz)⟩, by simp [intOf]; omega⟩
          intro j u hj hu
          by_cases e2 : j = k
          · subst e2
            have := unhide HT
            rw [this] at hu
            cases hu
            exact unhide HTK
          · exact (unhide HAL) j u (by omega) hu
        · go_wp2_with fail
          have hst := Tk.jnTo_step l k t (unhide HT)
          rw [if_pos (by omega)] at hst
          have hs' := unhide HSZ
          have e : t.2.2.data.size = t.2.2.size := rfl
          have hln := congrArg List.length hst
          simp only [List.length_append, List.length_nil, Array.length_toList] at hln
          refine ⟨⟨k + 1, sz + t.2.2.size, by omega, by go_num, by go_num, by omega, by omega, ?_, (unhide HBE).trans ((below_two (unhide HB1)).mono hz)⟩, by simp [intOf]; omega⟩
          intro j u hj hu
          by_cases e2 : j = k
          · subst e2
            have := unhide HT
            rw [this] at hu
            cases hu
            exact unhide HTK
          · exact (unhide HAL) j u (by omega) hu
    · have hkl : k = l.length := by omega
      subst hkl
      have hat : Tk.allTok l = true := Tk.allTok_true l fun j t hj => (unhide HAL) j t (by have := (List.getElem?_eq_some_iff.1 hj).1; exact this) hj
      by_cases hbig : (6000 : Int) < (sz : Int)
      · have hR : Tk.joinR l = (⟨#[]⟩, 2) := by unfold Tk.joinR; rw [hat, if_pos rfl, if_pos (by have := unhide HSZ; omega)]
        have HR1 := hide hR
        clear hR hat
        go_wp2_with fail
        go_ret2
        exact ⟨by rw [unhide HR1]; rfl, unhide HBE⟩
      · have hs6 : (Tk.jnTo l l.length).length ≤ 6000 := by have := unhide HSZ; omega
        have hR : Tk.joinR l = (⟨(Tk.jnTo l l.length).toArray⟩, 0) := by unfold Tk.joinR; rw [hat, if_pos rfl, if_neg (by omega)]
        have HR1 := hide hR
        have HS6 := hide hs6
        clear hR hat hs6
        go_wp2_with fail
        refine (withBlanks_any l ad cap _ ((unhide HR).later (unhide HBE) (Nat.le_refl _)) (unhide HS6) hl).mono ?_
        rintro e w1 ⟨rfl, hb1⟩
        have HB1 := hide hb1
        clear hb1
        go_wp2_with fail
        go_ret2
        exact ⟨by rw [unhide HR1]; rfl, (unhide HBE).trans ((unhide HB1).mono hz)⟩
end Go.Proofs.Ytnfigfedijhiiaa
