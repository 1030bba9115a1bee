/-
  TokenPlaces: the walk of the law. By the verifier.
-/
import Derived.Test.YtnfigfedijhiiaaBegun
import Derived.Test.YtnfigfedijhiiaaOrd
namespace Go.Proofs.Ytnfigfedijhiiaa
open Go.RowKit
set_option linter.unusedVariables false

theorem Tk.scanR_6000 (s : ByteArray) (h : (Tk.scanR s).2.2 = 0) : s.size ≤ 6000 := by
  apply Classical.byContradiction; intro hh
  have : Tk.scanR s = ([], 0, 2) := by unfold Tk.scanR; rw [if_pos (by omega)]
  rw [this] at h; cases h

theorem Tk.scanR_ord (s : ByteArray) (h : (Tk.scanR s).2.2 = 0) : Tk.ordd s.size 0 (Tk.scanR s).1 := by
  have hs := Tk.scanR_6000 s h
  rw [Tk.scanR_small s hs] at h ⊢
  obtain ⟨m, h1, h2⟩ := Tk.scl_ord (Tk.B s) 0 0 false [] (Nat.zero_le _) h
  rw [h1]
  simpa [Tk.B_length] using h2

theorem Tk.scanR_err (s : ByteArray) (h : (Tk.scanR s).2.2 ≠ 0) : (Tk.scanR s).1 = [] := by
  by_cases hs : s.size ≤ 6000
  · rw [Tk.scanR_small s hs] at h ⊢; exact Tk.scl_err _ _ _ _ _ h
  · unfold Tk.scanR; rw [if_pos (by omega)]

theorem Tk.Reads.drewN {w : World} {ad : Option Addr} {l : List (Int × Int × ByteArray)} (h : Tk.Reads w ad l) (n : Nat) : Tk.Reads (w.drewN n) ad l := h.later (below_drewN (Below.refl w.heap.size w) n) (Nat.le_refl _)

set_option maxRecDepth 100000 in
set_option maxHeartbeats 1600000 in
theorem places_walk (s : ByteArray) (w : World) (hs : s.size ≤ maxLen) :
    Calls Try.prog 6 #[.string s] w fun e w' => e = .returned (.bool true) ∧ Below w.heap.size w w' := by
  have HS := hide hs
  unfold maxLen at hs
  go_enter Try.func6, Try.ntmps6
  go_wp2_with fail
  refine (Scan_any s _ (unhide HS)).mono ?_
  rintro e w1 ⟨v, rfl, ho, hb⟩
  obtain ⟨ad, cap, rfl⟩ := ownsRow_slice ho
  have hrd := Tk.reads_own (unhide HS) ho
  have hz := hb.size
  have HB := hide hb
  clear ho hb
  generalize hR : Tk.scanR s = R at *
  obtain ⟨L, at_, er⟩ := R
  go_wp2_with fail
  refine (tokenBegun_any _).mono ?_
  rintro e w2 ⟨rfl, hb2⟩
  have hrd2 := hrd.later hb2 (Nat.le_refl _)
  have HRD := hide hrd2
  have HB2 := hide ((unhide HB).trans (hb2.mono hz))
  clear hrd hrd2 hb2 HB
  by_cases her : er = 0
  · subst her
    have hord := Tk.scanR_ord s (by rw [hR])
    have hs6 := Tk.scanR_6000 s (by rw [hR])
    rw [hR] at hord
    simp only at hord
    have hL6 : L.length ≤ 6000 := by have := Tk.ordd_length _ _ _ (Nat.zero_le _) hord; omega
    clear hs
    have HO : Hid (Tk.ordd s.size 0 L) := hord
    clear hord hR
    go_wp2_with fail
    go_loopw [6, 7] (fun pv iv wr => ∃ k p : Nat, k ≤ L.length ∧ iv = .int .i64 k ∧ pv = .int .i64 p ∧ p ≤ s.size ∧ Tk.ordd s.size p (L.drop k) ∧ Tk.Reads wr ad (Tk.toks s L) ∧ Below w.heap.size w wr) (fun _ iv _ => L.length - (intOf iv).toNat)
    case atStart => exact ⟨0, 0, Nat.zero_le _, rfl, rfl, Nat.zero_le _, unhide HO, unhide HRD, unhide HB2⟩
    case round =>
      obtain ⟨k, p, hk, rfl, rfl, hp, hord, hrd, hbe⟩ := hrel
      have HO2 := hide hord
      have HRD2 := hide hrd
      have HBE := hide hbe
      clear hord hrd hbe HO HRD HB2
      by_cases hlt : k < L.length
      · have hx := List.getElem?_eq_getElem hlt
        have hor := unhide HO2
        rw [List.drop_eq_getElem_cons hlt] at hor
        generalize L[k] = x at *
        obtain ⟨K, a, n⟩ := x
        obtain ⟨o1, o2, o3, o4⟩ := hor
        simp only at o1 o2 o3 o4
        obtain ⟨b, o, rfl, hbb, c0, c1, c2, hts⟩ := (unhide HRD2).at_ k ((K : Int), (a : Int), s.extract a (a + n)) (by unfold Tk.toks; rw [List.getElem?_map, hx]; rfl)
        simp only at c0 c1 c2
        have hex := Tk.extract_size s a n o3
        have HO4 := hide o4
        have HX := hide hx
        clear hts o4 hx
        have hk1 : (0 : Int) ≤ (k : Int) := by omega
        have hk2 : (k : Int) < (L.length : Int) := by omega
        have g1 : decide (a < p) = false := decide_eq_false (by omega)
        have g2 : ((n : Int) == 0) = false := by rw [beq_eq_false_iff_ne]; omega
        have g3 : decide (s.size < a) = false := decide_eq_false (by omega)
        have g4 : decide ((s.size : Int) - (a : Int) < (n : Int)) = false := decide_eq_false (by omega)
        go_wp2_with fail
        go_quiet (fail)
        go_wp2_with fail
        refine ⟨⟨k + 1, a + n, by omega, by go_num, by go_num, o3, unhide HO4, (unhide HRD2).drewN _, below_drewN (unhide HBE) _⟩, by simp [intOf]; omega⟩
      · go_wp2_with fail
        go_ret
        exact ⟨rfl, unhide HBE⟩
  · have hne := Tk.scanR_err s (by rw [hR]; exact her)
    rw [hR] at hne
    simp only at hne
    subst hne
    have g : ((er : Int) != 0) = true := by rw [bne_iff_ne]; omega
    clear hR
    go_wp2_with fail
    go_ret
    exact ⟨rfl, unhide HB2⟩
end Go.Proofs.Ytnfigfedijhiiaa
