/-
  TokenBack: the walk of the law. By the verifier.
-/
import Derived.Test.YtnfigfedijhiiaaBackJoin
import Derived.Test.YtnfigfedijhiiaaScans
namespace Go.Proofs.Ytnfigfedijhiiaa
open Go.RowKit
set_option linter.unusedVariables false

theorem Tk.joinR_size (l : List (Int × Int × ByteArray)) : (Tk.joinR l).1.size ≤ maxLen := by
  unfold Tk.joinR maxLen
  split
  · split
    · exact Nat.zero_le _
    · show (Tk.jnTo l l.length).toArray.size ≤ _
      rw [List.size_toArray]; omega
  · exact Nat.zero_le _

set_option maxRecDepth 100000 in
set_option maxHeartbeats 1600000 in
theorem back_walk (l : List (Int × Int × ByteArray)) (ad : Option Addr) (cap : Nat) (s : ByteArray) (w : World) (hr : Tk.Reads w ad l) (hl : l.length ≤ 35184372088832) (hs : s.size ≤ maxLen) :
    Calls Try.prog 5 #[.slice ad l.length cap, .string s] w fun e w' => e = .returned (.bool true) ∧ Below w.heap.size w w' := by
  have HR := hide hr
  have HS := hide hs
  clear hr hs
  go_enter Try.func5, Try.ntmps5
  go_wp2_with fail
  refine (tokenBegun_any _).mono ?_
  rintro e w1 ⟨rfl, hb1⟩
  have hz1 := hb1.size
  have HR1 := hide ((unhide HR).later hb1 (Nat.le_refl _))
  have HB1 := hide hb1
  clear hb1
  go_wp2_with fail
  refine (Join_any l ad cap _ (unhide HR1) hl).mono ?_
  rintro e w2 ⟨rfl, hb2⟩
  have hz2 := hb2.size
  have HR2 := hide ((unhide HR1).later hb2 (Nat.le_refl _))
  have HB2 := hide ((unhide HB1).trans (hb2.mono hz1))
  clear hb2
  have hjs := hide (Tk.join_scan l)
  have hjz := hide (Tk.joinR_size l)
  generalize Tk.joinR l = J at *
  obtain ⟨t, er⟩ := J
  by_cases her : er = 0
  · subst her
    obtain ⟨q1, q2, q3⟩ := (unhide hjs) rfl
    simp only at q1 q2 q3
    have Q1 := hide q1
    have Q3 := hide q3
    have Q2 := hide q2
    clear q1 q2 q3 hjs
    go_wp2_with fail
    refine (Scan_any t _ (unhide hjz)).mono ?_
    rintro e w3 ⟨v, rfl, ho, hb⟩
    obtain ⟨bd, cap3, rfl⟩ := ownsRow_slice ho
    have RB := hide (Tk.reads_own (unhide hjz) ho)
    have RA := hide ((unhide HR2).later hb (Nat.le_refl _))
    have hz3 := hb.size
    have HB3 := hide ((unhide HB2).trans (hb.mono (by omega)))
    clear ho hb
    have g3 : (((Tk.scanR t).2.2 : Int) != 0) = false := by rw [unhide Q1]; rfl
    go_wp2_with fail
    rw [← Tk.toks_length t (Tk.scanR t).1]
    refine (same_any l (Tk.toks t (Tk.scanR t).1) ad bd cap cap3 false _ (unhide RA) (unhide RB) (unhide Q2).symm hl (fun i t u ht hu => by obtain ⟨z1, z2⟩ := (unhide Q3) i t u ht hu; exact ⟨z1, z2, fun h => by cases h⟩)).mono ?_
    rintro e w4 ⟨rfl, hb⟩
    have HB := hide ((unhide HB3).trans (hb.mono (by omega)))
    have hzb := (unhide HB).size
    clear hb Q1 Q2 Q3 RA RB
    go_wp2_with fail
    refine (Scan_any s _ (unhide HS)).mono ?_
    rintro e x1 ⟨v, rfl, ho, hb⟩
    obtain ⟨ad1, cap1, rfl⟩ := ownsRow_slice ho
    have RD1 := hide (Tk.reads_own (unhide HS) ho)
    have hzx := hb.size
    have HX := hide ((unhide HB).trans (hb.mono hzb))
    clear ho hb
    by_cases hes : (Tk.scanR s).2.2 = 0
    · have g2 : (((Tk.scanR s).2.2 : Int) != 0) = false := by rw [hes]; rfl
      have hsj := hide (Tk.scan_join s hes)
      have hl1 := hide (Tk.scanR_length s)
      clear hes
      go_wp2_with fail
      rw [← Tk.toks_length s (Tk.scanR s).1]
      refine (Join_any (Tk.toks s (Tk.scanR s).1) ad1 cap1 _ (unhide RD1) (by rw [Tk.toks_length]; have := unhide hl1; omega)).mono ?_
      rintro e x2 ⟨rfl, hb⟩
      have hzx2 := hb.size
      have RD2 := hide ((unhide RD1).later hb (Nat.le_refl _))
      have HX2 := hide ((unhide HX).trans (hb.mono (by omega)))
      clear hb
      have hjs := hide (Tk.join_scan (Tk.toks s (Tk.scanR s).1))
      have hjz := hide (Tk.joinR_size (Tk.toks s (Tk.scanR s).1))
      generalize Tk.joinR (Tk.toks s (Tk.scanR s).1) = J1 at *
      obtain ⟨t1, e1⟩ := J1
      by_cases he1 : e1 = 0
      · subst he1
        obtain ⟨q1, q2, q3⟩ := (unhide hjs) rfl
        simp only at q1 q2 q3
        have Q1 := hide q1
        have Q3 := hide q3
        have Q2 := hide q2
        clear q1 q2 q3 hjs
        go_wp2_with fail
        refine (Scan_any t1 _ (unhide hjz)).mono ?_
        rintro e x3 ⟨v, rfl, ho, hb⟩
        obtain ⟨ad2, cap2, rfl⟩ := ownsRow_slice ho
        have RD3 := hide (Tk.reads_own (unhide hjz) ho)
        have RD4 := hide ((unhide RD2).later hb (Nat.le_refl _))
        have hzx3 := hb.size
        have HX3 := hide ((unhide HX2).trans (hb.mono (by omega)))
        clear ho hb
        have g3 : (((Tk.scanR t1).2.2 : Int) == 0) = true := by rw [unhide Q1]; rfl
        go_wp2_with fail
        rw [← Tk.toks_length t1 (Tk.scanR t1).1]
        refine (same_any (Tk.toks s (Tk.scanR s).1) (Tk.toks t1 (Tk.scanR t1).1) ad1 ad2 cap1 cap2 false _ (unhide RD4) (unhide RD3) (unhide Q2).symm (by rw [Tk.toks_length]; have := unhide hl1; omega) (fun i t u ht hu => by obtain ⟨z1, z2⟩ := (unhide Q3) i t u ht hu; exact ⟨z1, z2, fun h => by cases h⟩)).mono ?_
        rintro e x4 ⟨rfl, hb⟩
        have HX4 := hide ((unhide HX3).trans (hb.mono (by omega)))
        clear hb
        go_wp2_with fail
        go_ret
        exact ⟨rfl, unhide HX4⟩
      · have h2 : e1 = 2 := by rcases unhide hsj with h | h; (exact absurd h he1); exact h
        subst h2
        go_wp2_with fail
        go_ret
        exact ⟨rfl, unhide HX2⟩
    · have g2 : (((Tk.scanR s).2.2 : Int) != 0) = true := by rw [bne_iff_ne]; omega
      have hne := Tk.scanR_err s hes
      rw [hne]
      clear hes hne
      go_wp2_with fail
      go_ret
      exact ⟨rfl, unhide HX⟩
  · have g1 : ((er : Int) == 0) = false := by rw [beq_eq_false_iff_ne]; omega
    have HB := HB2
    have hzb := (unhide HB).size
    go_wp2_with fail
    refine (Scan_any s _ (unhide HS)).mono ?_
    rintro e x1 ⟨v, rfl, ho, hb⟩
    obtain ⟨ad1, cap1, rfl⟩ := ownsRow_slice ho
    have RD1 := hide (Tk.reads_own (unhide HS) ho)
    have hzx := hb.size
    have HX := hide ((unhide HB).trans (hb.mono hzb))
    clear ho hb
    by_cases hes : (Tk.scanR s).2.2 = 0
    · have g2 : (((Tk.scanR s).2.2 : Int) != 0) = false := by rw [hes]; rfl
      have hsj := hide (Tk.scan_join s hes)
      have hl1 := hide (Tk.scanR_length s)
      clear hes
      go_wp2_with fail
      rw [← Tk.toks_length s (Tk.scanR s).1]
      refine (Join_any (Tk.toks s (Tk.scanR s).1) ad1 cap1 _ (unhide RD1) (by rw [Tk.toks_length]; have := unhide hl1; omega)).mono ?_
      rintro e x2 ⟨rfl, hb⟩
      have hzx2 := hb.size
      have RD2 := hide ((unhide RD1).later hb (Nat.le_refl _))
      have HX2 := hide ((unhide HX).trans (hb.mono (by omega)))
      clear hb
      have hjs := hide (Tk.join_scan (Tk.toks s (Tk.scanR s).1))
      have hjz := hide (Tk.joinR_size (Tk.toks s (Tk.scanR s).1))
      generalize Tk.joinR (Tk.toks s (Tk.scanR s).1) = J1 at *
      obtain ⟨t1, e1⟩ := J1
      by_cases he1 : e1 = 0
      · subst he1
        obtain ⟨q1, q2, q3⟩ := (unhide hjs) rfl
        simp only at q1 q2 q3
        have Q1 := hide q1
        have Q3 := hide q3
        have Q2 := hide q2
        clear q1 q2 q3 hjs
        go_wp2_with fail
        refine (Scan_any t1 _ (unhide hjz)).mono ?_
        rintro e x3 ⟨v, rfl, ho, hb⟩
        obtain ⟨ad2, cap2, rfl⟩ := ownsRow_slice ho
        have RD3 := hide (Tk.reads_own (unhide hjz) ho)
        have RD4 := hide ((unhide RD2).later hb (Nat.le_refl _))
        have hzx3 := hb.size
        have HX3 := hide ((unhide HX2).trans (hb.mono (by omega)))
        clear ho hb
        have g3 : (((Tk.scanR t1).2.2 : Int) == 0) = true := by rw [unhide Q1]; rfl
        go_wp2_with fail
        rw [← Tk.toks_length t1 (Tk.scanR t1).1]
        refine (same_any (Tk.toks s (Tk.scanR s).1) (Tk.toks t1 (Tk.scanR t1).1) ad1 ad2 cap1 cap2 false _ (unhide RD4) (unhide RD3) (unhide Q2).symm (by rw [Tk.toks_length]; have := unhide hl1; omega) (fun i t u ht hu => by obtain ⟨z1, z2⟩ := (unhide Q3) i t u ht hu; exact ⟨z1, z2, fun h => by cases h⟩)).mono ?_
        rintro e x4 ⟨rfl, hb⟩
        have HX4 := hide ((unhide HX3).trans (hb.mono (by omega)))
        clear hb
        go_wp2_with fail
        go_ret
        exact ⟨rfl, unhide HX4⟩
      · have h2 : e1 = 2 := by rcases unhide hsj with h | h; (exact absurd h he1); exact h
        subst h2
        go_wp2_with fail
        go_ret
        exact ⟨rfl, unhide HX2⟩
    · have g2 : (((Tk.scanR s).2.2 : Int) != 0) = true := by rw [bne_iff_ne]; omega
      have hne := Tk.scanR_err s hes
      rw [hne]
      clear hes hne
      go_wp2_with fail
      go_ret
      exact ⟨rfl, unhide HX⟩
end Go.Proofs.Ytnfigfedijhiiaa
