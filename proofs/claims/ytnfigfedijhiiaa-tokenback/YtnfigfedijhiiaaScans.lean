/-
  TokenScans: the walk of the law. By the verifier.
-/
import Derived.Test.YtnfigfedijhiiaaSame
import Derived.Test.YtnfigfedijhiiaaRefScan
namespace Go.Proofs.Ytnfigfedijhiiaa
open Go.RowKit
set_option linter.unusedVariables false

theorem Tk.scanR_length (s : ByteArray) : (Tk.scanR s).1.length ≤ 6000 := by
  by_cases h : (Tk.scanR s).2.2 = 0
  · have h1 := Tk.scanR_6000 s h
    have := Tk.ordd_length _ _ _ (Nat.zero_le _) (Tk.scanR_ord s h)
    omega
  · rw [Tk.scanR_err s h]; exact Nat.zero_le _

set_option maxRecDepth 100000 in
set_option maxHeartbeats 800000 in
theorem scans_walk (s : ByteArray) (w : World) (hs : s.size ≤ maxLen) :
    Calls Try.prog 3 #[.string s] w fun e w' => e = .returned (.bool true) ∧ Below w.heap.size w w' := by
  have HS := hide hs
  have hlen := hide (Tk.scanR_length s)
  clear hs
  go_enter Try.func3, Try.ntmps3
  go_wp2_with fail
  refine (Scan_any s _ (unhide HS)).mono ?_
  rintro e w1 ⟨v, rfl, ho, hb⟩
  obtain ⟨ad, cap, rfl⟩ := ownsRow_slice ho
  have hrd := hide (Tk.reads_own (unhide HS) ho)
  have hz := hb.size
  have HB := hide hb
  clear ho hb
  go_wp2_with fail
  refine (ScanOf_any s _ (unhide HS)).mono ?_
  rintro e w2 ⟨v, rfl, ho, hb⟩
  obtain ⟨bd, cap2, rfl⟩ := ownsRow_slice ho
  have hrd2 := hide (Tk.reads_own (unhide HS) ho)
  have hz2 := hb.size
  have HB2 := hide hb
  clear ho hb
  have g1 : (((Tk.scanR s).2.2 : Int) == ((Tk.scanR s).2.2 : Int)) = true := by simp
  have g2 : (((Tk.scanR s).2.1 : Int) == ((Tk.scanR s).2.1 : Int)) = true := by simp
  go_wp2_with fail
  refine (tokenBegun_any _).mono ?_
  rintro e w3 ⟨rfl, hb3⟩
  have hz3 := hb3.size
  have hA := hide (((unhide hrd).later (unhide HB2) (Nat.le_refl _)).later hb3 (Nat.le_refl _))
  have hBB := hide ((unhide hrd2).later hb3 (Nat.le_refl _))
  have HB3 := hide hb3
  clear hb3 hrd hrd2
  go_wp2_with fail
  have hll := Tk.toks_length s (Tk.scanR s).1
  rw [← hll]
  refine (same_any (Tk.toks s (Tk.scanR s).1) (Tk.toks s (Tk.scanR s).1) ad bd cap cap2 true _ (unhide hA) (unhide hBB) rfl (by have := unhide hlen; omega) (fun i t u ht hu => by rw [ht] at hu; cases hu; exact ⟨rfl, rfl, fun _ => rfl⟩)).mono ?_
  rintro e w4 ⟨rfl, hb4⟩
  have HB4 := hide hb4
  clear hb4
  go_wp2_with fail
  go_ret
  exact ⟨rfl, (((unhide HB).trans ((unhide HB2).mono hz)).trans ((unhide HB3).mono (by omega))).trans ((unhide HB4).mono (by omega))⟩
end Go.Proofs.Ytnfigfedijhiiaa
