/-
  The contract of the document's own FindOf. By the verifier.
-/
import Derived.Test.YtahcobkpdcognaaIFind
namespace Go.Proofs.Ytahcobkpdcognaa
open Go.RowKit Go.Maps
set_option linter.unusedVariables false

/-- What is found among the first k. -/
def Ix.fd (kind n f t : Int) (l : List Ev) (k : Nat) : List Int := (Ix.T kind n l k).filter (Ix.rng f t)
theorem Ix.fd_step (kind n f t : Int) (l : List Ev) (k : Nat) (e : Ev) (h : l[k]? = some e) : Ix.fd kind n f t l (k + 1) = if Ix.rng f t (k : Int) && Ix.fits kind n e then Ix.fd kind n f t l k ++ [(k : Int)] else Ix.fd kind n f t l k := by
  unfold Ix.fd
  rw [Ix.T_step kind n l k e h]
  by_cases hf : Ix.fits kind n e = true
  · rw [if_pos hf, List.filter_append]
    by_cases hr : Ix.rng f t (k : Int) = true
    · simp [hf, hr]
    · simp [hf, hr]
  · rw [if_neg hf, if_neg (by simp [hf])]
theorem Ix.fd_length (kind n f t : Int) (l : List Ev) (k : Nat) : (Ix.fd kind n f t l k).length ≤ k := Nat.le_trans (List.length_filter_le _ _) (Ix.T_length _ _ _ _)
theorem Ix.fd_all (kind n f t : Int) (l : List Ev) : Ix.fd kind n f t l l.length = Ix.found kind n f t l := rfl

set_option maxRecDepth 100000 in
set_option maxHeartbeats 1600000 in
theorem FindOf_any (l : List Ev) (ad : Option Addr) (cap : Nat) (kind n f t : Int) (w : World) (hr : Cl.RE w ad l) (hl : l.length ≤ 4000) :
    Calls Try.prog 9 #[.slice ad l.length cap, .int .i64 kind, .int .i64 n, .int .i64 f, .int .i64 t] w fun e w' => ∃ a c, e = .returned (.slice a (Ix.found kind n f t l).length c) ∧ Ix.RI w' a (Ix.found kind n f t l) ∧ Below w.heap.size w w' := by
  obtain ⟨i0, hi, hz0, hz1, hz2⟩ := info_parts Try.info3
  have HI := hide hi
  have HZ0 := hide hz0
  have HZ1 := hide hz1
  have HZ2 := hide hz2
  have HR := hide hr
  clear hi hz0 hz1 hz2 hr
  go_enter Try.func9, Try.ntmps9
  go_wp2_with fail
  go_loopw [11, 12] (fun sv v wr => ∃ k : Nat, k ≤ l.length ∧ v = .int .i64 k ∧ wr.ownsInts w.heap.size 3 .i64 sv (Ix.fd kind n f t l k) ∧ Below w.heap.size w wr)
    (fun _ v _ => l.length - (intOf v).toNat)
  case atStart => exact ⟨0, Nat.zero_le _, rfl, World.ownsInts_nil _ _ _ _, Below.refl _ _⟩
  case round =>
    obtain ⟨k, hk, rfl, how, hbe⟩ := hrel
    have HOW := hide how
    have HBE := hide hbe
    have hz := hbe.size
    clear how hbe
    by_cases hlt : k < l.length
    · obtain ⟨e, ht⟩ : ∃ t, l[k]? = some t := ⟨l[k], List.getElem?_eq_getElem hlt⟩
      obtain ⟨b, o, rfl, hb, c0, c1, c2, c3, c4, c5⟩ := ((unhide HR).later (unhide HBE) (Nat.le_refl _)).at_ k e ht
      have HST := hide (Ix.fd_step kind n f t l k e ht)
      have hlen := Ix.fd_length kind n f t l k
      have HF := hide (show ∀ W, Calls Try.prog 16 #[.agg #[.int .i64 e.n0, .int .i64 e.n1, .int .i64 e.n2, .int .i64 e.n3, .int .i64 e.n4, .int .i64 e.n5], .int .i64 kind, .int .i64 n] W fun r w' => r = .returned (.bool (Ix.fits kind n e)) ∧ Below W.heap.size W w' from fun W => Fits_any e kind n W)
      clear ht
      have hk1 : (0 : Int) ≤ (k : Int) := by omega
      have hk2 : (k : Int) < (l.length : Int) := by omega
      generalize Ix.fd kind n f t l k = zs at *
      generalize Ix.fits kind n e = B at *
      by_cases h1 : f ≤ (k : Int)
      · by_cases h2 : (k : Int) < t
        · have HS2 := hide (show Ix.fd kind n f t l (k + 1) = if B then zs ++ [(k : Int)] else zs by rw [unhide HST]; simp [Ix.rng, h1, h2])
          clear HST
          go_wp2_with fail
          refine ((unhide HF) _).mono ?_
          rintro r w2 ⟨rfl, hb2⟩
          have hz2 := hb2.size
          have HB2 := hide ((unhide HBE).trans (hb2.mono hz))
          have HO2 := hide (show w2.ownsInts w.heap.size 3 .i64 u11 zs from ⟨Ix.ow_below (unhide HOW).1 hb2, (unhide HOW).2⟩)
          clear hb2 c0 c1 c2 c3 c4 c5
          cases B
          · go_wp2_with fail
            refine ⟨⟨k + 1, by omega, by go_num, by rw [unhide HS2]; exact unhide HO2, unhide HB2⟩, by simp [intOf]; omega⟩
          · have tok1 : True := trivial
            go_wp2_with (at_builtin; have _t := tok1; clear tok1 _t; refine wpList_append_own_at _ rfl _ _ 23 rfl w.heap.size 3 i0 (.int .i64 0) 1 8 Try.underlying23 (unhide HI) (unhide HZ0) (unhide HZ1) (unhide HZ2) rfl (by decide) _ _ _ rfl ((unhide HO2).1.alloc _) ⟨w2.heap.size, 0, none⟩ 1 1 [.int .i64 k] rfl rfl (cell_one_new _ _ _) (ints_oneCell .i64 [(k : Int)]) (by unfold maxLen; omega) (by omega) (by simp; omega) ?_; intro v' w3 hown' hgrow hnil hloc; have HOWN' := hide hown'; have HG := hide ((World.grownBy_alloc w2 _ _).trans hgrow); clear hown' hgrow hnil hloc)
            have HLT := hide (unhide HO2).1.lt
            refine ⟨⟨k + 1, by omega, by go_num, ?_, (unhide HB2).grown (unhide HG) (by omega) (fun q hq => ((unhide HLT) q hq).1)⟩, by simp [intOf]; omega⟩
            rw [unhide HS2]
            exact (unhide HO2).appended (unhide HOWN') (WalkArith.wf_i64 (by omega))
        · have HS2 := hide (show Ix.fd kind n f t l (k + 1) = zs by rw [unhide HST]; simp [Ix.rng, h2])
          clear HST
          go_wp2_with fail
          refine ⟨⟨k + 1, by omega, by go_num, by rw [unhide HS2]; exact unhide HOW, unhide HBE⟩, by simp [intOf]; omega⟩
      · have HS2 := hide (show Ix.fd kind n f t l (k + 1) = zs by rw [unhide HST]; simp [Ix.rng, h1])
        clear HST
        go_wp2_with fail
        refine ⟨⟨k + 1, by omega, by go_num, by rw [unhide HS2]; exact unhide HOW, unhide HBE⟩, by simp [intOf]; omega⟩
    · have hk2 : ¬ (k : Int) < (l.length : Int) := by omega
      have hkl : k = l.length := by omega
      subst hkl
      go_wp2_with fail
      go_ret
      rcases Ix.open_row (unhide HOW) with ⟨h1, h2⟩ | ⟨g, c, h1, _, _, h2⟩
      · subst h1
        rw [Ix.fd_all] at h2
        rw [h2]
        exact ⟨none, ⟨0, rfl⟩, Ix.RI.nil _ _, unhide HBE⟩
      · subst h1
        exact ⟨_, ⟨c, rfl⟩, h2, unhide HBE⟩
end Go.Proofs.Ytahcobkpdcognaa
