/-
  The walk of WhenSpans. By the verifier.
-/
import Derived.Test.YtkonaaldbeecoaaWBegun
import Derived.Test.YtkonaaldbeecoaaWApart
namespace Go.Proofs.Ytkonaaldbeecoaa
open Go.RowKit
set_option linter.unusedVariables false

set_option maxRecDepth 100000 in
set_option maxHeartbeats 1600000 in
theorem wspans_err (n : Nat) (e : Qk.E) (x : Qk.AT n) (len : Nat) (ad : Option Addr) (cap : Nat) (w : World) (h : Qk.RA w n e x) (hf : len ≤ 35184372088832) (h0 : Qk.hErr n x len ≠ 0) :
    Calls Try.prog 4 #[e.val, .slice ad len cap] w fun r w' => r = .returned (.bool true) ∧ Below w.heap.size w w' := by
  have HT := hide (fun (W : World) (h : Qk.RA W n e x) => Times_err n e x len ad cap 0 (len : Int) W h hf h0)
  have HS := hide (fun (W : World) (h : Qk.RA W n e x) => Spans_err n e x len ad cap W h hf h0)
  have HA := hide h
  generalize Qk.hErr n x len = C at *
  have g0 : ((C : Int) != (C : Int)) = false := by simp
  clear h h0
  unfold Qk.E.val at HT HS ⊢
  go_enter Try.func4, Try.ntmps4
  go_wp2_with fail
  refine (whenBegun_any _).mono ?_
  rintro r w1 ⟨rfl, hb1⟩
  have q0 : w1.cell? ⟨w.heap.size, 0, none⟩ = some (.int .i64 e.k) := (hb1.cell (p := ⟨w.heap.size, 0, none⟩) (by simp)).trans (by simp)
  have q1 : w1.cell? ⟨w.heap.size, 1, none⟩ = some (.int .i64 e.n) := (hb1.cell (p := ⟨w.heap.size, 1, none⟩) (by simp)).trans (by simp)
  have q2 : w1.cell? ⟨w.heap.size, 2, none⟩ = some (.slice e.args.ad e.args.len e.args.cap) := (hb1.cell (p := ⟨w.heap.size, 2, none⟩) (by simp)).trans (by simp)
  have hz1 : w.heap.size < w1.heap.size := by have := hb1.size; simp at this; omega
  have HB1 := hide (below_two hb1)
  clear hb1
  go_wp2_with fail
  refine ((unhide HT) _ ((unhide HA).later (unhide HB1) (Nat.le_refl _))).mono ?_
  rintro r w2 ⟨rfl, hb2⟩
  have p0 := (hb2.cell (p := ⟨w.heap.size, 0, none⟩) hz1).trans q0
  have p1 := (hb2.cell (p := ⟨w.heap.size, 1, none⟩) hz1).trans q1
  have p2 := (hb2.cell (p := ⟨w.heap.size, 2, none⟩) hz1).trans q2
  have HB2 := hide ((unhide HB1).trans (hb2.mono (unhide HB1).size))
  clear hb2 q0 q1 q2
  go_wp2_with fail
  refine ((unhide HS) _ ((unhide HA).later (unhide HB2) (Nat.le_refl _))).mono ?_
  rintro r w3 ⟨rfl, hb3⟩
  have HB3 := hide ((unhide HB2).trans (hb3.mono (unhide HB2).size))
  clear hb3 p0 p1 p2
  go_wp2_with fail
  go_loop [9, 11] (fun av iv => av = .slice none 0 0 ∧ iv = .int .i64 0) (fun _ _ => 0)
  case atStart => exact ⟨rfl, rfl⟩
  case round =>
    obtain ⟨rfl, rfl⟩ := hrel
    go_wp2_with fail
    refine (SameInts_eq [] none none 0 0 _ (Ix.RI.nil _ _) (Ix.RI.nil _ _) (by decide)).mono ?_
    rintro r w4 ⟨rfl, hb4⟩
    have HB4 := hide ((unhide HB3).trans (hb4.mono (unhide HB3).size))
    clear hb4
    go_wp2_with fail
    go_ret
    exact ⟨rfl, unhide HB4⟩

set_option maxRecDepth 100000 in
set_option maxHeartbeats 1600000 in
theorem wspans_ok (n : Nat) (e : Qk.E) (x : Qk.AT n) (l : List Ev) (ad : Option Addr) (cap : Nat) (w : World) (h : Qk.RA w n e x) (hr : Cl.RE w ad l) (hw : ∀ e ∈ l, e.wf) (h0 : Qk.hErr n x l.length = 0) :
    Calls Try.prog 4 #[e.val, .slice ad l.length cap] w fun r w' => r = .returned (.bool true) ∧ Below w.heap.size w w' := by
  have hl := (Qk.hErr_ok h0).2
  have HT := hide (fun (W : World) (h : Qk.RA W n e x) (h1 : Cl.RE W ad l) => Times_is n e x l ad cap 0 (l.length : Int) W h h1 hw h0)
  have HS := hide (fun (W : World) (h : Qk.RA W n e x) (h1 : Cl.RE W ad l) => Spans_is n e x l ad cap W h h1 hw h0)
  have HA := hide h
  have HR := hide hr
  have HAP := hide (Wn.R_apart (Qk.marks n x l) l.length)
  have HCU := hide (Wn.cuts_R (Qk.marks n x l) 0 (l.length : Nat) l.length)
  have hRl := Wn.R_length (Qk.marks n x l) l.length
  have hTl := Wn.T_length (Qk.marks n x l) 0 (l.length : Int) l.length
  obtain ⟨i0, hi, hz0, hz1, hz2⟩ := info_parts Try.info3
  have HI := hide hi
  have HZ0 := hide hz0
  have HZ1 := hide hz1
  have HZ2 := hide hz2
  clear h hr hw h0 hi hz0 hz1 hz2
  generalize Wn.R (Qk.marks n x l) l.length = R at *
  generalize Wn.T (Qk.marks n x l) 0 (l.length : Int) l.length = T at *
  unfold Qk.E.val at HT HS ⊢
  go_enter Try.func4, Try.ntmps4
  go_wp2_with fail
  refine (whenBegun_any _).mono ?_
  rintro r w1 ⟨rfl, hb1⟩
  have q0 : w1.cell? ⟨w.heap.size, 0, none⟩ = some (.int .i64 e.k) := (hb1.cell (p := ⟨w.heap.size, 0, none⟩) (by simp)).trans (by simp)
  have q1 : w1.cell? ⟨w.heap.size, 1, none⟩ = some (.int .i64 e.n) := (hb1.cell (p := ⟨w.heap.size, 1, none⟩) (by simp)).trans (by simp)
  have q2 : w1.cell? ⟨w.heap.size, 2, none⟩ = some (.slice e.args.ad e.args.len e.args.cap) := (hb1.cell (p := ⟨w.heap.size, 2, none⟩) (by simp)).trans (by simp)
  have hz1 : w.heap.size < w1.heap.size := by have := hb1.size; simp at this; omega
  have HB1 := hide (below_two hb1)
  clear hb1
  go_wp2_with fail
  refine ((unhide HT) _ ((unhide HA).later (unhide HB1) (Nat.le_refl _)) ((unhide HR).later (unhide HB1) (Nat.le_refl _))).mono ?_
  rintro r w2 ⟨a2, c2, rfl, hr2, hb2⟩
  have p0 := (hb2.cell (p := ⟨w.heap.size, 0, none⟩) hz1).trans q0
  have p1 := (hb2.cell (p := ⟨w.heap.size, 1, none⟩) hz1).trans q1
  have p2 := (hb2.cell (p := ⟨w.heap.size, 2, none⟩) hz1).trans q2
  have HR2 := hide hr2
  have HB2 := hide ((unhide HB1).trans (hb2.mono (unhide HB1).size))
  clear hb2 q0 q1 q2 hr2
  go_wp2_with fail
  refine ((unhide HS) _ ((unhide HA).later (unhide HB2) (Nat.le_refl _)) ((unhide HR).later (unhide HB2) (Nat.le_refl _))).mono ?_
  rintro r w3 ⟨a3, c3, rfl, hr3, hb3⟩
  have HR3 := hide ((unhide HR2).later hb3 (Nat.le_refl _))
  have HP3 := hide hr3
  have HB3 := hide ((unhide HB2).trans (hb3.mono (unhide HB2).size))
  clear hb3 p0 p1 p2 hr3
  go_wp2_with fail
  go_loopw [9, 10, 11] (fun av lv iv wr => ∃ (k : Nat) (zs : List Int), k ≤ R.length ∧ iv = .int .i64 k ∧ lv = .int .i64 (Wn.lastAt R k) ∧ zs = Wn.cuts 0 (l.length : Nat) (R.take k) ∧ wr.ownsInts w3.heap.size 3 .i64 av zs ∧ Below w3.heap.size w3 wr) (fun _ _ iv _ => R.length - (intOf iv).toNat)
  case atStart => exact ⟨0, [], Nat.zero_le _, rfl, rfl, rfl, World.ownsInts_nil _ _ _ _, Below.refl _ _⟩
  case round =>
    obtain ⟨k, zs, hk, rfl, rfl, hzs, how, hbe⟩ := hrel
    have hzl : zs.length ≤ 4000 * k := by
      have h1 := Wn.cuts_few (n := 4000) (l := R.take k) (fun p hp => by have := (unhide HAP).1 p (List.mem_of_mem_take hp); omega) 0 (l.length : Nat)
      rw [← hzs, List.length_take] at h1
      omega
    have HZS := hide hzs
    have HOW := hide how
    have HBE := hide hbe
    have hze := hbe.size
    clear hzs how hbe
    by_cases hlt : k < R.length
    · obtain ⟨p, hp⟩ : ∃ p, R[k]? = some p := ⟨R[k], List.getElem?_eq_getElem hlt⟩
      have hla := Wn.lastAt_lt (unhide HAP).2.2 hp
      have hpp := (unhide HAP).1 p (List.mem_of_getElem? hp)
      have HLS := hide (Wn.lastAt_succ hp)
      have HCT := hide (show Wn.cuts 0 (l.length : Nat) (R.take (k + 1)) = zs ++ Wn.upTo (p.1 : Nat) (p.2 : Nat) by rw [Wn.cuts_take hp, unhide HZS, Wn.cut_whole hpp.2])
      obtain ⟨g, rfl, hg, c0, c1⟩ := ((unhide HP3).later (unhide HBE) (Nat.le_refl _)).at_ k p hp
      obtain ⟨bg, en⟩ := p
      simp only at hla hpp HLS HCT c0 c1
      generalize Wn.lastAt R k = LA at *
      have hk1 : (0 : Int) ≤ (k : Int) := by omega
      have hk2 : (k : Int) < (R.length : Int) := by omega
      have g1 : decide (((bg : Nat) : Int) ≤ LA) = false := by simp; omega
      have g2 : decide (((en : Nat) : Int) ≤ ((bg : Nat) : Int)) = false := by simp; omega
      have g3 : decide (((en : Nat) : Int) > ((l.length : Nat) : Int)) = false := by simp; omega
      have g4 : decide (en ≤ bg) = false := by simp; omega
      have g5 : decide (l.length < en) = false := by simp; omega
      have HPK := hide hp
      clear hp
      go_wp2_with fail
      go_quiet (fail)
      go_wp2_with fail
      have HOQ := hide (show (wr.drewN nq).ownsInts w3.heap.size 3 .i64 u9 zs from ⟨Ix.ow_below (unhide HOW).1 (below_drewN (Below.refl _ _) _), (unhide HOW).2⟩)
      have HBQ := hide (below_drewN (unhide HBE) nq)
      clear c0 c1 HOW HBE hg hze
      generalize wr.drewN nq = wq at *
      clear wr
      go_loopw [9, 12] (fun av tv wr => ∃ (τ : Nat) (ys : List Int), bg ≤ τ ∧ τ ≤ en ∧ tv = .int .i64 τ ∧ ys = zs ++ Wn.upTo ((bg : Nat) : Int) ((τ : Nat) : Int) ∧ wr.ownsInts w3.heap.size 3 .i64 av ys ∧ Below w3.heap.size w3 wr) (fun _ tv _ => en - (intOf tv).toNat)
      case atStart => exact ⟨bg, zs, Nat.le_refl _, by omega, rfl, by rw [Wn.upTo_nil (Int.le_refl _), List.append_nil], unhide HOQ, unhide HBQ⟩
      case round =>
        obtain ⟨τ, ys, t1, t2, rfl, hys, how, hbe⟩ := hrel
        have hyl : ys.length ≤ 4000 * k + 4000 := by
          rw [hys, List.length_append, Wn.upTo_length]
          omega
        obtain ⟨g', hge, hg, c0, c1⟩ := ((unhide HP3).later hbe (Nat.le_refl _)).at_ k _ (unhide HPK)
        cases hge
        simp only at c0 c1
        have HYS := hide hys
        have HOW := hide how
        have HBE := hide hbe
        have hze := hbe.size
        clear hys how hbe
        have ht0 : (0 : Int) ≤ (τ : Int) := by omega
        by_cases htl : τ < en
        · have ht1 : ((τ : Nat) : Int) < ((en : Nat) : Int) := by omega
          have HUP := hide (show zs ++ Wn.upTo ((bg : Nat) : Int) ((τ + 1 : Nat) : Int) = ys ++ [((τ : Nat) : Int)] by rw [unhide HYS, List.append_assoc, ← Wn.upTo_snoc (by omega)]; rfl)
          have HLT := hide (unhide HOW).1.lt
          have tok1 : True := trivial
          go_wp2_with (at_builtin; have _t := tok1; clear tok1 _t; refine wpList_append_own_at _ rfl _ _ 26 rfl w3.heap.size 3 i0 (.int .i64 0) 1 8 Try.underlying26 (unhide HI) (unhide HZ0) (unhide HZ1) (unhide HZ2) rfl (by decide) _ _ _ rfl ((unhide HOW).1.alloc _) ⟨wr.heap.size, 0, none⟩ 1 1 [.int .i64 τ] rfl rfl (cell_one_new _ _ _) (ints_oneCell .i64 [(τ : Int)]) (by unfold maxLen; omega) (by omega) (by simp; omega) ?_; intro v' w5 hown' hgrow hnil hloc; have HOWN' := hide hown'; have HG := hide ((World.grownBy_alloc wr _ _).trans hgrow); clear hown' hgrow hnil hloc)
          go_roundw
          case rel =>
            first | refine ⟨_, _, _, _, _, _, _, _, _, _, _, _, _, _, _, ?_, rfl⟩ | skip
            exact ⟨τ + 1, ys ++ [((τ : Nat) : Int)], by omega, by omega, by go_num, (unhide HUP).symm, (unhide HOW).appended (unhide HOWN') (WalkArith.wf_i64 (by omega)), (unhide HBE).grown (unhide HG) (by omega) (fun q hq => ((unhide HLT) q hq).1)⟩
          case measure => simp [intOf]; omega
        · have hte : τ = en := by omega
          have HYE := hide (show ys = Wn.cuts 0 (l.length : Nat) (R.take (k + 1)) by rw [unhide HCT, unhide HYS, hte])
          have ht1 : ¬ ((τ : Nat) : Int) < ((en : Nat) : Int) := by omega
          clear hte
          go_wp2_with fail
          go_roundw
          case rel => exact ⟨k + 1, ys, by omega, by go_num, by rw [unhide HLS], unhide HYE, unhide HOW, unhide HBE⟩
          case measure => simp [intOf]; omega
    · have hke : k = R.length := by omega
      have HTZ := hide (show zs = T by rw [unhide HZS, hke, List.take_length, unhide HCU])
      clear hke
      have HFIN := hide (show ∃ a c, u9 = .slice a T.length c ∧ Ix.RI wr a T by
        rcases Ix.open_row (unhide HOW) with ⟨h1, h2⟩ | ⟨g, c, h1, _, _, h2⟩
        · exact ⟨none, 0, by rw [h1, ← unhide HTZ, h2]; rfl, by rw [← unhide HTZ, h2]; exact Ix.RI.nil _ _⟩
        · rw [← unhide HTZ]
          exact ⟨_, c, h1, h2⟩)
      obtain ⟨a9, c9, rfl, hri9⟩ := unhide HFIN
      have HRI9 := hide hri9
      have HRI2 := hide ((unhide HR3).later (unhide HBE) (Nat.le_refl _))
      clear hri9
      go_wp2_with fail
      refine (SameInts_eq T a2 a9 c2 c9 _ (unhide HRI2) (unhide HRI9) (by omega)).mono ?_
      rintro r w4 ⟨rfl, hb4⟩
      have HB4 := hide (((unhide HB3).trans ((unhide HBE).mono (unhide HB3).size)).trans (hb4.mono (by have := (unhide HB3).size; omega)))
      clear hb4
      go_wp2_with fail
      go_ret
      exact ⟨rfl, unhide HB4⟩
end Go.Proofs.Ytkonaaldbeecoaa
