/-
  The walk of WhenTells. By the verifier.
-/
import Derived.Test.YtkonaaldbeecoaaWBegun
import Derived.Test.YtkonaaldbeecoaaWSpansOf
import Derived.Test.YtkonaaldbeecoaaWDown
import Derived.Test.YtkonaaldbeecoaaIAppend
import Derived.Test.YtkonaaldbeecoaaQOf
import Derived.Test.YtkonaaldbeecoaaQRef
namespace Go.Proofs.Ytkonaaldbeecoaa
open Go.RowKit
set_option linter.unusedVariables false

theorem Ix.owns_one (w : World) (x : Int) (hx : Ix.wf x) : (w.alloc (Obj.cells #[.int .i64 x] 3)).ownsInts w.heap.size 3 .i64 (.slice (some ⟨w.heap.size, 0, none⟩) 1 1) [x] :=
  ⟨⟨rfl, .inr ⟨w.heap.size, 1, #[.int .i64 x], rfl, Nat.le_refl _, heap_alloc_new w _, Nat.le_refl _, by decide, rfl, rfl⟩⟩, fun y hy => by simp at hy; subst hy; exact hx⟩

theorem HoldsOf_is (n : Nat) (e : Qk.E) (x : Qk.AT n) (l : List Ev) (ad : Option Addr) (cap : Nat) (w : World) (h : Qk.RA w n e x) (h0 : Qk.wrong n x = 0) (hr : Cl.RE w ad l) (hf : l.length ≤ 4000) :
    Calls Try.prog 9 #[e.val, .slice ad l.length cap] w fun r w' => ∃ a c, r = .returned (.slice a l.length c) ∧ Dk.RB w' a (Qk.marks n x l) ∧ (Qk.marks n x l).length = l.length ∧ Below w.heap.size w w' := by
  rcases Nat.eq_zero_or_pos l.length with h1 | h1
  · have hl := List.length_eq_zero_iff.1 h1
    subst hl
    have hm : (Qk.marks n x []).length = 0 := by
      cases n with
      | zero => exact absurd h id
      | succ n => rw [Qk.marks_length]; rfl
    exact (HoldsOf_nil n e x ad cap w h h0).mono fun r w' ⟨h2, h3⟩ => ⟨none, 0, h2, ⟨fun i s hi => by rw [List.length_eq_zero_iff.1 hm] at hi; simp at hi⟩, hm, h3⟩
  · exact (HoldsOf_any n e x l ad cap w h h0 hr h1 hf).mono fun r w' ⟨g, c, h2, _, h3, h4, h5⟩ => ⟨_, c, h2, h3.reads, h4, h5⟩

set_option maxRecDepth 100000 in
set_option maxHeartbeats 3200000 in
theorem wtells_ok (n : Nat) (e : Qk.E) (x : Qk.AT n) (l : List Ev) (ad : Option Addr) (cap : Nat) (f t : Int) (w : World) (h : Qk.RA w n e x) (hr : Cl.RE w ad l) (hw : ∀ e ∈ l, e.wf) (h0 : Qk.hErr n x l.length = 0) :
    Calls Try.prog 3 #[e.val, .slice ad l.length cap, .int .i64 f, .int .i64 t] w fun r w' => r = .returned (.bool true) ∧ Below w.heap.size w w' := by
  have hl := (Qk.hErr_ok h0).2
  have hc0 := (Qk.hErr_ok h0).1
  have HT := hide (fun (W : World) (h : Qk.RA W n e x) (h1 : Cl.RE W ad l) => Times_is n e x l ad cap f t W h h1 hw h0)
  have HF := hide (fun (W : World) (h : Qk.RA W n e x) (h1 : Cl.RE W ad l) => First_ok n e x l ad cap W h h1 hw h0)
  have HS := hide (fun (W : World) (h : Qk.RA W n e x) (h1 : Cl.RE W ad l) => Spans_is n e x l ad cap W h h1 hw h0)
  have HC := hide (fun (W : World) (h : Qk.RA W n e x) => show Calls Try.prog 8 #[e.val] W fun r w' => r = .returned (.int .i64 0) ∧ Below W.heap.size W w' by
    have := CheckAsk_any n e x W h
    rw [hc0] at this
    exact this)
  have HO := hide (fun (W : World) (h : Qk.RA W n e x) (h1 : Cl.RE W ad l) => HoldsOf_is n e x l ad cap W h (Qk.chk_ok hc0).2 h1 hl)
  have HSO := hide (fun (a : Option Addr) (c : Nat) (W : World) (h1 : Dk.RB W a (Qk.marks n x l)) (h2 : (Qk.marks n x l).length = l.length) => show Calls Try.prog 10 #[.slice a l.length c] W fun r w' => ∃ a' c', r = .returned (.slice a' (Wn.R (Qk.marks n x l) l.length).length c') ∧ Wn.RP w' a' (Wn.R (Qk.marks n x l) l.length) ∧ Below W.heap.size W w' by
    have := SpansOf_any (Qk.marks n x l) a c W h1 (by omega)
    rw [h2] at this
    exact this.mono fun r w' ⟨v, k1, k2, k3⟩ => by
      obtain ⟨a', c', rfl, k4⟩ := Wn.open_spans k2
      exact ⟨a', c', k1, k4, k3⟩)
  have HA := hide h
  have HR := hide hr
  have HFS := hide (show Wn.fst (Wn.R (Qk.marks n x l) l.length) = Wn.fv (Wn.Fj (Qk.marks n x l) l.length 0) by rw [Wn.Fj_zero]; exact Wn.fst_first _ _)
  have HIS := hide (show decide (0 < (Wn.R (Qk.marks n x l) l.length).length) = (Wn.Fj (Qk.marks n x l) l.length 0).isSome by rw [Wn.Fj_zero]; exact Wn.is_first _ _)
  have HTZ := hide (Wn.Tj_zero (Qk.marks n x l) f t l.length)
  have hRl := Wn.R_length (Qk.marks n x l) l.length
  have hTl := Wn.T_length (Qk.marks n x l) f t l.length
  clear h hr hw h0 hc0
  generalize Wn.R (Qk.marks n x l) l.length = R at *
  generalize Wn.T (Qk.marks n x l) f t l.length = T at *
  generalize Qk.marks n x l = b at *
  generalize Wn.fst R = FS at *
  generalize decide (0 < R.length) = IS at *
  unfold Qk.E.val at HT HF HS HC HO ⊢
  go_enter Try.func3, Try.ntmps3
  go_wp2_with fail
  obtain ⟨W1, hW1⟩ : ∃ W1, W1 = w.alloc (.cells #[.int .i64 e.k, .int .i64 e.n, .slice e.args.ad e.args.len e.args.cap] 24) := ⟨_, rfl⟩
  have hs1 : w.heap.size < W1.heap.size := by rw [hW1]; simp
  have HB1 := hide (show Below w.heap.size w W1 by rw [hW1]; exact (Below.refl _ _).alloc (Nat.le_refl _) _)
  have q0 : W1.cell? ⟨w.heap.size, 0, none⟩ = some (.int .i64 e.k) := by rw [hW1]; simp
  have q1 : W1.cell? ⟨w.heap.size, 1, none⟩ = some (.int .i64 e.n) := by rw [hW1]; simp
  have q2 : W1.cell? ⟨w.heap.size, 2, none⟩ = some (.slice e.args.ad e.args.len e.args.cap) := by rw [hW1]; simp
  rw [← hW1]
  clear hW1
  have HQ := hide (And.intro q0 (And.intro q1 q2))
  have HQL := hide (fun (W' : World) (hb : Below W1.heap.size W1 W') => show W'.cell? ⟨w.heap.size, 0, none⟩ = some (.int .i64 e.k) ∧ W'.cell? ⟨w.heap.size, 1, none⟩ = some (.int .i64 e.n) ∧ W'.cell? ⟨w.heap.size, 2, none⟩ = some (.slice e.args.ad e.args.len e.args.cap) from ⟨(hb.cell (p := ⟨w.heap.size, 0, none⟩) hs1).trans q0, (hb.cell (p := ⟨w.heap.size, 1, none⟩) hs1).trans q1, (hb.cell (p := ⟨w.heap.size, 2, none⟩) hs1).trans q2⟩)
  have HA1 := hide ((unhide HA).later (unhide HB1) (Nat.le_refl _))
  have HR1 := hide ((unhide HR).later (unhide HB1) (Nat.le_refl _))
  refine ((unhide HT) _ (unhide HA1) (unhide HR1)).mono ?_
  rintro r w2 ⟨a2, c2, rfl, hr2, hb2⟩
  have HX2 := hide hb2
  have HT2 := hide hr2
  obtain ⟨p0, p1, p2⟩ := (unhide HQL) _ hb2
  clear hb2 hr2 q0 q1 q2
  go_wp2_with fail
  refine ((unhide HF) _ ((unhide HA1).later (unhide HX2) (Nat.le_refl _)) ((unhide HR1).later (unhide HX2) (Nat.le_refl _))).mono ?_
  rintro r w3 ⟨rfl, hb3⟩
  have HX3 := hide ((unhide HX2).trans (hb3.mono (unhide HX2).size))
  have HT3 := hide ((unhide HT2).later hb3 (Nat.le_refl _))
  clear hb3 p0 p1 p2
  obtain ⟨p0, p1, p2⟩ := (unhide HQL) _ (unhide HX3)
  go_wp2_with fail
  refine ((unhide HS) _ ((unhide HA1).later (unhide HX3) (Nat.le_refl _)) ((unhide HR1).later (unhide HX3) (Nat.le_refl _))).mono ?_
  rintro r w4 ⟨a4, c4, rfl, hr4, hb4⟩
  have HX4 := hide ((unhide HX3).trans (hb4.mono (unhide HX3).size))
  have HT4 := hide ((unhide HT3).later hb4 (Nat.le_refl _))
  have HP4 := hide hr4
  clear hb4 hr4 p0 p1 p2
  obtain ⟨p0, p1, p2⟩ := (unhide HQL) _ (unhide HX4)
  go_wp2_with fail
  refine ((unhide HC) _ ((unhide HA1).later (unhide HX4) (Nat.le_refl _))).mono ?_
  rintro r w5 ⟨rfl, hb5⟩
  have HX5 := hide ((unhide HX4).trans (hb5.mono (unhide HX4).size))
  have HT5 := hide ((unhide HT4).later hb5 (Nat.le_refl _))
  have HP5 := hide ((unhide HP4).later hb5 (Nat.le_refl _))
  clear hb5 p0 p1 p2
  obtain ⟨p0, p1, p2⟩ := (unhide HQL) _ (unhide HX5)
  have hl1 : ¬ (l.length : Int) > 4000 := by omega
  go_wp2_with fail
  refine ((unhide HO) _ ((unhide HA1).later (unhide HX5) (Nat.le_refl _)) ((unhide HR1).later (unhide HX5) (Nat.le_refl _))).mono ?_
  rintro r w6 ⟨a6, c6, rfl, hr6, hlb, hb6⟩
  have HX6 := hide ((unhide HX5).trans (hb6.mono (unhide HX5).size))
  have HT6 := hide ((unhide HT5).later hb6 (Nat.le_refl _))
  have HP6 := hide ((unhide HP5).later hb6 (Nat.le_refl _))
  have HH6 := hide hr6
  have HLB := hide hlb
  clear hb6 hr6 p0 p1 p2 hlb
  go_wp2_with fail
  refine ((unhide HSO) a6 c6 _ (unhide HH6) (unhide HLB)).mono ?_
  rintro r w7 ⟨a7, c7, rfl, hr7, hb7⟩
  have HX7 := hide ((unhide HX6).trans (hb7.mono (unhide HX6).size))
  have HT7 := hide ((unhide HT6).later hb7 (Nat.le_refl _))
  have HP7 := hide ((unhide HP6).later hb7 (Nat.le_refl _))
  have HH7 := hide ((unhide HH6).later hb7 (Nat.le_refl _))
  have HN7 := hide hr7
  clear hb7 hr7
  go_wp2_with fail
  go_loopw [17, 18, 19, 22] (fun av fv iv tv wr => ∃ (u : Int) (a : Option Addr) (c : Nat) (ys : List Int), -1 ≤ u ∧ u < (l.length : Nat) ∧ tv = .int .i64 u ∧ av = .slice a ys.length c ∧ ys = Wn.Tj b f t l.length (u + 1).toNat ∧ fv = .int .i64 (Wn.fv (Wn.Fj b l.length (u + 1).toNat)) ∧ iv = .bool (Wn.Fj b l.length (u + 1).toNat).isSome ∧ Ix.RI wr a ys ∧ Below w7.heap.size w7 wr) (fun _ _ _ tv _ => (intOf tv + 1).toNat)
  case atStart =>
    have e1 : ((l.length : Nat) : Int) - 1 + 1 = (l.length : Nat) := by omega
    refine ⟨(l.length : Nat) - 1, none, 0, [], by omega, by omega, by go_num, rfl, ?_, ?_, ?_, Ix.RI.nil _ _, Below.refl _ _⟩
    · rw [e1, Int.toNat_natCast, Wn.Tj_end]
    · rw [e1, Int.toNat_natCast, Wn.Fj_end]; rfl
    · rw [e1, Int.toNat_natCast, Wn.Fj_end]; rfl
  case round =>
    obtain ⟨u, a, c, ys, hu1, hu2, rfl, rfl, hys, rfl, rfl, hri, hbe⟩ := hrel
    have hze := hbe.size
    have HYS := hide hys
    have HRI := hide hri
    have HBE := hide hbe
    have hyl : ys.length ≤ l.length := by rw [hys]; exact Wn.Tj_length _ _ _ _ _
    have HYW := hide (show ∀ y ∈ ys, Ix.wf y from fun y hy => by rw [hys] at hy; have := Wn.Tj_mem hy; exact WalkArith.wf_i64 (by omega))
    clear hys hri hbe
    by_cases hneg : u < 0
    · have hu : u = -1 := by omega
      subst hu
      have HYT := hide (show ys = T by rw [unhide HYS]; exact unhide HTZ)
      have HFV := hide (show Wn.fv (Wn.Fj b l.length (-1 + 1 : Int).toNat) = FS from (unhide HFS).symm)
      have HIV := hide (show (Wn.Fj b l.length (-1 + 1 : Int).toNat).isSome = IS from (unhide HIS).symm)
      rw [unhide HFV, unhide HIV]
      have hyT := unhide HYT
      subst hyT
      have HT8 := hide ((unhide HT7).later (unhide HBE) (Nat.le_refl _))
      have HP8 := hide ((unhide HP7).later (unhide HBE) (Nat.le_refl _))
      have HN8 := hide ((unhide HN7).later (unhide HBE) (Nat.le_refl _))
      have HX8 := hide ((unhide HX7).trans ((unhide HBE).mono (unhide HX7).size))
      have g1 : (FS != FS) = false := by simp
      have g2 : (IS != IS) = false := by simp
      have g3 : ((R.length : Int) != (R.length : Int)) = false := by simp
      clear hyl
      go_wp2_with fail
      refine (whenBegun_any _).mono ?_
      rintro r w9 ⟨rfl, hb9⟩
      have HT9 := hide ((unhide HT8).later hb9 (Nat.le_refl _))
      have HI9 := hide ((unhide HRI).later hb9 (Nat.le_refl _))
      have HP9 := hide ((unhide HP8).later hb9 (Nat.le_refl _))
      have HN9 := hide ((unhide HN8).later hb9 (Nat.le_refl _))
      have HX9 := hide ((unhide HX8).trans (hb9.mono (unhide HX8).size))
      clear hb9
      go_wp2_with fail
      refine (SameInts_eq _ a2 a c2 c _ (unhide HT9) (unhide HI9) (by omega)).mono ?_
      rintro r w10 ⟨rfl, hb10⟩
      have HP10 := hide ((unhide HP9).later hb10 (Nat.le_refl _))
      have HN10 := hide ((unhide HN9).later hb10 (Nat.le_refl _))
      have HX10 := hide ((unhide HX9).trans (hb10.mono (unhide HX9).size))
      clear hb10
      go_wp2_with fail
      obtain ⟨wo, hwo⟩ : ∃ wo, wo = wr := ⟨wr, rfl⟩
      subst hwo
      go_loopw [23] (fun iv wr => ∃ k : Nat, k ≤ R.length ∧ iv = .int .i64 k ∧ Below w10.heap.size w10 wr) (fun iv _ => R.length - (intOf iv).toNat)
      case atStart => exact ⟨0, Nat.zero_le _, rfl, Below.refl _ _⟩
      case round =>
        obtain ⟨k, hk, rfl, hbk⟩ := hrel
        have HBK := hide hbk
        clear hbk
        by_cases hlt : k < R.length
        · obtain ⟨p, hp⟩ : ∃ p, R[k]? = some p := ⟨R[k], List.getElem?_eq_getElem hlt⟩
          obtain ⟨g, rfl, hg, c0, c1⟩ := ((unhide HP10).later (unhide HBK) (Nat.le_refl _)).at_ k p hp
          obtain ⟨g', rfl, hg', d0, d1⟩ := ((unhide HN10).later (unhide HBK) (Nat.le_refl _)).at_ k p hp
          obtain ⟨bg, en⟩ := p
          simp only at c0 c1 d0 d1
          have hk1 : (0 : Int) ≤ (k : Int) := by omega
          have hk2 : (k : Int) < (R.length : Int) := by omega
          have heq : ∀ W, (Op.equalIn 10000 41 (.agg #[.int .i64 ((bg : Nat) : Int), .int .i64 ((en : Nat) : Int)]) (.agg #[.int .i64 ((bg : Nat) : Int), .int .i64 ((en : Nat) : Int)])).run Try.prog W = .ok true W := fun W => by rw [Wn.eq2]; simp
          clear hp
          go_wp2_with fail
          go_quiet (fail)
          go_wp2_with fail
          exact ⟨⟨k + 1, by omega, by go_num, below_drewN (unhide HBK) _⟩, by simp [intOf]; omega⟩
        · have hk2 : ¬ (k : Int) < (R.length : Int) := by omega
          have HFIN := hide ((unhide HB1).trans (((unhide HX10).trans ((unhide HBK).mono (unhide HX10).size)).mono (unhide HB1).size))
          go_wp2_with fail
          go_ret
          exact ⟨rfl, unhide HFIN⟩
    · obtain ⟨v, rfl⟩ : ∃ v : Nat, u = (v : Int) := ⟨u.toNat, by omega⟩
      have hvl : v < l.length := by omega
      obtain ⟨q, o, rfl, hq, c0⟩ := ((unhide HH7).later (unhide HBE) (Nat.le_refl _)).at_ v _ (Qk.at_get (by have := unhide HLB; omega))
      have hv0 : (0 : Int) ≤ (v : Int) := by omega
      have hv1 : (v : Int) < (l.length : Int) := by omega
      have HTS := hide (Wn.Tj_step b f t hvl)
      have HFJ := hide (Wn.Fj_step b hvl)
      have HYV := hide (show ys = Wn.Tj b f t l.length (v + 1) from unhide HYS)
      have hvv : ((v : Int) - 1 + 1).toNat = v := by omega
      have HVV := hide hvv
      clear hvv
      cases hx : Qk.at_ b v
      · rw [hx] at c0
        have HT1 := hide (show Wn.Tj b f t l.length v = ys by rw [unhide HTS, hx, ← unhide HYV]; rfl)
        have HF1 := hide (show Wn.Fj b l.length v = Wn.Fj b l.length ((v : Int) + 1).toNat by rw [unhide HFJ, hx]; rfl)
        clear hx
        go_wp2_with fail
        exact ⟨⟨(v : Int) - 1, a, c, ys, by omega, by omega, by go_num, rfl, by rw [unhide HVV, unhide HT1], by rw [unhide HVV, unhide HF1], by rw [unhide HVV, unhide HF1], unhide HRI, unhide HBE⟩, by simp [intOf]⟩
      · rw [hx] at c0
        have HF1 := hide (show Wn.Fj b l.length v = some v by rw [unhide HFJ, hx]; rfl)
        by_cases h1 : f ≤ (v : Int)
        · by_cases h2 : (v : Int) < t
          · have HT1 := hide (show Wn.Tj b f t l.length v = [((v : Nat) : Int)] ++ ys by rw [unhide HTS, hx, ← unhide HYV]; simp [Ix.rng, h1, h2])
            have HR3 := hide ((unhide HRI).later ((Below.refl wr.heap.size wr).alloc (Nat.le_refl _) (Obj.cells #[.int .i64 ((v : Nat) : Int)] 3)) (Nat.le_refl _))
            obtain ⟨v5, w5', hr5, ho5, hg5⟩ := Ix.run_append_ints 26 (wr.alloc (Obj.cells #[.int .i64 ((v : Nat) : Int)] 3)) wr.heap.size _ [((v : Nat) : Int)] (Ix.owns_one wr _ (WalkArith.wf_i64 (by omega))) a c ys (unhide HR3) (unhide HYW) (by simp; omega) (by simp)
            have HRUN := hide hr5
            have HG := hide ((World.grownBy_alloc wr _ _).trans hg5)
            have HOV := hide (show ∃ a' c', v5 = .slice a' ([((v : Nat) : Int)] ++ ys).length c' ∧ Ix.RI w5' a' ([((v : Nat) : Int)] ++ ys) by
              rcases Ix.open_row ho5 with ⟨k1, k2⟩ | ⟨g, c', k1, _, _, k2⟩
              · cases k2
              · exact ⟨_, c', k1, k2⟩)
            obtain ⟨a', c', rfl, hri'⟩ := unhide HOV
            have HRI' := hide hri'
            clear hx hr5 ho5 hg5 hri' HOV
            have tok1 : True := trivial
            go_wp2_with (at_builtin; have _t := tok1; refine Ix.wp_append_run (by rfl) _ _ 26 rfl _ _ _ rfl rfl (unhide HRUN) ?_; clear tok1 _t)
            exact ⟨⟨(v : Int) - 1, a', c', [((v : Nat) : Int)] ++ ys, by omega, by omega, by go_num, rfl, by rw [unhide HVV, unhide HT1], by rw [unhide HVV, unhide HF1]; rfl, by rw [unhide HVV, unhide HF1]; rfl, unhide HRI', (unhide HBE).grown (unhide HG) hze (fun q hq => by cases hq; exact hze)⟩, by simp [intOf]⟩
          · have HT1 := hide (show Wn.Tj b f t l.length v = ys by rw [unhide HTS, hx, ← unhide HYV]; simp [Ix.rng, h2])
            clear hx
            go_wp2_with fail
            exact ⟨⟨(v : Int) - 1, a, c, ys, by omega, by omega, by go_num, rfl, by rw [unhide HVV, unhide HT1], by rw [unhide HVV, unhide HF1]; rfl, by rw [unhide HVV, unhide HF1]; rfl, unhide HRI, unhide HBE⟩, by simp [intOf]⟩
        · have HT1 := hide (show Wn.Tj b f t l.length v = ys by rw [unhide HTS, hx, ← unhide HYV]; simp [Ix.rng, h1])
          clear hx
          go_wp2_with fail
          exact ⟨⟨(v : Int) - 1, a, c, ys, by omega, by omega, by go_num, rfl, by rw [unhide HVV, unhide HT1], by rw [unhide HVV, unhide HF1]; rfl, by rw [unhide HVV, unhide HF1]; rfl, unhide HRI, unhide HBE⟩, by simp [intOf]⟩

set_option maxRecDepth 100000 in
set_option maxHeartbeats 1600000 in
theorem wtells_err (n : Nat) (e : Qk.E) (x : Qk.AT n) (len : Nat) (ad : Option Addr) (cap : Nat) (f t : Int) (w : World) (h : Qk.RA w n e x) (hf : len ≤ 35184372088832) (h0 : Qk.hErr n x len ≠ 0) :
    Calls Try.prog 3 #[e.val, .slice ad len cap, .int .i64 f, .int .i64 t] w fun r w' => r = .returned (.bool true) ∧ Below w.heap.size w w' := by
  have HT := hide (fun (W : World) (h : Qk.RA W n e x) => Times_err n e x len ad cap f t W h hf h0)
  have HF := hide (fun (W : World) (h : Qk.RA W n e x) => First_err n e x len ad cap W h hf h0)
  have HS := hide (fun (W : World) (h : Qk.RA W n e x) => Spans_err n e x len ad cap W h hf h0)
  have HC := hide (fun (W : World) (h : Qk.RA W n e x) => CheckAsk_any n e x W h)
  have HE := hide (show Qk.hErr n x len = if Qk.chk n x = 0 then (if 4000 < len then 2 else 0) else Qk.chk n x from rfl)
  have HA := hide h
  generalize Qk.hErr n x len = C at *
  generalize Qk.chk n x = D at *
  have g0 : ((C : Int) != (C : Int)) = false := by simp
  have g5 : ((C : Int) == 0) = false := by simpa using h0
  clear h
  unfold Qk.E.val at HT HF HS HC ⊢
  go_enter Try.func3, Try.ntmps3
  go_wp2_with fail
  obtain ⟨W1, hW1⟩ : ∃ W1, W1 = w.alloc (.cells #[.int .i64 e.k, .int .i64 e.n, .slice e.args.ad e.args.len e.args.cap] 24) := ⟨_, rfl⟩
  have hs1 : w.heap.size < W1.heap.size := by rw [hW1]; simp
  have HB1 := hide (show Below w.heap.size w W1 by rw [hW1]; exact (Below.refl _ _).alloc (Nat.le_refl _) _)
  have q0 : W1.cell? ⟨w.heap.size, 0, none⟩ = some (.int .i64 e.k) := by rw [hW1]; simp
  have q1 : W1.cell? ⟨w.heap.size, 1, none⟩ = some (.int .i64 e.n) := by rw [hW1]; simp
  have q2 : W1.cell? ⟨w.heap.size, 2, none⟩ = some (.slice e.args.ad e.args.len e.args.cap) := by rw [hW1]; simp
  rw [← hW1]
  clear hW1
  have HQL := hide (fun (W' : World) (hb : Below W1.heap.size W1 W') => show W'.cell? ⟨w.heap.size, 0, none⟩ = some (.int .i64 e.k) ∧ W'.cell? ⟨w.heap.size, 1, none⟩ = some (.int .i64 e.n) ∧ W'.cell? ⟨w.heap.size, 2, none⟩ = some (.slice e.args.ad e.args.len e.args.cap) from ⟨(hb.cell (p := ⟨w.heap.size, 0, none⟩) hs1).trans q0, (hb.cell (p := ⟨w.heap.size, 1, none⟩) hs1).trans q1, (hb.cell (p := ⟨w.heap.size, 2, none⟩) hs1).trans q2⟩)
  have HA1 := hide ((unhide HA).later (unhide HB1) (Nat.le_refl _))
  refine ((unhide HT) _ (unhide HA1)).mono ?_
  rintro r w2 ⟨rfl, hb2⟩
  have HX2 := hide hb2
  obtain ⟨p0, p1, p2⟩ := (unhide HQL) _ hb2
  clear hb2 q0 q1 q2
  go_wp2_with fail
  refine ((unhide HF) _ ((unhide HA1).later (unhide HX2) (Nat.le_refl _))).mono ?_
  rintro r w3 ⟨rfl, hb3⟩
  have HX3 := hide ((unhide HX2).trans (hb3.mono (unhide HX2).size))
  clear hb3 p0 p1 p2
  obtain ⟨p0, p1, p2⟩ := (unhide HQL) _ (unhide HX3)
  go_wp2_with fail
  refine ((unhide HS) _ ((unhide HA1).later (unhide HX3) (Nat.le_refl _))).mono ?_
  rintro r w4 ⟨rfl, hb4⟩
  have HX4 := hide ((unhide HX3).trans (hb4.mono (unhide HX3).size))
  clear hb4 p0 p1 p2
  obtain ⟨p0, p1, p2⟩ := (unhide HQL) _ (unhide HX4)
  go_wp2_with fail
  refine ((unhide HC) _ ((unhide HA1).later (unhide HX4) (Nat.le_refl _))).mono ?_
  rintro r w5 ⟨rfl, hb5⟩
  have HX5 := hide ((unhide HX4).trans (hb5.mono (unhide HX4).size))
  clear hb5 p0 p1 p2
  by_cases hd : D = 0
  · have h4 : 4000 < len := by
      have := unhide HE
      rw [if_pos hd] at this
      by_cases h : 4000 < len
      · exact h
      · rw [if_neg h] at this; exact absurd this h0
    have hC2 : C = 2 := by rw [unhide HE, if_pos hd, if_pos h4]
    subst hC2
    have g6 : ((D : Int) == 0) = true := by simpa using hd
    have g7 : (len : Int) > 4000 := by omega
    clear hd h0 h4 g0 g5
    go_wp2_with fail
    refine (whenBegun_any _).mono ?_
    rintro r w6 ⟨rfl, hb6⟩
    have HX6 := hide ((unhide HX5).trans (hb6.mono (unhide HX5).size))
    clear hb6
    go_wp2_with fail
    refine (SameInts_eq [] none none 0 0 _ (Ix.RI.nil _ _) (Ix.RI.nil _ _) (by decide)).mono ?_
    rintro r w7 ⟨rfl, hb7⟩
    have HX7 := hide ((unhide HX6).trans (hb7.mono (unhide HX6).size))
    clear hb7
    go_wp2_with fail
    go_loop [23] (fun iv => iv = .int .i64 0) (fun _ => 0)
    case atStart => rfl
    case round =>
      subst hrel
      have HFIN := hide ((unhide HB1).trans ((unhide HX7).mono (unhide HB1).size))
      go_wp2_with fail
      go_ret
      exact ⟨rfl, unhide HFIN⟩
  · have hCD : C = D := by rw [unhide HE, if_neg hd]
    subst hCD
    clear hd h0
    go_wp2_with fail
    refine (whenBegun_any _).mono ?_
    rintro r w6 ⟨rfl, hb6⟩
    have HX6 := hide ((unhide HX5).trans (hb6.mono (unhide HX5).size))
    clear hb6
    go_wp2_with fail
    refine (SameInts_eq [] none none 0 0 _ (Ix.RI.nil _ _) (Ix.RI.nil _ _) (by decide)).mono ?_
    rintro r w7 ⟨rfl, hb7⟩
    have HX7 := hide ((unhide HX6).trans (hb7.mono (unhide HX6).size))
    clear hb7
    go_wp2_with fail
    go_loop [23] (fun iv => iv = .int .i64 0) (fun _ => 0)
    case atStart => rfl
    case round =>
      subst hrel
      have HFIN := hide ((unhide HB1).trans ((unhide HX7).mono (unhide HB1).size))
      go_wp2_with fail
      go_ret
      exact ⟨rfl, unhide HFIN⟩
end Go.Proofs.Ytkonaaldbeecoaa
