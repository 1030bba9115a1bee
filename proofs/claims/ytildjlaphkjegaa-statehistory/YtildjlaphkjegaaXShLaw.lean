/-
  The law StateHistory, walked. By the verifier.
-/
import Derived.Test.YtildjlaphkjegaaXHiP
import Derived.Test.YtildjlaphkjegaaXScLaw
namespace Go.Proofs.Ytildjlaphkjegaa
open Go.RowKit
set_option linter.unusedVariables false

/-- Cells of one's own. -/
structure Xr.Cw (g : Nat) (W W' : World) (cs : List Int) : Prop where
  bel : Below g W W'
  lt : g < W'.heap.size
  at_ : ∀ (j : Nat) z, cs[j]? = some z → W'.cell? ⟨g, j, none⟩ = some (.int .i64 z)
  fz : ∀ j, W'.frozen? ⟨g, j, none⟩ = false
theorem Xr.frz_made {V : World} {b k : Nat} (hb : V.heap[b]? = some (Obj.cells (madeCells #[.int .i64 0] k) 3)) (j : Nat) : V.frozen? ⟨b, j, none⟩ = false := by simp [World.frozen?, hb]
theorem Xr.Cw.made (W : World) (k : Nat) : Xr.Cw W.heap.size W (W.alloc (.cells (madeCells #[.int .i64 0] k) 3)) (List.replicate k 0) := by
  have hb := heap_alloc_new W (.cells (madeCells #[.int .i64 0] k) 3)
  refine ⟨(Below.refl _ _).alloc (Nat.le_refl _) _, by simp, fun j y hj => ?_, fun j => Xr.frz_made hb j⟩
  rw [cell_of_row _ _ j _ 3 (0, 0) hb, ← Array.getElem?_toList, toList_madeCells_one]
  obtain ⟨hlt, hy⟩ := List.getElem?_eq_some_iff.1 hj
  rw [List.getElem_replicate] at hy
  rw [List.length_replicate] at hlt
  rw [List.getElem?_replicate, if_pos hlt, ← hy]
theorem Xr.Cw.drew {g : Nat} {W W' : World} {cs : List Int} (h : Xr.Cw g W W' cs) : Xr.Cw g W W'.drew cs := ⟨h.bel.drew, h.lt, h.at_, h.fz⟩
theorem Xr.Cw.drewN {g : Nat} {W W' : World} {cs : List Int} (h : Xr.Cw g W W' cs) (k : Nat) : Xr.Cw g W (W'.drewN k) cs := by
  have hb := below_drewN (Below.refl W'.heap.size W') k
  exact ⟨below_drewN h.bel k, Nat.lt_of_lt_of_le h.lt hb.size, fun j z hz => (hb.cell (p := ⟨g, j, none⟩) h.lt).trans (h.at_ j z hz), fun j => (hb.frozen (p := ⟨g, j, none⟩) h.lt).trans (h.fz j)⟩
theorem Xr.Cw.set {g : Nat} {W W' : World} {cs : List Int} (h : Xr.Cw g W W' cs) {i : Nat} (hi : i < cs.length) (z : Int) : Xr.Cw g W (W'.setCell ⟨g, i, none⟩ (.int .i64 z)) (cs.set i z) := by
  refine ⟨h.bel.setCell (p := ⟨g, i, none⟩) (Nat.le_refl _) _, by rw [World.size_setCell]; exact h.lt, fun j y hj => ?_, fun j => by rw [World.frozen?_setCell]; exact h.fz j⟩
  rw [List.getElem?_set] at hj
  by_cases hij : i = j
  · subst hij
    rw [if_pos rfl, if_pos hi] at hj
    cases hj
    exact World.cell?_setCell_same _ _ _ (h.at_ i _ (List.getElem?_eq_getElem hi))
  · rw [if_neg hij] at hj
    rw [World.cell?_setCell_other _ _ _ _ (fun hh => hij (congrArg Addr.off hh))]
    exact h.at_ j y hj
theorem Xr.Cw.rn {g : Nat} {W W' : World} {cs : List Int} (h : Xr.Cw g W W' cs) {k : Nat} (hk : k = cs.length) (hf : k ≤ 35184372088832) : Pg.RN W' ⟨some ⟨g, 0, none⟩, k, k⟩ cs :=
  ⟨hk, Nat.le_refl _, by omega, fun i z hz => ⟨g, 0, rfl, h.lt, by rw [Nat.zero_add]; exact h.at_ i z hz⟩⟩
theorem Xr.wrs_take (h : List Xr.Vl) (num t : Int) (c : List Int) {k : Nat} (hk : k < h.length) : Xr.wrs (h.take (k + 1)) num t c = if h[k].frame = num ∧ h[k].time < t then (Xr.wrs (h.take k) num t c).set h[k].index.toNat h[k].value else Xr.wrs (h.take k) num t c := by
  rw [List.take_succ_eq_append_getElem hk, Xr.wrs_snoc]
theorem Xr.hiE_ok {m n : Nat} {p : List (Pg.FT m n)} {l : List Ev} {fn v : Int} (h : Xr.hiE p l fn v = 0) : Xr.stE p l = 0 ∧ ∃ (q u : Nat), fn = q ∧ v = u ∧ u < (Xr.szOf p (q : Nat)).length := by
  unfold Xr.hiE at h
  split at h
  · rename_i h0
    split at h
    · rename_i h1
      unfold Xr.hasV at h1
      simp only [Bool.and_eq_true, decide_eq_true_eq] at h1
      obtain ⟨⟨⟨h2, h3⟩, h4⟩, h5⟩ := h1
      refine ⟨h0, fn.toNat, v.toNat, by omega, by omega, ?_⟩
      rw [show ((fn.toNat : Nat) : Int) = fn by omega]
      omega
    · cases h
  · rename_i h0
    exact absurd h h0

set_option maxRecDepth 100000 in
set_option maxHeartbeats 3200000 in
theorem shist_any {m n : Nat} (qa : Option Addr) (ql qc : Nat) (p : List (Pg.FT m n)) (l : List Ev) (ad : Option Addr) (cap : Nat) (time fn v : Int) (w : World) (hp : Pg.RP w m n ⟨qa, ql, qc⟩ p) (hpf : Pg.parFit p) (hr : Cl.RE w ad l) (hl : l.length ≤ 35184372088832) (hcap : l.length ≤ cap) (hw : ∀ e ∈ l, Xr.evW e) :
    Calls Try.prog 4 #[.agg #[.slice qa ql qc], .slice ad l.length cap, .int .i64 time, .int .i64 fn, .int .i64 v] w fun r w' => r = .returned (.bool true) ∧ Below w.heap.size w w' := by
  have hb0 := (Below.refl w.heap.size w).alloc (Nat.le_refl _) (Obj.cells #[.slice qa ql qc] 36)
  have q0 : (w.alloc (Obj.cells #[.slice qa ql qc] 36)).cell? ⟨w.heap.size, 0, none⟩ = some (.slice qa ql qc) := by go_simp
  have HSB := hide stateBegun_any
  have HAT := hide (fun (V : World) (hV : Below w.heap.size w V) => At_any qa ql qc p l ad cap time V (Pg.RP.later hp hV (Nat.le_refl _)) hpf (hr.later hV (Nat.le_refl _)) hl hcap)
  have HCA := hide (fun (V : World) (hV : Below w.heap.size w V) => History_any qa ql qc p l ad cap fn v V (Pg.RP.later hp hV (Nat.le_refl _)) hpf (hr.later hV (Nat.le_refl _)) hl hw)
  have HB0 := hide hb0
  obtain ⟨nl, hnl⟩ : ∃ nl, nl = l.length := ⟨_, rfl⟩
  rw [← hnl] at hl hcap HAT HCA ⊢
  have HNL := hide hnl
  clear hp hpf hr hb0 hw hnl
  go_enter Try.func4, Try.ntmps4
  go_wp2_with fail
  generalize w.alloc (Obj.cells #[.slice qa ql qc] 36) = W0 at *
  refine ((unhide HSB) W0).mono ?_
  rintro r w1 ⟨rfl, hb1⟩
  have q1 := (hb1.cell (p := ⟨w.heap.size, 0, none⟩) (World.block_lt_of_cell? _ _ q0)).trans q0
  have HB1 := hide ((unhide HB0).trans (hb1.mono (unhide HB0).size))
  have HA1 := hide ((unhide HAT) w1 (unhide HB1))
  clear hb1 q0 HSB HAT HB0
  go_wp2_with fail
  refine (unhide HA1).mono ?_
  rintro r w2 ⟨a, nf, c, rfl, hat, hb2⟩
  have q2 := (hb2.cell (p := ⟨w.heap.size, 0, none⟩) (World.block_lt_of_cell? _ _ q1)).trans q1
  have HB2 := hide ((unhide HB1).trans (hb2.mono (unhide HB1).size))
  have HC2 := hide ((unhide HCA) w2 (unhide HB2))
  have HAI := hide hat
  clear hb2 q1 HA1 hat HCA
  go_wp2_with fail
  refine (unhide HC2).mono ?_
  rintro r w3 ⟨sa, ns, sc, rfl, hci, hb3⟩
  have HB3 := hide ((unhide HB2).trans (hb3.mono (unhide HB2).size))
  have HB23 := hide hb3
  have HCI := hide hci
  clear hb3 q2 HC2 hci
  by_cases hE : Xr.atE p l time = 0
  case neg =>
    have bE : (((Xr.atE p l time : Nat) : Int) != 0) = true := by simp; exact hE
    clear hE
    go_wp2_with fail
    go_ret
    exact ⟨rfl, unhide HB3⟩
  case pos =>
    by_cases hH : Xr.hiE p l fn v = 0
    case neg =>
      have bE : (((Xr.hiE p l fn v : Nat) : Int) != 0) = true := by simp; exact hH
      rw [hE]
      clear hE hH
      go_wp2_with fail
      go_ret
      exact ⟨rfl, unhide HB3⟩
    case pos =>
      obtain ⟨hS, q, u, rfl, rfl, huv⟩ := Xr.hiE_ok hH
      obtain ⟨hst, ht0, ht1⟩ := Xr.atE_in hE
      obtain ⟨hrd, hnf⟩ := (unhide HAI).read hE
      obtain ⟨hns, how⟩ := (unhide HCI).yes hH
      obtain ⟨t, rfl⟩ : ∃ t : Nat, time = t := ⟨time.toNat, by omega⟩
      rw [Int.toNat_natCast] at hrd
      have htn : t ≤ l.length := by omega
      have HHA := hide (fun (fr : Xr.Fr) (hf : fr ∈ Xr.reps p (Xr.ini p) (l.take t)) (hq : fr.fn = (q : Nat)) => show u < fr.vs.length ∧ ∃ lv, fr.vs[u]? = some lv ∧ Xr.wrs (Xr.hiAll p l (q : Nat) (u : Nat)) fr.num (t : Nat) (List.replicate lv.length 0) = lv ∧ ∀ x ∈ Xr.hiAll p l (q : Nat) (u : Nat), x.frame = fr.num → x.time < (t : Nat) → 0 ≤ x.index ∧ x.index < (lv.length : Int) by
        obtain ⟨lv, e1, e2, e3⟩ := hst.hist_at htn hf (v := u) (by rw [hq]; exact huv)
        rw [hq] at e2 e3
        exact ⟨(List.getElem?_eq_some_iff.1 e1).1, lv, e1, e2, e3⟩)
      have hns2 : ns ≤ 4000 := by rw [hns]; exact Nat.le_trans (Xr.histTo_len _ l l.length _ _) hst.few
      have HRD := hide (hrd.later (unhide HB23) (Nat.le_refl _))
      have HRS := hide (Xr.RVl.own hns.symm how)
      rw [hE, hH]
      generalize Xr.reps p (Xr.ini p) (l.take t) = RS at *
      generalize Xr.hiAll p l (q : Nat) (u : Nat) = HL at *
      have HNS := hide hns
      have hnr : nf = RS.length := hrd.len
      have HNR := hide hnr
      clear hE hS hH hst ht0 ht1 hrd how htn hns hnr HAI HCI huv
      go_wp2_with fail
      go_loopw [15] (fun iv wr => ∃ (i : Nat), i ≤ nf ∧ iv = .int .i64 i ∧ Below w3.heap.size w3 wr) (fun iv _ => nf - (intOf iv).toNat)
      case atStart => exact ⟨0, Nat.zero_le _, rfl, Below.refl _ _⟩
      case round =>
        obtain ⟨i, hi, rfl, hbe⟩ := hrel
        by_cases hlt : i < nf
        case neg =>
          have hie : i = nf := by omega
          subst hie
          have HBE := hide ((unhide HB3).trans (hbe.mono (unhide HB3).size))
          clear hbe
          go_wp2_with fail
          go_ret
          exact ⟨rfl, unhide HBE⟩
        case pos =>
          have hlt2 : i < RS.length := by have := unhide HNR; omega
          have hy := List.getElem?_eq_getElem hlt2
          obtain ⟨b, o, ⟨va, vn, vc⟩, had, hb, p0, p1, p2, hrv⟩ := ((unhide HRD).later hbe (Nat.le_refl _)).at_ i _ hy
          have HFR := hide ((unhide HHA) RS[i] (List.getElem_mem hlt2))
          generalize RS[i] = fr at *
          have had' : a = some ⟨b, o, none⟩ := had
          subst had'
          dsimp only at p2
          have hi0 : (0 : Int) ≤ (i : Int) := by omega
          have hi1 : (i : Int) < (nf : Int) := by omega
          have HBE := hide hbe
          by_cases hfn : fr.fn = (q : Nat)
          case neg =>
            have bq : (fr.fn != ((q : Nat) : Int)) = true := by simpa using hfn
            clear hfn hy hb had hlt2 hbe
            go_wp2_with fail
            exact ⟨⟨i + 1, by omega, by go_num, unhide HBE⟩, by simp [intOf]; omega⟩
          case pos =>
            obtain ⟨hul, lv, hlv, hwr, hin⟩ := (unhide HFR) hfn
            have bq : (((q : Nat) : Int) != ((q : Nat) : Int)) = false := by simp
            rw [hfn] at p1
            obtain ⟨b2, o2, ⟨la, ln, lc⟩, hdb, hb2', y0, hrn⟩ := hrv.at_ u lv hlv
            have hdb' : va = some ⟨b2, o2, none⟩ := hdb
            subst hdb'
            dsimp only at y0
            have hvn : u < vn := by have h9 : vn = fr.vs.length := hrv.len; omega
            have hvf : vn ≤ 35184372088832 := by have h9 : vn = fr.vs.length := hrv.len; have := hrv.few; omega
            have hln : ln = lv.length := hrn.len
            have hlf : ln ≤ 35184372088832 := by have := hrn.few; omega
            have u0 : (0 : Int) ≤ (u : Int) := by omega
            have u1 : (u : Int) < (vn : Int) := by omega
            have u2 : ¬ (vn : Int) ≤ (u : Int) := by omega
            have HWR := hide hwr
            have HIN := hide hin
            have HRN := hide hrn
            have HLN := hide hln
            have hmk : ∀ V : World, (Instr.makeSlice 46 (.int .i64 (ln : Nat)) (.int .i64 (ln : Nat))).run Try.prog V = .ok (.slice (some ⟨V.heap.size, 0, none⟩) ln ln) (V.alloc (.cells (madeCells #[.int .i64 0] ln) 3)) := by
              intro V
              exact run_make_row' (P := Try.prog) 46 3 (.int .i64 0) 8 Try.underlying46 Try.infoI3 rfl .i64 .i64 ln (by omega) (by omega) V
            have HCW := hide (Xr.Cw.made wr ln)
            have hbb : b < wr.heap.size := hb
            have HBL := hide hbb
            have HBM := hide hb2'
            clear hfn hy hb hbb hb2' had hdb hlt2 hbe hrv hlv hwr hin hrn hln hul
            go_wp2_with fail
            obtain ⟨W5, hW5⟩ : ∃ W5, W5 = wr.alloc (.cells (madeCells #[.int .i64 0] ln) 3) := ⟨_, rfl⟩
            rw [← hW5] at HCW ⊢
            clear hW5 hmk
            obtain ⟨wo, hwo⟩ : ∃ wo, wo = wr := ⟨_, rfl⟩
            subst hwo
            obtain ⟨g, hg⟩ : ∃ g, g = wo.heap.size := ⟨_, rfl⟩
            rw [← hg] at HCW ⊢
            have HG := hide hg
            clear hg
            go_loopw [17] (fun kv wr => ∃ (k : Nat), k ≤ ns ∧ kv = .int .i64 k ∧ Xr.Cw g wo wr (Xr.wrs (HL.take k) fr.num (t : Nat) (List.replicate ln 0))) (fun kv _ => ns - (intOf kv).toNat)
            case atStart => exact ⟨0, Nat.zero_le _, rfl, unhide HCW⟩
            case round =>
              obtain ⟨k, hk, rfl, hcw⟩ := hrel
              have hB3 : Below w3.heap.size w3 wr := (unhide HBE).trans (hcw.bel.mono (by rw [unhide HG]; exact (unhide HBE).size))
              have kb : ∀ j, wr.cell? ⟨b, j, none⟩ = wo.cell? ⟨b, j, none⟩ := fun j => hcw.bel.cell (p := ⟨b, j, none⟩) (by show b < g; rw [unhide HG]; exact unhide HBL)
              have k0 := (kb _).trans p0
              have k2 := (kb _).trans p2
              have ky := (hcw.bel.cell (p := ⟨b2, o2 + u, none⟩) (by show b2 < g; rw [unhide HG]; exact unhide HBM)).trans y0
              have HBB := hide hB3
              clear kb
              by_cases hkl : k < ns
              case neg =>
                have hke : k = ns := by omega
                subst hke
                have htk : HL.take k = HL := List.take_of_length_le (by have := unhide HNS; omega)
                rw [htk, unhide HLN, unhide HWR] at hcw
                have HSI := hide (xSameInts_eq lv ⟨some ⟨g, 0, none⟩, ln, ln⟩ ⟨la, ln, lc⟩ wr (hcw.rn (unhide HLN) hlf) ((unhide HRN).later (hcw.bel.mono (by rw [unhide HG]; exact Nat.le_refl _)) (Nat.le_refl _)))
                clear hcw htk hB3 p0 p1 p2 y0
                dsimp only at HSI
                go_wp2_with fail
                refine (unhide HSI).mono ?_
                rintro r w6 ⟨rfl, hb6⟩
                have HB6 := hide ((unhide HBB).trans (hb6.mono (unhide HBB).size))
                clear hb6
                go_wp2_with fail
                exact ⟨⟨i + 1, by omega, by go_num, unhide HB6⟩, by simp [intOf]; omega⟩
              case pos =>
                have hkl2 : k < HL.length := by have := unhide HNS; omega
                have hyk := List.getElem?_eq_getElem hkl2
                obtain ⟨b4, o4, hdc, hb4, x0, x1, x2, x3⟩ := ((unhide HRS).later hB3 (Nat.le_refl _)).at_ k _ hyk
                have hdc' : sa = some ⟨b4, o4, none⟩ := hdc
                subst hdc'
                have HST := hide (Xr.wrs_take HL fr.num (t : Nat) (List.replicate ln 0) hkl2)
                have HINX := hide ((unhide HIN) HL[k] (List.getElem_mem hkl2))
                generalize HL[k] = x at *
                have HLW := hide (show (Xr.wrs (HL.take k) fr.num (t : Nat) (List.replicate ln 0)).length = ln by rw [Xr.wrs_len, List.length_replicate])
                generalize Xr.wrs (HL.take k) fr.num (t : Nat) (List.replicate ln 0) = cs at *
                have HCK := hide hcw
                have kk0 : (0 : Int) ≤ (k : Int) := by omega
                have kk1 : (k : Int) < (ns : Int) := by omega
                clear hyk hdc hb4 hkl2 hcw hB3 p0 p1 p2 y0
                by_cases hxf : x.frame = fr.num
                case neg =>
                  have bx : (x.frame == fr.num) = false := by simpa using hxf
                  have HRP := hide (show Xr.wrs (HL.take (k + 1)) fr.num (t : Nat) (List.replicate ln 0) = cs by rw [unhide HST, if_neg (fun h => hxf h.1)])
                  clear hxf
                  go_upto_region 17 with fail
                  go_quiet (fail)
                  go_wp2_with fail
                  exact ⟨⟨k + 1, by omega, by go_num, by rw [unhide HRP]; exact (unhide HCK).drewN _⟩, by simp [intOf]; omega⟩
                case pos =>
                  have bx : (fr.num == fr.num) = true := by simp
                  rw [hxf] at x1
                  by_cases hxt : x.time < (t : Int)
                  case neg =>
                    have HRP := hide (show Xr.wrs (HL.take (k + 1)) fr.num (t : Nat) (List.replicate ln 0) = cs by rw [unhide HST, if_neg (fun h => hxt h.2)])
                    clear hxf
                    go_upto_region 17 with fail
                    go_quiet (fail)
                    go_wp2_with fail
                    exact ⟨⟨k + 1, by omega, by go_num, by rw [unhide HRP]; exact (unhide HCK).drewN _⟩, by simp [intOf]; omega⟩
                  case pos =>
                    obtain ⟨hx0, hx1⟩ := (unhide HINX) hxf hxt
                    obtain ⟨j, hj⟩ : ∃ j : Nat, x.index = j := ⟨x.index.toNat, by omega⟩
                    rw [hj] at x2
                    have hjl : j < ln := by have := unhide HLN; omega
                    have HRP := hide (show Xr.wrs (HL.take (k + 1)) fr.num (t : Nat) (List.replicate ln 0) = cs.set j x.value by rw [unhide HST, if_pos ⟨hxf, hxt⟩, hj, Int.toNat_natCast])
                    have hjc : j < cs.length := by rw [unhide HLW]; exact hjl
                    obtain ⟨yj, hyj⟩ : ∃ yj, cs[j]? = some yj := ⟨_, List.getElem?_eq_getElem hjc⟩
                    have z0 := (unhide HCK).at_ j _ hyj
                    have zf := (unhide HCK).fz j
                    have HSET := hide ((unhide HCK).set hjc x.value)
                    have jj0 : (0 : Int) ≤ (j : Int) := by omega
                    have jj1 : (j : Int) < (ln : Int) := by omega
                    have jj2 : ¬ (ln : Int) ≤ (j : Int) := by omega
                    clear hxf hx0 hx1 hj hjc hyj
                    go_upto_region 17 with fail
                    go_quiet (fail)
                    go_upto_region 20 with fail
                    go_region_law (fail)
                    all_goals
                      go_wp2_with fail
                      exact ⟨⟨k + 1, by omega, by go_num, by rw [unhide HRP]; first | exact ((unhide HCK).drewN _).drew.set (by rw [unhide HLW]; exact hjl) x.value | exact (((unhide HCK).drewN _).set (by rw [unhide HLW]; exact hjl) x.value).drew | exact (unhide HCK).drew.drew.set (by rw [unhide HLW]; exact hjl) x.value⟩, by simp [intOf]; omega⟩
end Go.Proofs.Ytildjlaphkjegaa
