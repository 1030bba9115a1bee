/-
  The law StateCalls, walked. By the verifier.
-/
import Derived.Test.YtildjlaphkjegaaXOpn
import Derived.Test.YtildjlaphkjegaaXStB
namespace Go.Proofs.Ytildjlaphkjegaa
open Go.RowKit
set_option linter.unusedVariables false

theorem Xr.filt_snoc {α : Type} (f : α → Bool) (l : List α) {i : Nat} (h : i < l.length) : (l.take (i + 1)).filter f = if f l[i] = true then (l.take i).filter f ++ [l[i]] else (l.take i).filter f := by
  rw [List.take_succ_eq_append_getElem h, List.filter_append]
  cases hf : f l[i]
  · simp [hf]
  · simp [hf]
theorem Xr.atE_st {m n : Nat} {p : List (Pg.FT m n)} {l : List Ev} {time : Int} (h : Xr.atE p l time = 0) : Xr.stE p l = 0 := by
  unfold Xr.atE at h
  split at h
  · assumption
  · exact h
theorem Xr.atE_in {m n : Nat} {p : List (Pg.FT m n)} {l : List Ev} {time : Int} (h : Xr.atE p l time = 0) : Xr.StOk p l ∧ 0 ≤ time ∧ time ≤ l.length := by
  have h0 := Xr.atE_st h
  unfold Xr.atE at h
  rw [if_pos h0] at h
  split at h
  · cases h
  · rename_i h1
    exact ⟨Xr.StOk.of h0, by omega, by omega⟩
theorem Xr.repl_len {m n : Nat} (p : List (Pg.FT m n)) : ∀ (l : List Ev) (st : List Xr.Fr), (Xr.reps p st l).length ≤ st.length + l.length
  | [], st => Nat.le_refl _
  | e :: r, st => by
    have h1 := Xr.repl_len p r (Xr.rep1 p st e)
    have h2 : (Xr.rep1 p st e).length ≤ st.length + 1 := by
      unfold Xr.rep1
      split
      · simp
      · split
        · rw [List.length_dropLast]; omega
        · split
          · split
            · omega
            · rename_i t ht
              rw [List.length_append, List.length_dropLast]
              simp
          · omega
    show (Xr.reps p (Xr.rep1 p st e) r).length ≤ _
    rw [List.length_cons]
    omega
/-- What At answers, as it is read. -/
theorem Xr.AtIs.read {m n : Nat} {p : List (Pg.FT m n)} {l : List Ev} {time : Int} {w w' : World} {a : Option Addr} {nf c : Nat} (h : Xr.AtIs p l time w w' a nf c) (h0 : Xr.atE p l time = 0) : Xr.RFr w' ⟨a, nf, c⟩ (Xr.reps p (Xr.ini p) (l.take time.toNat)) ∧ nf ≤ 4001 := by
  obtain ⟨hst, ht0, ht1⟩ := Xr.atE_in h0
  obtain ⟨ms, e1, e2, e3⟩ := h.yes h0
  have hnf : nf ≤ 4001 := by
    have h1 := congrArg List.length e3
    rw [List.length_map, e2] at h1
    have h2 := Xr.repl_len p (l.take time.toNat) (Xr.ini p)
    have h3 : (Xr.ini p).length = 1 := rfl
    rw [List.length_take] at h2
    have := hst.few
    omega
  exact ⟨by rw [← e3]; exact e1.rd e2 (by omega), hnf⟩

set_option maxRecDepth 100000 in
set_option maxHeartbeats 3200000 in
theorem scalls_any {m n : Nat} (qa : Option Addr) (ql qc : Nat) (p : List (Pg.FT m n)) (l : List Ev) (ad : Option Addr) (cap : Nat) (time : Int) (w : World) (hp : Pg.RP w m n ⟨qa, ql, qc⟩ p) (hpf : Pg.parFit p) (hr : Cl.RE w ad l) (hl : l.length ≤ 35184372088832) (hcap : l.length ≤ cap) (hw : ∀ e ∈ l, Xr.evW e) :
    Calls Try.prog 5 #[.agg #[.slice qa ql qc], .slice ad l.length cap, .int .i64 time] w fun r w' => r = .returned (.bool true) ∧ Below w.heap.size w w' := by
  have hb0 := (Below.refl w.heap.size w).alloc (Nat.le_refl _) (Obj.cells #[.slice qa ql qc] 36)
  have q0 : (w.alloc (Obj.cells #[.slice qa ql qc] 36)).cell? ⟨w.heap.size, 0, none⟩ = some (.slice qa ql qc) := by go_simp
  have HSB := hide stateBegun_any
  have HAT := hide (fun (V : World) (hV : Below w.heap.size w V) => At_any qa ql qc p l ad cap time V (Pg.RP.later hp hV (Nat.le_refl _)) hpf (hr.later hV (Nat.le_refl _)) hl hcap)
  have HCA := hide (fun (V : World) (hV : Below w.heap.size w V) => Calls_any qa ql qc p l ad cap V (Pg.RP.later hp hV (Nat.le_refl _)) hpf (hr.later hV (Nat.le_refl _)) hl hw)
  have HB0 := hide hb0
  obtain ⟨i0, hi0', hz0, hz1', hz2⟩ := info_of Try.infoSp
  have HI := hide hi0'
  have HZ0 := hide hz0
  have HZ1 := hide hz1'
  have HZ2 := hide hz2
  obtain ⟨nl, hnl⟩ : ∃ nl, nl = l.length := ⟨_, rfl⟩
  rw [← hnl] at hl hcap HAT HCA ⊢
  clear hp hpf hr hb0 hw hnl hi0' hz0 hz1' hz2
  go_enter Try.func5, Try.ntmps5
  go_wp2_with fail
  generalize w.alloc (Obj.cells #[.slice qa ql qc] 36) = W0 at *
  refine ((unhide HSB) W0).mono ?_
  rintro r w1 ⟨rfl, hb1⟩
  have q1 := (hb1.cell (p := ⟨w.heap.size, 0, none⟩) (World.block_lt_of_cell? _ _ q0)).trans q0
  have HB1 := hide ((unhide HB0).trans (hb1.mono (unhide HB0).size))
  have HA1 := hide ((unhide HAT) w1 (unhide HB1))
  clear hb1 q0 HSB HAT HB0
  go_wp2_with fail
  refine (unhide HA1).mono ?_
  rintro r w2 ⟨a, nf, c, rfl, hat, hb2⟩
  have q2 := (hb2.cell (p := ⟨w.heap.size, 0, none⟩) (World.block_lt_of_cell? _ _ q1)).trans q1
  have HB2 := hide ((unhide HB1).trans (hb2.mono (unhide HB1).size))
  have HC2 := hide ((unhide HCA) w2 (unhide HB2))
  have HAI := hide hat
  clear hb2 q1 HA1 hat HCA
  go_wp2_with fail
  refine (unhide HC2).mono ?_
  rintro r w3 ⟨sa, ns, sc, rfl, hci, hb3⟩
  have HB3 := hide ((unhide HB2).trans (hb3.mono (unhide HB2).size))
  have HB23 := hide hb3
  have HCI := hide hci
  clear hb3 q2 HC2 hci
  by_cases hE : Xr.atE p l time = 0
  case neg =>
    have bE : (((Xr.atE p l time : Nat) : Int) != 0) = true := by simp; exact hE
    clear hE
    go_wp2_with fail
    go_ret
    exact ⟨rfl, unhide HB3⟩
  case pos =>
    have hS := Xr.atE_st hE
    obtain ⟨hst, ht0, ht1⟩ := Xr.atE_in hE
    obtain ⟨hrd, hnf⟩ := (unhide HAI).read hE
    obtain ⟨hns, how⟩ := (unhide HCI).yes hS
    obtain ⟨t, rfl⟩ : ∃ t : Nat, time = t := ⟨time.toNat, by omega⟩
    rw [Int.toNat_natCast] at hrd
    have htn : t ≤ l.length := by omega
    have HOP := hide (hst.opens htn)
    have HNU := hide hst.spNum
    have hns2 : ns ≤ 4001 := by have := hst.spLen; omega
    have HRD := hide (hrd.later (unhide HB23) (Nat.le_refl _))
    have HRS := hide (Xr.RSp.own hns.symm how)
    rw [hE, hS]
    generalize Xr.reps p (Xr.ini p) (l.take t) = RS at *
    generalize Xr.spAll p l = SP at *
    have HNS := hide hns
    have hnr : nf = RS.length := hrd.len
    have HNR := hide hnr
    clear hE hS hst ht0 ht1 hrd how htn hns hnr HAI HCI
    go_wp2_with fail
    go_loopw [11, 12] (fun sv iv wr => ∃ (i no c' : Nat) (oa : Option Addr), i ≤ ns ∧ iv = .int .i64 i ∧ sv = .slice oa no c' ∧ no ≤ i ∧ Hid (no = ((SP.take i).filter (Xr.opS (t : Nat))).length) ∧ wr.ownsRow w3.heap.size 55 6 (.slice oa no c') no (Xr.spC ((SP.take i).filter (Xr.opS (t : Nat)))) ∧ Below w3.heap.size w3 wr) (fun _ iv _ => ns - (intOf iv).toNat)
    case atStart => exact ⟨0, 0, 0, none, Nat.zero_le _, rfl, rfl, Nat.le_refl _, by show _ = _; rfl, World.ownsRow_nil _ _ _ _, Below.refl _ _⟩
    case round =>
      obtain ⟨i, no, c', oa, hi, rfl, rfl, hno, hhid, how, hbe⟩ := hrel
      have HNO := hide (unhide hhid)
      clear hhid
      by_cases hlt : i < ns
      · have hlt2 : i < SP.length := by have := unhide HNS; omega
        have hy := List.getElem?_eq_getElem hlt2
        obtain ⟨b, o, had, hb, p0, p1, p2, p3, p4, p5⟩ := ((unhide HRS).later hbe (Nat.le_refl _)).at_ i _ hy
        have HST := hide (Xr.filt_snoc (Xr.opS (t : Nat)) SP hlt2)
        have hfr := (unhide HNU) i _ hy
        have HCL := hide (show (SP[i]).cl = [.int .i64 SP[i].frame, .int .i64 SP[i].fn, .int .i64 SP[i].by_, .int .i64 SP[i].from_, .int .i64 SP[i].to_, .int .i64 SP[i].ans] from rfl)
        have HOS := hide (show Xr.opS (t : Nat) SP[i] = (decide (SP[i].frame = 0) || (decide (SP[i].from_ < (t : Nat)) && (decide (SP[i].to_ < 0) || decide (((t : Nat) : Int) ≤ SP[i].to_)))) from rfl)
        generalize SP[i] = s at *
        rw [hfr] at p0 HCL HOS
        generalize s.fn = s1 at *
        generalize s.by_ = s2 at *
        generalize s.from_ = s3 at *
        generalize s.to_ = s4 at *
        generalize s.ans = s5 at *
        have had' : sa = some ⟨b, o, none⟩ := had
        subst had'
        have hi0 : (0 : Int) ≤ (i : Int) := by omega
        have hi1 : (i : Int) < (ns : Int) := by omega
        have HOW := hide how
        have HBE := hide hbe
        obtain ⟨OL, hOL⟩ : ∃ OL, OL = (SP.take i).filter (Xr.opS (t : Nat)) := ⟨_, rfl⟩
        rw [← hOL] at HOW HNO HST
        obtain ⟨XS, hXS⟩ : ∃ XS, XS = Xr.spC OL := ⟨_, rfl⟩
        rw [← hXS] at HOW
        have HXS := hide hXS
        have HYES := hide (fun (ho : Xr.opS (t : Nat) s = true) => show (SP.take (i + 1)).filter (Xr.opS (t : Nat)) = OL ++ [s] by rw [unhide HST, if_pos ho])
        have HNOT := hide (fun (ho : ¬ Xr.opS (t : Nat) s = true) => show (SP.take (i + 1)).filter (Xr.opS (t : Nat)) = OL by rw [unhide HST, if_neg ho])
        have HLT := hide (show ∀ q, (Value.slice oa no c').ownBlock = some q → w3.heap.size ≤ q from fun q hq => ((unhide HOW).lt q hq).1)
        have hsz3 : w3.heap.size ≤ wr.heap.size := hbe.size
        clear hy hb had hlt2 how hbe hfr hOL hXS
        go_upto_region 13 with fail
        go_cut [75] (fun v V => v = .bool (Xr.opS (t : Nat) s) ∧ V = wr)
        case first =>
          rcases Nat.eq_zero_or_pos i with hi00 | hi00
          · subst hi00
            have HV := hide (show Xr.opS (t : Nat) s = true by rw [unhide HOS]; rfl)
            go_wp2_with fail
            go_meet
            case rel => exact ⟨by rw [unhide HV], rfl⟩
          · have bi : ((i : Int) == 0) = false := by simp; omega
            have di : decide (((i : Nat) : Int) = 0) = false := decide_eq_false (by omega)
            by_cases h3 : s3 < (t : Int)
            · by_cases h4 : s4 < 0
              · have HV := hide (show Xr.opS (t : Nat) s = true by rw [unhide HOS]; simp [h3, h4])
                go_wp2_with fail
                go_meet
                case rel => exact ⟨by rw [unhide HV], rfl⟩
              · have HV := hide (show Xr.opS (t : Nat) s = decide (((t : Nat) : Int) ≤ s4) by rw [unhide HOS, di]; simp [h3, h4])
                go_wp2_with fail
                go_meet
                case rel => exact ⟨by rw [unhide HV], rfl⟩
            · have HV := hide (show Xr.opS (t : Nat) s = false by rw [unhide HOS, di]; simp [h3])
              go_wp2_with fail
              go_meet
              case rel => exact ⟨by rw [unhide HV], rfl⟩
        case rest =>
          obtain ⟨rfl, hwc⟩ := hcut
          have hwd := hwc.symm
          clear hwc
          subst hwd
          by_cases ho : Xr.opS (t : Nat) s = true
          · rw [ho]
            have HRP := hide ((unhide HYES) ho)
            have HBK := hide (heap_alloc_new wr (Obj.cells #[.int .i64 (i : Nat), .int .i64 s1, .int .i64 s2, .int .i64 s3, .int .i64 s4, .int .i64 s5] 55))
            have HBD := hide (show Below wr.heap.size wr (wr.alloc (Obj.cells #[.int .i64 (i : Nat), .int .i64 s1, .int .i64 s2, .int .i64 s3, .int .i64 s4, .int .i64 s5] 55)) from (Below.refl _ _).alloc (Nat.le_refl _) _)
            clear ho
            go_wp2_with (at_builtin; refine wpList_append_lies _ (by rfl) _ _ _ (by rfl) w3.heap.size 55 i0 _ 6 48 Try.underlying51 (unhide HI) (unhide HZ0) (unhide HZ1) (unhide HZ2) rfl (by omega) (.slice oa no c') no XS (by rfl) (Pg.ow_below (unhide HOW) (unhide HBD)) ⟨wr.heap.size, 0, none⟩ 1 1 [.int .i64 (i : Nat), .int .i64 s1, .int .i64 s2, .int .i64 s3, .int .i64 s4, .int .i64 s5] (by rfl) (by rfl) (World.news_of_block (unhide HBK)) (by simp [Value.oneCell']) (by omega) (by unfold maxLen; omega) (by omega) (by simp; omega) (wr.heap.size + 1) (by simp) ?_; intro gA cA w8 hoA hgA hatA hltA; have HOA := hide hoA; have HGA := hide hgA; clear hoA hgA hatA hltA)
            exact ⟨⟨i + 1, no + 1, cA, some ⟨gA, 0, none⟩, by omega, by go_num, rfl, by omega, (by show _ = _; rw [unhide HRP, List.length_append, ← unhide HNO]; rfl), (by rw [unhide HRP, Xr.spC_snoc, ← unhide HXS, unhide HCL]; exact unhide HOA), Below.grown ((unhide HBE).trans ((unhide HBD).mono (unhide HBE).size)) (unhide HGA) (Nat.le_trans (unhide HBE).size (unhide HBD).size) (unhide HLT)⟩, by simp [intOf]; omega⟩
          · have hof : Xr.opS (t : Nat) s = false := by simpa using ho
            have HRP := hide ((unhide HNOT) ho)
            rw [hof]
            clear ho hof
            go_wp2_with fail
            exact ⟨⟨i + 1, no, c', oa, by omega, by go_num, rfl, by omega, by show _ = _; rw [unhide HRP]; exact unhide HNO, by rw [unhide HRP, ← unhide HXS]; exact unhide HOW, unhide HBE⟩, by simp [intOf]; omega⟩
      · have hie : i = ns := by omega
        subst hie
        have htk : SP.take i = SP := List.take_of_length_le (by have := unhide HNS; omega)
        rw [htk] at how HNO
        have HRO := hide (Xr.RSp.own (unhide HNO).symm how)
        have HBE := hide hbe
        have hlen : no = nf := by have h1 := (unhide HOP).len; have h2 := unhide HNO; have h3 := unhide HNR; omega
        generalize SP.filter (Xr.opS (t : Nat)) = OL at *
        have HRF := hide ((unhide HRD).later hbe (Nat.le_refl _))
        subst hlen
        clear how hbe htk HRD HRS
        obtain ⟨wo, hwo⟩ : ∃ wo, wo = wr := ⟨_, rfl⟩
        subst hwo
        have gnn : ((no : Int) != (no : Int)) = false := by simp
        go_wp2_with fail
        go_loopw [13] (fun iv wr => ∃ (j : Nat), j ≤ no ∧ iv = .int .i64 j ∧ Below wo.heap.size wo wr) (fun iv _ => no - (intOf iv).toNat)
        case atStart => exact ⟨0, Nat.zero_le _, rfl, Below.refl _ _⟩
        case round =>
          obtain ⟨j, hj, rfl, hbr⟩ := hrel
          by_cases hjl : j < no
          · have hjo : j < OL.length := by have := unhide HNO; omega
            have hjr : j < RS.length := by have := unhide HNR; omega
            have hyo := List.getElem?_eq_getElem hjo
            have hyr := List.getElem?_eq_getElem hjr
            obtain ⟨b, o, hda, hb, x0, x1, x2, x3, x4, x5⟩ := ((unhide HRO).later hbr (Nat.le_refl _)).at_ j _ hyo
            obtain ⟨b2, o2, t2, hdb, hb2', y0, y1, y2, _⟩ := ((unhide HRF).later hbr (Nat.le_refl _)).at_ j _ hyr
            obtain ⟨m1, m2⟩ := (unhide HOP).same j _ _ hyo hyr
            have HBY := hide (fun (u : Nat) (hu : j = u + 1) => show ∃ fr, RS[u]? = some fr ∧ OL[j].by_ = fr.num by
              have hul : u < RS.length := by omega
              exact ⟨RS[u], List.getElem?_eq_getElem hul, (unhide HOP).by_ u _ _ (by rw [← hu]; exact hyo) (List.getElem?_eq_getElem hul)⟩)
            rw [m1] at y0
            rw [m2] at y1
            have hda' : oa = some ⟨b, o, none⟩ := hda
            have hdb' : a = some ⟨b2, o2, none⟩ := hdb
            subst hda' hdb'
            generalize OL[j] = s at *
            generalize RS[j] = fr at *
            have HBR := hide hbr
            have j0 : (0 : Int) ≤ (j : Int) := by omega
            have j1 : (j : Int) < (no : Int) := by omega
            clear hyo hyr hda hdb hb hb2' hjo hjr m1 m2 y2 x3 x4 x5
            rcases Nat.eq_zero_or_pos j with hj0 | hj0
            · subst hj0
              simp only [Nat.zero_mul, Nat.add_zero] at x0 x1 x2 y0 y1
              have e1 : (s.frame != s.frame) = false := by simp
              have e2 : (s.fn != s.fn) = false := by simp
              clear hbr
              go_upto_region 20 with fail
              go_quiet (fail)
              go_wp2_with fail
              exact ⟨⟨0 + 1, by omega, by go_num, below_drewN (unhide HBR) _⟩, by simp [intOf]; omega⟩
            · obtain ⟨u, rfl⟩ : ∃ u, j = u + 1 := ⟨j - 1, by omega⟩
              obtain ⟨fu, hfu, hbyu⟩ := (unhide HBY) u rfl
              obtain ⟨b3, o3, t3, hdc, hb3', z0, _⟩ := ((unhide HRF).later hbr (Nat.le_refl _)).at_ u _ hfu
              cases hdc
              rw [hbyu] at x2
              have e1 : (s.frame != s.frame) = false := by simp
              have e2 : (s.fn != s.fn) = false := by simp
              have e3 : (fu.num != fu.num) = false := by simp
              have u0 : (0 : Int) ≤ (u : Int) := by omega
              have u1 : (u : Int) < (no : Int) := by omega
              have u2 : ((u + 1 : Nat) : Int) > 0 := by omega
              clear hbr hfu hbyu hb3'
              go_upto_region 20 with fail
              go_quiet (fail)
              go_wp2_with fail
              exact ⟨⟨u + 1 + 1, by omega, by go_num, below_drewN (unhide HBR) _⟩, by simp [intOf]; omega⟩
          · have hje : j = no := by omega
            subst hje
            have HBR := hide ((unhide HB3).trans (((unhide HBE).trans (hbr.mono (unhide HBE).size)).mono (unhide HB3).size))
            clear hbr
            go_wp2_with fail
            go_ret
            exact ⟨rfl, unhide HBR⟩
end Go.Proofs.Ytildjlaphkjegaa
