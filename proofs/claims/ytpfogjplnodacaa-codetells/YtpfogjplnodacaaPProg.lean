/-
  The contract of scope's checkProgram. By the verifier.
-/
import Derived.Test.YtpfogjplnodacaaPCmds
import Derived.Test.YtpfogjplnodacaaPHead
import Derived.Test.YtpfogjplnodacaaPRes
import Derived.Test.YtpfogjplnodacaaPCount
set_option maxRecDepth 100000
set_option maxHeartbeats 6400000
namespace Go.Proofs.Ytpfogjplnodacaa
open Go.RowKit
set_option linter.unusedVariables false
def Pg.manyP {m n : Nat} (p : List (Pg.FT m n)) : Bool := decide (40 < (p.map (fun f => Pg.cnts f.cmds)).sum) || p.any (fun f => decide (5 < Pg.deps f.cmds))
def Pg.wfn {m n : Nat} (p : List (Pg.FT m n)) (now : Nat) (x : Pg.FT m n) : Nat :=
 Pg.orW (Pg.whead (decide (now + 1 = p.length)) x.params x.sizes) (Pg.orW (Pg.wcs p now x n x.cmds) (Pg.wres (decide (now + 1 = p.length)) m n x))
def Pg.wfns {m n : Nat} (p : List (Pg.FT m n)) : List Nat := p.mapIdx (fun i x => Pg.wfn p i x)
def Pg.chkP {m n : Nat} (p : List (Pg.FT m n)) : Nat :=
 if p.length = 0 then 1 else if 6 < p.length then 2 else if Pg.manyP p then 2 else Pg.first (Pg.wfns p)
def Pg.parFit {m n : Nat} (p : List (Pg.FT m n)) : Prop := ∀ x ∈ p, x.params ≤ 9223372036854775807
structure Pg.FarP {m n : Nat} (p : List (Pg.FT m n)) (i k : Nat) : Prop where
 cnt : k = Pg.sumTo (fun f => Pg.cnts f.cmds) p i
 dep : ∀ y ∈ p.take i, Pg.deps y.cmds ≤ 5
theorem Pg.FarP.yes {m n : Nat} {p : List (Pg.FT m n)} {i k : Nat} (h : Pg.FarP p i k) {y : Pg.FT m n} (hy : p[i]? = some y) (ho : 40 < k + Pg.cnts y.cmds ∨ 6 < 1 + Pg.deps y.cmds) : Pg.manyP p = true := by
 unfold Pg.manyP
 rw [Bool.or_eq_true]
 rcases ho with ho | ho
 · have h1 := h.cnt
   have h2 := Pg.sumTo_succ (fun f : Pg.FT m n => Pg.cnts f.cmds) p i y hy
   have h3 := Pg.sumTo_le (fun f : Pg.FT m n => Pg.cnts f.cmds) p (i + 1) (List.getElem?_eq_some_iff.1 hy).1
   left
   rw [decide_eq_true_eq]
   omega
 · right
   rw [List.any_eq_true]
   exact ⟨y, List.mem_of_getElem? hy, by rw [decide_eq_true_eq]; omega⟩
theorem Pg.FarP.next {m n : Nat} {p : List (Pg.FT m n)} {i k : Nat} (h : Pg.FarP p i k) {y : Pg.FT m n} (hy : p[i]? = some y) (hd : 1 + Pg.deps y.cmds ≤ 6) : Pg.FarP p (i + 1) (k + Pg.cnts y.cmds) := by
 refine ⟨by rw [Pg.sumTo_succ _ _ _ _ hy, h.cnt], fun z hz => ?_⟩
 rw [List.take_add_one, hy] at hz
 rcases List.mem_append.1 hz with hz | hz
 · exact h.dep z hz
 · simp at hz
   subst hz
   omega
theorem Pg.FarP.done {m n : Nat} {p : List (Pg.FT m n)} {i k : Nat} (h : Pg.FarP p i k) (hi : i = p.length) (hk : k ≤ 40) : Pg.manyP p = false := by
 subst hi
 have h1 := h.cnt
 rw [Pg.sumTo_all] at h1
 have h2 := h.dep
 rw [List.take_length] at h2
 unfold Pg.manyP
 rw [Bool.or_eq_false_iff]
 constructor
 · rw [decide_eq_false_iff_not]; omega
 · rw [List.any_eq_false]
   intro y hy
   have := h2 y hy
   rw [decide_eq_true_eq]
   omega
theorem Pg.wfns_at {m n : Nat} (p : List (Pg.FT m n)) (i : Nat) (x : Pg.FT m n) (h : p[i]? = some x) : Pg.first ((Pg.wfns p).drop i) = if Pg.wfn p i x = 0 then Pg.first ((Pg.wfns p).drop (i + 1)) else Pg.wfn p i x := by
 have h1 : (Pg.wfns p)[i]? = some (Pg.wfn p i x) := by unfold Pg.wfns; rw [List.getElem?_mapIdx, h]; rfl
 obtain ⟨hk, hx⟩ := List.getElem?_eq_some_iff.1 h1
 rw [List.drop_eq_getElem_cons hk, hx]
 rfl
theorem Pg.wfns_len {m n : Nat} (p : List (Pg.FT m n)) : (Pg.wfns p).length = p.length := by unfold Pg.wfns; rw [List.length_mapIdx]
theorem Pg.Cx.of {w : World} {m n : Nat} {s : Pg.Sl} {p : List (Pg.FT m n)} (h : Pg.RP w m n s p) {i : Nat} {x : Pg.FT m n} (hx : p[i]? = some x) : ∃ (b o : Nat) (f : Pg.F), s.ad = some ⟨b, o, none⟩ ∧ b < w.heap.size ∧ Pg.LF w b (o + i * 6) f ∧ Pg.Cx w m n s p i f x := by
 obtain ⟨b, o, f, h1, h2, h3, h4⟩ := h.at_ i x hx
 exact ⟨b, o, f, h1, h2, h3, ⟨h, hx, ⟨b, o, h1, h2, h3⟩, h4⟩⟩
theorem checkProgram_any {m n : Nat} (s : Pg.Sl) (p : List (Pg.FT m n)) (w : World) (hp : Pg.RP w m n s p) (hpf : Pg.parFit p) :
  Calls Try.prog 26 #[.agg #[.slice s.ad s.len s.cap]] w fun r w' => r = Pg.ends (Pg.chkP p) (.tuple #[]) ∧ Below w.heap.size w w' := by
 obtain ⟨sa, sl, sc⟩ := s
 have hlen : sl = p.length := hp.len
 have hfew := hp.few
 rw [← hlen] at hfew
 obtain ⟨R, hR⟩ : ∃ R, R = Pg.chkP p := ⟨_, rfl⟩
 rw [← hR]
 have HC := hide (show R = if sl = 0 then 1 else if 6 < sl then 2 else if Pg.manyP p then 2 else Pg.first (Pg.wfns p) by rw [hR, hlen]; rfl)
 have hb0 := (Below.refl w.heap.size w).alloc (Nat.le_refl _) (Obj.cells #[.slice sa sl sc] 29)
 have q0 : (w.alloc (Obj.cells #[.slice sa sl sc] 29)).cell? ⟨w.heap.size, 0, none⟩ = some (.slice sa sl sc) := by go_simp
 have HB0 := hide hb0
 have HP := hide hp
 have HPF := hide hpf
 have HLN := hide hlen
 clear hR hb0 hp hpf hlen
 dsimp only at *
 go_enter Try.func26, Try.ntmps26
 go_upto_region 1 with fail
 generalize w.alloc (Obj.cells #[.slice sa sl sc] 29) = W0 at *
 by_cases h0 : sl = 0
 · have g0 : ((sl : Int) == 0) = true := by simp [h0]
   have HR := hide (show R = 1 by rw [unhide HC, if_pos h0])
   clear h0
   go_wp2_with fail
   refine (refuse_yes 1 _).mono ?_
   rintro r w1 ⟨rfl, hw1⟩
   subst hw1
   go_wp2_with fail
   exact ⟨rfl, by rw [unhide HR]; exact (Pg.ends_no (by decide)).symm, unhide HB0⟩
 have g0 : ((sl : Int) == 0) = false := by simpa using h0
 go_wp2_with fail
 refine (refuse_no 1 _).mono ?_
 rintro r w1 ⟨rfl, hw1⟩
 subst hw1
 by_cases h6 : 6 < sl
 · have g6 : (sl : Int) > 6 := by omega
   have HR := hide (show R = 2 by rw [unhide HC, if_neg h0, if_pos h6])
   clear h0 g0
   go_wp2_with fail
   refine (refuse_yes 2 _).mono ?_
   rintro r w2 ⟨rfl, hw2⟩
   subst hw2
   go_wp2_with fail
   exact ⟨rfl, by rw [unhide HR]; exact (Pg.ends_no (by decide)).symm, unhide HB0⟩
 have g6 : (6 < (sl : Int)) = False := by simp; omega
 have g7 : sl ≤ 6 := by omega
 have HC2 := hide (show R = if Pg.manyP p then 2 else Pg.first (Pg.wfns p) by rw [unhide HC, if_neg h0, if_neg h6])
 clear HC h0 g0
 go_wp2_with fail
 refine (refuse_no 2 _).mono ?_
 rintro r w2 ⟨rfl, hw2⟩
 subst hw2
 clear g6
 clear h6
 go_upto_block 0 with fail
 go_cut [] (fun W => Pg.manyP p = false ∧ W.cell? ⟨w.heap.size, 0, none⟩ = some (.slice sa sl sc) ∧ Below w.heap.size w W)
 case first =>
  go_wp2_with fail
  go_loopw [2, 20] (fun nv iv wr => ∃ (i k : Nat), i ≤ sl ∧ iv = .int .i64 i ∧ nv = .int .i64 ((k : Nat) : Int) ∧ k ≤ 40 ∧ Pg.FarP p i k ∧ wr.cell? ⟨w.heap.size, 0, none⟩ = some (.slice sa sl sc) ∧ Below w.heap.size w wr) (fun _ iv _ => sl - (intOf iv).toNat)
  case atStart => exact ⟨0, 0, Nat.zero_le _, rfl, rfl, by omega, ⟨rfl, fun y hy => by simp at hy⟩, q0, unhide HB0⟩
  case round =>
   clear q0 HB0
   obtain ⟨i, k, hi, rfl, rfl, hk, hfar, q0, hbe⟩ := hrel
   have hz := hbe.size
   have HBE := hide hbe
   have HF := hide hfar
   clear hbe hfar
   by_cases hlt : i < sl
   · have hlt2 : i < p.length := by have := unhide HLN; omega
     have hy := List.getElem?_eq_getElem hlt2
     obtain ⟨b, o, f, had, hb, hlies, hcx⟩ := Pg.Cx.of (unhide HP) hy
     have HY := hide (fun ho => (unhide HF).yes hy ho)
     have HNX := hide (fun hd => (unhide HF).next hy hd)
     generalize p[i] = y at *
     have hll := hlies.later (unhide HBE) (Nat.le_refl _) hb
     obtain ⟨p0, p1, p2, p3, p4, p5⟩ := hll
     have hal := (Below.refl wr.heap.size wr).alloc (Nat.le_refl _) (Obj.cells #[.int .i64 f.params, .slice f.sizes.ad f.sizes.len f.sizes.cap, .slice f.cmds.ad f.cmds.len f.cmds.cap, .int .i64 f.res.k, .int .i64 f.res.n, .slice f.res.args.ad f.res.args.len f.res.args.cap] 44)
     have hba := (unhide HBE).trans (hal.mono hz)
     have HBA := hide hba
     have hlw := World.block_lt_of_cell? wr _ q0
     have q1 := (hal.cell (p := ⟨w.heap.size, 0, none⟩) hlw).trans q0
     have HCC := hide (show Calls Try.prog 44 #[.slice f.cmds.ad f.cmds.len f.cmds.cap, .int .i64 1, .int .i64 (k : Int)] _ fun r w' => r = Pg.ends (Pg.over k 1 y.cmds) (.int .i64 ((k + Pg.cnts y.cmds : Nat) : Int)) ∧ Below _ _ w' from countCmds_any n f.cmds y.cmds _ 1 k (hcx.rf.cmds.laterC hba (Nat.le_refl _)) (by omega) (by omega) hk)
     have HOY := hide (fun (h : 40 < k + Pg.cnts y.cmds ∨ 6 < 1 + Pg.deps y.cmds) => Pg.over_yes (c := k) (deep := 1) h)
     have HON := hide (fun (h : ¬ (40 < k + Pg.cnts y.cmds ∨ 6 < 1 + Pg.deps y.cmds)) => Pg.over_no (c := k) (deep := 1) h)
     generalize Pg.over k 1 y.cmds = O at *
     generalize Pg.cnts y.cmds = C at *
     generalize Pg.deps y.cmds = D at *
     clear hlies hcx hy hal hba
     have hi0 : (0 : Int) ≤ (i : Int) := by omega
     have hi1 : (i : Int) < (sl : Int) := by omega
     have had' : sa = some ⟨b, o, none⟩ := had
     subst had'
     clear had
     go_wp2_with fail
     refine (unhide HCC).mono ?_
     rintro r w3 ⟨hr3, hb3⟩
     have r0 := (hb3.cell (p := ⟨w.heap.size, 0, none⟩) (World.block_lt_of_cell? _ _ q1)).trans q1
     have HB3 := hide ((unhide HBA).trans (hb3.mono (unhide HBA).size))
     clear hb3
     by_cases ho : 40 < k + C ∨ 6 < 1 + D
     · rw [(unhide HOY) ho, Pg.ends_no (by decide)] at hr3
       subst hr3
       have HR := hide (show R = 2 by rw [unhide HC2, (unhide HY) ho]; rfl)
       clear ho
       go_wp2_with fail
       exact ⟨rfl, by rw [unhide HR]; exact (Pg.ends_no (by decide)).symm, unhide HB3⟩
     · rw [(unhide HON) ho, Pg.ends_ok rfl] at hr3
       subst hr3
       have HN := hide ((unhide HNX) (by omega))
       have hK : k + C ≤ 40 := by omega
       clear ho
       generalize k + C = K at *
       go_wp2_with fail
       exact ⟨⟨i + 1, K, by omega, by go_num, rfl, hK, unhide HN, r0, unhide HB3⟩, by simp [intOf]; omega⟩
   · have HN := hide ((unhide HF).done (by have := unhide HLN; omega) hk)
     go_wp2_with fail
     go_meet
     case rel => exact ⟨unhide HN, q0, unhide HBE⟩
 case rest =>
  rename World => W2
  clear q0 HB0
  obtain ⟨hmany, q0, hb2⟩ := hcut
  have HR1 := hide (show R = Pg.first (Pg.wfns p) by rw [unhide HC2, hmany]; rfl)
  have HB0 := hide hb2
  clear hmany hb2 HC2
  go_wp2_with fail
  go_loopw [32] (fun iv wr => ∃ (i : Nat), i ≤ sl ∧ iv = .int .i64 i ∧ R = Pg.first ((Pg.wfns p).drop i) ∧ wr.cell? ⟨w.heap.size, 0, none⟩ = some (.slice sa sl sc) ∧ Below w.heap.size w wr) (fun iv _ => sl - (intOf iv).toNat)
  case atStart => exact ⟨0, Nat.zero_le _, rfl, by rw [List.drop_zero]; exact unhide HR1, q0, unhide HB0⟩
  case round =>
   clear q0 HB0 HR1
   obtain ⟨i, hi, rfl, hR, q0, hbe⟩ := hrel
   have hz := hbe.size
   have HBE := hide hbe
   have HR := hide hR
   clear hbe hR
   by_cases hlt : i < sl
   · have hlt2 : i < p.length := by have := unhide HLN; omega
     have hy := List.getElem?_eq_getElem hlt2
     obtain ⟨b, o, f, had, hb, hlies, hcx⟩ := Pg.Cx.of (unhide HP) hy
     have HDR := hide (Pg.wfns_at p i _ hy)
     have hpb := (unhide HPF) _ (List.getElem_mem hlt2)
     generalize p[i] = y at *
     have hal := (Below.refl wr.heap.size wr).alloc (Nat.le_refl _) (Obj.cells #[.slice sa sl sc, .int .i64 (i : Nat)] 79)
     have hba := (unhide HBE).trans (hal.mono hz)
     have hlw := World.block_lt_of_cell? wr _ q0
     have HFY := hide (show Pg.wfn p i y = Pg.orW (Pg.whead (decide (i + 1 = sl)) y.params y.sizes) (Pg.orW (Pg.wcs p i y n y.cmds) (Pg.wres (decide (i + 1 = sl)) m n y)) by rw [unhide HLN]; rfl)
     have HHD := hide (fun (W : World) (hW : Below w.heap.size w W) => head_any W (hcx.later hW (Nat.le_refl _)) hpb)
     have HCS := hide (fun (W : World) (hW : Below w.heap.size w W) => cmds_any n f.cmds y.cmds W (hcx.later hW (Nat.le_refl _)) (hcx.rf.cmds.laterC hW (Nat.le_refl _)))
     have HRS := hide (fun (W : World) (hW : Below w.heap.size w W) => result_any W (hcx.later hW (Nat.le_refl _)))
     have HA := hide (show ∀ (W : World), Below (wr.alloc (Obj.cells #[.slice sa sl sc, .int .i64 (i : Nat)] 79)).heap.size (wr.alloc (Obj.cells #[.slice sa sl sc, .int .i64 (i : Nat)] 79)) W → W.cell? ⟨w.heap.size, 0, none⟩ = some (.slice sa sl sc) ∧ W.cell? ⟨wr.heap.size, 0, none⟩ = some (.slice sa sl sc) ∧ W.cell? ⟨wr.heap.size, 1, none⟩ = some (.int .i64 (i : Nat)) ∧ W.cell? ⟨b, o + i * 6 + 2, none⟩ = some (.slice f.cmds.ad f.cmds.len f.cmds.cap) ∧ Below w.heap.size w W by
      intro W hW
      have hbb := hba.trans (hW.mono hba.size)
      refine ⟨?_, ?_, ?_, (hlies.later hbb (Nat.le_refl _) hb).c2, hbb⟩
      · rw [hW.cell (p := ⟨w.heap.size, 0, none⟩) (by simp; omega), hal.cell (p := ⟨w.heap.size, 0, none⟩) hlw]; exact q0
      · rw [hW.cell (p := ⟨wr.heap.size, 0, none⟩) (by simp)]; go_simp
      · rw [hW.cell (p := ⟨wr.heap.size, 1, none⟩) (by simp)]; go_simp)
     have HBA := hide hba
     generalize Pg.wfn p i y = fy at *
     generalize Pg.whead (decide (i + 1 = sl)) y.params y.sizes = c1 at *
     generalize Pg.wcs p i y n y.cmds = c2 at *
     generalize Pg.wres (decide (i + 1 = sl)) m n y = c3 at *
     clear hlies hcx hy hal hba hpb
     have hi0 : (0 : Int) ≤ (i : Int) := by omega
     have hi1 : (i : Int) < (sl : Int) := by omega
     have had' : sa = some ⟨b, o, none⟩ := had
     subst had'
     clear had
     go_wp2_with fail
     clear q0
     refine ((unhide HHD) _ (unhide HBA)).mono ?_
     rintro r w1 ⟨hr1, hb1⟩
     have HF1 := hide ((unhide HA) w1 hb1)
     have HB1 := hide ((unhide HA) w1 hb1).2.2.2.2
     have H1 := hide hb1
     clear hb1
     by_cases e1 : c1 = 0
     · rw [Pg.ends_ok e1] at hr1
       subst hr1
       have E1 := hide e1
       clear e1
       go_upto_region 14 with fail
       by_cases e2 : c2 = 0
       · rw [Pg.ends_ok e2] at HCS
         have E2 := hide e2
         clear e2
         go_cut [] (fun W => W.cell? ⟨w.heap.size, 0, none⟩ = some (.slice (some ⟨b, o, none⟩) sl sc) ∧ W.cell? ⟨wr.heap.size, 0, none⟩ = some (.slice (some ⟨b, o, none⟩) sl sc) ∧ W.cell? ⟨wr.heap.size, 1, none⟩ = some (.int .i64 (i : Nat)) ∧ W.cell? ⟨b, o + i * 6 + 2, none⟩ = some (.slice f.cmds.ad f.cmds.len f.cmds.cap) ∧ Below w.heap.size w W)
         case first =>
          go_region_held3 (fun W => W.cell? ⟨w.heap.size, 0, none⟩ = some (.slice (some ⟨b, o, none⟩) sl sc) ∧ W.cell? ⟨wr.heap.size, 0, none⟩ = some (.slice (some ⟨b, o, none⟩) sl sc) ∧ W.cell? ⟨wr.heap.size, 1, none⟩ = some (.int .i64 (i : Nat)) ∧ W.cell? ⟨b, o + i * 6 + 2, none⟩ = some (.slice f.cmds.ad f.cmds.len f.cmds.cap) ∧ Below w.heap.size w W)
           (first | assumption | exact (unhide HA) _ ((unhide H1).drew) | exact (unhide HA) _ (((unhide H1).drew).trans ((unhide HB5).mono ((unhide H1).drew).size)))
           (first
            | (go_at_call 46; refine ((unhide HCS) _ ?_).mono ?_; exact ((unhide HA) _ ((unhide H1).drew)).2.2.2.2; rintro r w5 ⟨rfl, hb5⟩; have HB5 := hide hb5; clear hb5))
          all_goals
           go_wp2_with fail
           go_meet
           case rel => assumption
         case rest =>
          rename World => w2
          obtain ⟨r0, r1, r2, r3, hB2⟩ := hcut
          have HB2 := hide hB2
          clear hB2
          go_wp2_with fail
          refine ((unhide HRS) _ (unhide HB2)).mono ?_
          rintro r w3 ⟨hr3, hb3⟩
          have u0 := (hb3.cell (p := ⟨w.heap.size, 0, none⟩) (World.block_lt_of_cell? _ _ r0)).trans r0
          have HB3 := hide ((unhide HB2).trans (hb3.mono (unhide HB2).size))
          clear hb3 r0 r1 r2 r3
          by_cases e3 : c3 = 0
          · rw [Pg.ends_ok e3] at hr3
            subst hr3
            have HN := hide (show R = Pg.first ((Pg.wfns p).drop (i + 1)) by rw [unhide HR, unhide HDR, if_pos (by rw [unhide HFY, unhide E1, unhide E2, e3]; rfl)])
            clear e3
            go_wp2_with fail
            exact ⟨⟨i + 1, by omega, by go_num, unhide HN, u0, unhide HB3⟩, by simp [intOf]; omega⟩
          · rw [Pg.ends_no e3] at hr3
            subst hr3
            have HN := hide (show R = c3 by
             have hfy : fy = c3 := by rw [unhide HFY, unhide E1, unhide E2]; rfl
             rw [unhide HR, unhide HDR, if_neg (by rw [hfy]; exact e3), hfy])
            have HE := hide e3
            clear e3
            go_wp2_with fail
            exact ⟨rfl, by rw [unhide HN]; exact (Pg.ends_no (unhide HE)).symm, unhide HB3⟩
       · rw [Pg.ends_no e2] at HCS
         have HN := hide (show R = c2 by
          have hfy : fy = c2 := by rw [unhide HFY, unhide E1]; show Pg.orW c2 c3 = c2; unfold Pg.orW; rw [if_neg e2]
          rw [unhide HR, unhide HDR, if_neg (by rw [hfy]; exact e2), hfy])
         have HE := hide e2
         clear e2
         obtain ⟨r0, r1, r2, r3, hB2⟩ := unhide HF1
         have HB2 := hide hB2
         clear hB2
         refine Code.wp_mono (Q := fun ex a v => (ex = .panic (Pg.gave c2)) ∧ a.defers = [] ∧ Below w.heap.size w v) (fun ex a v h => ?_) ?_
         · obtain ⟨rfl, hd, hbv⟩ := h
           exact ⟨hd, by rw [unhide HN]; exact (Pg.ends_no (unhide HE)).symm, hbv⟩
         go_region_with (first
          | (go_at_call 46; refine ((unhide HCS) _ ?_).mono ?_; (first | exact unhide HB2 | exact (unhide HB2).drew); rintro r w5 ⟨rfl, hb5⟩; have HB5 := hide hb5; clear hb5)
          | (refine Pg.trick Try.prog ⟨#[], []⟩ w ?_))
         all_goals exact ((unhide HB2).drew).trans ((unhide HB5).mono ((unhide HB2).drew).size)
     · rw [Pg.ends_no e1] at hr1
       subst hr1
       have HN := hide (show R = c1 by
        have hfy : fy = c1 := by rw [unhide HFY]; unfold Pg.orW; rw [if_neg e1]
        rw [unhide HR, unhide HDR, if_neg (by rw [hfy]; exact e1), hfy])
       have HE := hide e1
       clear e1
       go_wp2_with fail
       exact ⟨rfl, by rw [unhide HN]; exact (Pg.ends_no (unhide HE)).symm, unhide HB1⟩
   · have HN := hide (show R = 0 by
      rw [unhide HR, List.drop_of_length_le (by rw [Pg.wfns_len]; have := unhide HLN; omega)]; rfl)
     go_wp2_with fail
     go_end0
     exact ⟨by rw [unhide HN]; exact (Pg.ends_ok rfl).symm, unhide HBE⟩
end Go.Proofs.Ytpfogjplnodacaa
