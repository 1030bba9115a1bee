/-
  PCmds, PHas, PHead, PRes, PCount, PProg, PWc, PBtw, PRv, KPure. By the verifier.
-/
import Derived.Test.YtpfogjplnodacaaGreatPCmd
import Derived.Test.YtpfogjplnodacaaGreatPLeaf
import Derived.Deep.RegionHeld3
import Derived.Laws.EntriesVeiled
import Derived.Test.YtpfogjplnodacaaGreatPExpr
set_option maxRecDepth 100000
set_option maxHeartbeats 6400000
namespace Go.Proofs.YtpfogjplnodacaaGreat
open Go.RowKit
set_option linter.unusedVariables false
def Pg.parOf {m n : Nat} (p : List (Pg.FT m n)) (f : Int) : Int := ((p[f.toNat]?).map (fun x => x.params)).getD 0
def Pg.wcm {m n j : Nat} (p : List (Pg.FT m n)) (now : Nat) (x : Pg.FT m n) (y : Pg.CT m (j + 1)) : Nat :=
 Pg.wc y.1.1 (Pg.at? x.sizes y.1.2.1) (Pg.may now p.length y.1.2.2) (Pg.more y.1.1 y.1.2.1 y.1.2.2 y.2.1.2.2.length (Pg.isX m y.2.1.1) (Pg.isX m y.2.1.2.1) y.2.2.1.length y.2.2.2.length)
  (decide ((y.2.1.2.2.length : Int) = Pg.parOf p y.1.2.2)) (Pg.chkX x.sizes m y.2.1.1) (Pg.chkX x.sizes m y.2.1.2.1) (Pg.first (y.2.1.2.2.map (Pg.chkX x.sizes m)))
def Pg.wcs {m n : Nat} (p : List (Pg.FT m n)) (now : Nat) (x : Pg.FT m n) : (j : Nat) → List (Pg.CT m j) → Nat
 | 0, _ => 0
 | j + 1, l => Pg.first (l.map fun y => Pg.orW (Pg.wcm p now x y) (Pg.orW (Pg.wcs p now x j y.2.2.1) (Pg.wcs p now x j y.2.2.2)))
section
variable {m n : Nat} {s : Pg.Sl} {p : List (Pg.FT m n)} {now : Nat} {f : Pg.F} {x : Pg.FT m n}
theorem cmd_any (j : Nat) (c : Pg.C) (y : Pg.CT m (j + 1)) (w : World) (hcx : Pg.Cx w m n s p now f x) (hre : Pg.RC w m (j + 1) c y) :
  Calls Tryz.prog 116 #[.agg #[.slice s.ad s.len s.cap, .int .i64 (now : Nat)], c.val] w fun r w' => r = Pg.ends (Pg.wcm p now x y) (.tuple #[]) ∧ Below w.heap.size w w' := by
 obtain ⟨⟨hk, hv, hf⟩, ⟨hix, hex, hag⟩, ht, he⟩ := hre
 obtain ⟨h1, h2, h3⟩ := hcx.few
 have hl6 : s.len ≤ 35184372088832 := by omega
 have hal : c.args.len ≤ 35184372088832 := by have := hag.len; have := hag.few; omega
 have htl : c.thn.len ≤ 35184372088832 := by have := ht.len; have := ht.few; omega
 have hel : c.els.len ≤ 35184372088832 := by have := he.len; have := he.few; omega
 have hR : Pg.wcm p now x y = Pg.wc c.k (Pg.at? x.sizes c.v) (Pg.may now s.len c.f) (Pg.more c.k c.v c.f c.args.len (Pg.isX m y.2.1.1) (Pg.isX m y.2.1.2.1) c.thn.len c.els.len) (decide ((c.args.len : Int) = Pg.parOf p c.f)) (Pg.chkX x.sizes m y.2.1.1) (Pg.chkX x.sizes m y.2.1.2.1) (Pg.first (y.2.1.2.2.map (Pg.chkX x.sizes m))) := by
  unfold Pg.wcm
  rw [← hk, ← hv, ← hf, ← hag.len, ← ht.len, ← he.len, ← h1]
 rw [hR]
 refine cmd_core s now c w (Pg.at? x.sizes c.v) (Pg.may now s.len c.f) (Pg.more c.k c.v c.f c.args.len (Pg.isX m y.2.1.1) (Pg.isX m y.2.1.2.1) c.thn.len c.els.len) (Pg.parOf p c.f) (Pg.chkX x.sizes m y.2.1.1) (Pg.chkX x.sizes m y.2.1.2.1) (y.2.1.2.2.map (Pg.chkX x.sizes m)) hl6 hal (by rw [List.length_map, hag.len]) ?_ ?_ ?_ ?_ ?_ ?_ ?_ ?_
 · exact fun W hW => hasVar_any W c.v (hcx.later hW (Nat.le_refl _))
 · exact fun W hW v hv => isArray_any W c.v v (hcx.later hW (Nat.le_refl _)) hv
 · exact fun W hW => mayCall_any W c.f hl6
 · intro W hW hK
   exact hasMore_any c (Pg.isX m y.2.1.1) (Pg.isX m y.2.1.2.1) W hK ⟨hal, htl, hel⟩ (fun V hV => isThere_any m c.ix y.2.1.1 V (hix.later (hW.trans (hV.mono hW.size)) (Nat.le_refl _))) (fun V hV => isThere_any m c.ex y.2.1.2.1 V (hex.later (hW.trans (hV.mono hW.size)) (Nat.le_refl _)))
 · intro hmy
   have hm : 0 ≤ c.f ∧ c.f ≤ (now : Int) ∧ c.f < (s.len : Int) - 1 := by unfold Pg.may at hmy; exact of_decide_eq_true hmy
   obtain ⟨q, hq⟩ : ∃ q : Nat, c.f = q := ⟨c.f.toNat, by omega⟩
   have hql : q < p.length := by omega
   obtain ⟨b, o, g, h4, h5, h6, h7⟩ := hcx.rp.at_ q _ (List.getElem?_eq_getElem hql)
   refine ⟨b, o, q, h4, h5, hq, by omega, ?_⟩
   have h8 := h6.c0
   rw [h7.params] at h8
   rw [h8, hq]
   unfold Pg.parOf
   rw [Int.toNat_natCast, List.getElem?_eq_getElem hql]
   rfl
 · exact fun W hW => expr_any m c.ix y.2.1.1 W (hcx.later hW (Nat.le_refl _)) (hix.later hW (Nat.le_refl _))
 · exact fun W hW => expr_any m c.ex y.2.1.2.1 W (hcx.later hW (Nat.le_refl _)) (hex.later hW (Nat.le_refl _))
 · intro i z hz
   rw [List.getElem?_map] at hz
   cases hy : y.2.1.2.2[i]? with
   | none => rw [hy] at hz; cases hz
   | some u =>
    rw [hy] at hz
    obtain ⟨b, o, e, h4, h5, h6, h7⟩ := hag.at_ i u hy
    cases hz
    exact ⟨b, o, e, h4, h5, h6, fun W hW => expr_any m e u W (hcx.later hW (Nat.le_refl _)) (h7.later hW (Nat.le_refl _))⟩
theorem cmds_any : ∀ (j : Nat) (t : Pg.Sl) (l : List (Pg.CT m j)) (w : World), Pg.Cx w m n s p now f x → Pg.RS w 12 (Pg.LC w) (Pg.RC w m j) t l →
  Calls Tryz.prog 102 #[.agg #[.slice s.ad s.len s.cap, .int .i64 (now : Nat)], .slice t.ad t.len t.cap] w fun r w' => r = Pg.ends (Pg.wcs p now x j l) (.tuple #[]) ∧ Below w.heap.size w w' := by
 intro j
 induction j with
 | zero =>
  intro t l w hcx hs
  cases l with
  | cons y r => exact Empty.elim y
  | nil =>
   have hlen := hs.len
   have hl0 : ¬ (0 : Int) < (t.len : Int) := by rw [hlen]; simp
   have hl1 : t.len ≤ 10 := by rw [hlen]; simp
   have HR := hide (show Pg.wcs p now x 0 ([] : List (Pg.CT m 0)) = 0 from rfl)
   generalize Pg.wcs p now x 0 ([] : List (Pg.CT m 0)) = R at *
   have HB := hide ((Below.refl w.heap.size w).alloc (Nat.le_refl _) (Obj.cells #[.slice s.ad s.len s.cap, .int .i64 (now : Nat)] 146))
   clear hs hlen hcx
   go_enter Tryz.func102, Tryz.ntmps102
   go_wp2_with fail
   generalize w.alloc (Obj.cells #[.slice s.ad s.len s.cap, .int .i64 (now : Nat)] 146) = W0 at *
   go_loopw [8] (fun iv wr => iv = .int .i64 0 ∧ wr = W0) (fun _ _ => 0)
   case atStart => exact ⟨rfl, rfl⟩
   case round =>
    obtain ⟨rfl, rfl⟩ := hrel
    go_wp2_with fail
    go_end0
    exact ⟨by rw [unhide HR]; exact (Pg.ends_ok rfl).symm, unhide HB⟩
 | succ j ih =>
  intro t l w hcx hs
  have hlen := hs.len
  have hfew := hs.few
  rw [← hlen] at hfew
  obtain ⟨F, hF⟩ : ∃ F : Pg.CT m (j + 1) → Nat, F = fun y => Pg.orW (Pg.wcm p now x y) (Pg.orW (Pg.wcs p now x j y.2.2.1) (Pg.wcs p now x j y.2.2.2)) := ⟨_, rfl⟩
  have HWX := hide (show Pg.wcs p now x (j + 1) l = Pg.first (l.map F) by rw [hF]; rfl)
  have HF := hide (fun y => congrFun hF y)
  clear hF
  generalize Pg.wcs p now x (j + 1) l = R at *
  have hb0 := (Below.refl w.heap.size w).alloc (Nat.le_refl _) (Obj.cells #[.slice s.ad s.len s.cap, .int .i64 (now : Nat)] 146)
  have HS := hide hs
  have HLN := hide hlen
  have IH := hide ih
  have HCX := hide hcx
  have HB0 := hide hb0
  have q0 : (w.alloc (Obj.cells #[.slice s.ad s.len s.cap, .int .i64 (now : Nat)] 146)).cell? ⟨w.heap.size, 0, none⟩ = some (.slice s.ad s.len s.cap) := by go_simp
  have q1 : (w.alloc (Obj.cells #[.slice s.ad s.len s.cap, .int .i64 (now : Nat)] 146)).cell? ⟨w.heap.size, 1, none⟩ = some (.int .i64 (now : Nat)) := by go_simp
  clear hs hlen ih hcx hb0
  obtain ⟨ta, tl, tc⟩ := t
  dsimp only at *
  go_enter Tryz.func102, Tryz.ntmps102
  go_wp2_with fail
  generalize w.alloc (Obj.cells #[.slice s.ad s.len s.cap, .int .i64 (now : Nat)] 146) = W0 at *
  go_loopw [8] (fun iv wr => ∃ (i : Nat), i ≤ tl ∧ iv = .int .i64 i ∧ R = Pg.first ((l.drop i).map F) ∧ wr.cell? ⟨w.heap.size, 0, none⟩ = some (.slice s.ad s.len s.cap) ∧ wr.cell? ⟨w.heap.size, 1, none⟩ = some (.int .i64 (now : Nat)) ∧ Below w.heap.size w wr) (fun iv _ => tl - (intOf iv).toNat)
  case atStart => exact ⟨0, Nat.zero_le _, rfl, by rw [List.drop_zero]; exact unhide HWX, q0, q1, unhide HB0⟩
  case round =>
   clear q0 q1 HB0
   obtain ⟨i, hi, rfl, hR, a0, a1, hbe⟩ := hrel
   have hz := hbe.size
   have HBE := hide hbe
   have HR := hide hR
   clear hbe hR
   by_cases hlt : i < tl
   · have hlt2 : i < l.length := by have := unhide HLN; omega
     have hy := List.getElem?_eq_getElem hlt2
     obtain ⟨b, o, cc, had, hb, hlies, hrd⟩ := (unhide HS).at_ i _ hy
     have HDR := hide (Pg.first_drop F l i _ hy)
     generalize l[i] = y at *
     have HFy := hide ((unhide HF) y)
     have hll := hlies.later (unhide HBE) (Nat.le_refl _) hb
     obtain ⟨p0, p1, p2, p3, p4, p5, p6, p7, p8, p9, p10, p11⟩ := hll
     have hal := (Below.refl wr.heap.size wr).alloc (Nat.le_refl _) (Obj.cells #[.int .i64 cc.k, .int .i64 cc.v, .int .i64 cc.f, .int .i64 cc.ix.k, .int .i64 cc.ix.n, .slice cc.ix.args.ad cc.ix.args.len cc.ix.args.cap, .int .i64 cc.ex.k, .int .i64 cc.ex.n, .slice cc.ex.args.ad cc.ex.args.len cc.ex.args.cap, .slice cc.args.ad cc.args.len cc.args.cap, .slice cc.thn.ad cc.thn.len cc.thn.cap, .slice cc.els.ad cc.els.len cc.els.cap] 107)
     have hba := (unhide HBE).trans (hal.mono hz)
     have HBA := hide hba
     have hlw := World.block_lt_of_cell? wr _ a0
     have HA := hide (show ∀ (W : World), Below (wr.alloc (Obj.cells #[.int .i64 cc.k, .int .i64 cc.v, .int .i64 cc.f, .int .i64 cc.ix.k, .int .i64 cc.ix.n, .slice cc.ix.args.ad cc.ix.args.len cc.ix.args.cap, .int .i64 cc.ex.k, .int .i64 cc.ex.n, .slice cc.ex.args.ad cc.ex.args.len cc.ex.args.cap, .slice cc.args.ad cc.args.len cc.args.cap, .slice cc.thn.ad cc.thn.len cc.thn.cap, .slice cc.els.ad cc.els.len cc.els.cap] 107)).heap.size (wr.alloc (Obj.cells #[.int .i64 cc.k, .int .i64 cc.v, .int .i64 cc.f, .int .i64 cc.ix.k, .int .i64 cc.ix.n, .slice cc.ix.args.ad cc.ix.args.len cc.ix.args.cap, .int .i64 cc.ex.k, .int .i64 cc.ex.n, .slice cc.ex.args.ad cc.ex.args.len cc.ex.args.cap, .slice cc.args.ad cc.args.len cc.args.cap, .slice cc.thn.ad cc.thn.len cc.thn.cap, .slice cc.els.ad cc.els.len cc.els.cap] 107)) W → W.cell? ⟨w.heap.size, 0, none⟩ = some (.slice s.ad s.len s.cap) ∧ W.cell? ⟨w.heap.size, 1, none⟩ = some (.int .i64 (now : Nat)) ∧ W.cell? ⟨wr.heap.size, 10, none⟩ = some (.slice cc.thn.ad cc.thn.len cc.thn.cap) ∧ W.cell? ⟨wr.heap.size, 11, none⟩ = some (.slice cc.els.ad cc.els.len cc.els.cap) ∧ Below w.heap.size w W by
      intro W hW
      refine ⟨?_, ?_, ?_, ?_, hba.trans (hW.mono hba.size)⟩
      · rw [hW.cell (p := ⟨w.heap.size, 0, none⟩) (by simp; omega), hal.cell (p := ⟨w.heap.size, 0, none⟩) hlw]; exact a0
      · rw [hW.cell (p := ⟨w.heap.size, 1, none⟩) (by simp; omega), hal.cell (p := ⟨w.heap.size, 1, none⟩) hlw]; exact a1
      · rw [hW.cell (p := ⟨wr.heap.size, 10, none⟩) (by simp)]; go_simp
      · rw [hW.cell (p := ⟨wr.heap.size, 11, none⟩) (by simp)]; go_simp)
     have HCM := hide (fun (W : World) (hW : Below w.heap.size w W) => cmd_any j cc y W ((unhide HCX).later hW (Nat.le_refl _)) (hrd.later hW (Nat.le_refl _)))
     have HTH := hide (fun (W : World) (hW : Below w.heap.size w W) => (unhide IH) cc.thn y.2.2.1 W ((unhide HCX).later hW (Nat.le_refl _)) (hrd.2.2.1.laterC hW (Nat.le_refl _)))
     have HEL := hide (fun (W : World) (hW : Below w.heap.size w W) => (unhide IH) cc.els y.2.2.2 W ((unhide HCX).later hW (Nat.le_refl _)) (hrd.2.2.2.laterC hW (Nat.le_refl _)))
     generalize Pg.wcm p now x y = c1 at *
     generalize Pg.wcs p now x j y.2.2.1 = c2 at *
     generalize Pg.wcs p now x j y.2.2.2 = c3 at *
     generalize F y = fy at *
     have q0 := (hal.cell (p := ⟨w.heap.size, 0, none⟩) hlw).trans a0
     have q1 := (hal.cell (p := ⟨w.heap.size, 1, none⟩) hlw).trans a1
     clear hlies hrd hy hal hba
     have hi0 : (0 : Int) ≤ (i : Int) := by omega
     have hi1 : (i : Int) < (tl : Int) := by omega
     have had' : ta = some ⟨b, o, none⟩ := had
     subst had'
     unfold Pg.C.val at *
     go_wp2_with fail
     clear p0 p1 p2 p3 p4 p5 p6 p7 p8 p9 p10 p11
     refine ((unhide HCM) _ (unhide HBA)).mono ?_
     rintro r w1 ⟨hr1, hb1⟩
     obtain ⟨s0, s1, s2, s3, hB1⟩ := (unhide HA) w1 hb1
     have HB1 := hide hB1
     have H1 := hide hb1
     clear hb1 hB1 q0 q1 a0 a1
     by_cases e1 : c1 = 0
     · rw [Pg.ends_ok e1] at hr1
       subst hr1
       have E1 := hide e1
       clear e1
       go_wp2_with fail
       refine ((unhide HTH) _ (unhide HB1)).mono ?_
       rintro r w2 ⟨hr2, hb2⟩
       have h12 := (unhide H1).trans (hb2.mono (unhide H1).size)
       obtain ⟨t0, t1, t2, t3, hB2⟩ := (unhide HA) w2 h12
       have HB2 := hide hB2
       have H2 := hide h12
       clear hb2 hB2 h12 s0 s1 s2 s3
       by_cases e2 : c2 = 0
       · rw [Pg.ends_ok e2] at hr2
         subst hr2
         have E2 := hide e2
         clear e2
         go_wp2_with fail
         refine ((unhide HEL) _ (unhide HB2)).mono ?_
         rintro r w3 ⟨hr3, hb3⟩
         have h13 := (unhide H2).trans (hb3.mono (unhide H2).size)
         obtain ⟨u0, u1, u2, u3, hB3⟩ := (unhide HA) w3 h13
         have HB3 := hide hB3
         clear hb3 hB3 h13 t0 t1 t2 t3
         by_cases e3 : c3 = 0
         · rw [Pg.ends_ok e3] at hr3
           subst hr3
           have HN := hide (show R = Pg.first ((l.drop (i + 1)).map F) by rw [unhide HR, unhide HDR, if_pos (by rw [unhide HFy, unhide E1, unhide E2, e3]; rfl)])
           clear e3
           go_wp2_with fail
           exact ⟨⟨i + 1, by omega, by go_num, unhide HN, u0, u1, unhide HB3⟩, by simp [intOf]; omega⟩
         · rw [Pg.ends_no e3] at hr3
           subst hr3
           have HN := hide (show R = c3 by
            have hfy : fy = c3 := by rw [unhide HFy, unhide E1, unhide E2]; rfl
            rw [unhide HR, unhide HDR, if_neg (by rw [hfy]; exact e3), hfy])
           have HE := hide e3
           clear e3
           go_wp2_with fail
           exact ⟨rfl, by rw [unhide HN]; exact (Pg.ends_no (unhide HE)).symm, unhide HB3⟩
       · rw [Pg.ends_no e2] at hr2
         subst hr2
         have HN := hide (show R = c2 by
          have hfy : fy = c2 := by rw [unhide HFy, unhide E1]; show Pg.orW c2 c3 = c2; unfold Pg.orW; rw [if_neg e2]
          rw [unhide HR, unhide HDR, if_neg (by rw [hfy]; exact e2), hfy])
         have HE := hide e2
         clear e2
         go_wp2_with fail
         exact ⟨rfl, by rw [unhide HN]; exact (Pg.ends_no (unhide HE)).symm, unhide HB2⟩
     · rw [Pg.ends_no e1] at hr1
       subst hr1
       have HN := hide (show R = c1 by
        have hfy : fy = c1 := by rw [unhide HFy]; unfold Pg.orW; rw [if_neg e1]
        rw [unhide HR, unhide HDR, if_neg (by rw [hfy]; exact e1), hfy])
       have HE := hide e1
       clear e1
       go_wp2_with fail
       exact ⟨rfl, by rw [unhide HN]; exact (Pg.ends_no (unhide HE)).symm, unhide HB1⟩
   · have HN := hide (show R = 0 by
      rw [unhide HR, List.drop_of_length_le (by have := unhide HLN; omega)]; rfl)
     go_wp2_with fail
     go_end0
     exact ⟨by rw [unhide HN]; exact (Pg.ends_ok rfl).symm, unhide HBE⟩
end
end Go.Proofs.YtpfogjplnodacaaGreat
namespace Go.Proofs.YtpfogjplnodacaaGreat
open Go.RowKit
set_option linter.unusedVariables false
def Pg.noSize (n : Int) : Bool := decide (n < 0 ∨ n > 8)
def Pg.notNought (n : Int) : Bool := decide (n ≠ 0)
theorem hasSize_any (n : Int) (w : World) :
  Calls Tryz.prog 113 #[.int .i64 n] w fun e w' => e = .returned (.bool (Pg.noSize n)) ∧ w' = w := by
 by_cases h1 : n < 0
 · have hh : Pg.noSize n = true := by simp [Pg.noSize]; omega
   rw [hh]; clear hh
   go_enter Tryz.func113, Tryz.ntmps113
   go_wp2
   go_ret
   exact ⟨rfl, rfl⟩
 · by_cases h2 : n > 8
   · have hh : Pg.noSize n = true := by simp [Pg.noSize]; omega
     rw [hh]; clear hh
     go_enter Tryz.func113, Tryz.ntmps113
     go_wp2
     go_ret
     exact ⟨rfl, rfl⟩
   · have hh : Pg.noSize n = false := by simp [Pg.noSize]; omega
     rw [hh]; clear hh
     go_enter Tryz.func113, Tryz.ntmps113
     go_wp2
     go_ret
     exact ⟨rfl, rfl⟩
theorem hasSize_index (s : Pg.Sl) (l : List Int) (w : World) (hr : Pg.RN w s l) :
  Calls Tryz.prog 66 #[.slice s.ad s.len s.cap, .func (.func 113) #[] #[]] w fun e w' => (∃ r : Int, e = .returned (.int .i64 r) ∧ decide (0 ≤ r) = l.any Pg.noSize) ∧ w' = w := by
 obtain ⟨sa, sl, sc⟩ := s
 have hlen : sl = l.length := hr.len
 have hfew := hr.few
 rw [← hlen] at hfew
 have HLN := hide hlen
 have HR := hide hr
 clear hr hlen
 dsimp only
 go_enter Tryz.func66, Tryz.ntmps66
 go_wp2_with fail
 go_loop [8] (fun v => ∃ k : Nat, k ≤ sl ∧ v = .int .i64 k ∧ Hid (l.any Pg.noSize = (l.drop k).any Pg.noSize)) (fun v => sl - (intOf v).toNat)
 case atStart => exact ⟨0, by omega, rfl, by show _ = _; rw [List.drop_zero]⟩
 case round =>
  obtain ⟨k, hk, rfl, hall⟩ := hrel
  have HA := hide (unhide hall)
  clear hall
  by_cases hlt : k < sl
  · have hlt2 : k < l.length := by have := unhide HLN; omega
    have hy := List.getElem?_eq_getElem hlt2
    obtain ⟨b, o, had, hb, hc⟩ := (unhide HR).at_ k _ hy
    have HD := hide (show (l.drop k).any Pg.noSize = (Pg.noSize l[k] || (l.drop (k + 1)).any Pg.noSize) by rw [List.drop_eq_getElem_cons hlt2]; rfl)
    generalize l[k] = t at *
    have had' : sa = some ⟨b, o, none⟩ := had
    subst had'
    have hk1 : (0 : Int) ≤ (k : Int) := by omega
    have hk2 : (k : Int) < (sl : Int) := by omega
    clear hy had
    go_wp2_with fail
    refine (hasSize_any _ _).mono ?_
    rintro e w' ⟨rfl, hw1⟩
    subst hw1
    cases h3 : Pg.noSize t
    · have HN := hide (show l.any Pg.noSize = (l.drop (k + 1)).any Pg.noSize by rw [unhide HA, unhide HD, h3]; rfl)
      clear h3
      go_wp2_with fail
      go_round
      case rel => exact ⟨k + 1, by omega, by go_num, unhide HN⟩
      case measure => simp [intOf]; omega
    · have HN := hide (show l.any Pg.noSize = true by rw [unhide HA, unhide HD, h3]; rfl)
      clear h3
      go_wp2_with fail
      go_ret
      exact ⟨⟨_, rfl, by rw [unhide HN]; simp⟩, rfl⟩
  · have HN := hide (show l.any Pg.noSize = false by rw [unhide HA, List.drop_of_length_le (by have := unhide HLN; omega)]; rfl)
    go_wp2_with fail
    go_ret
    exact ⟨⟨_, rfl, by rw [unhide HN]; rfl⟩, rfl⟩
theorem hasSize_contains (s : Pg.Sl) (l : List Int) (w : World) (hr : Pg.RN w s l) :
  Calls Tryz.prog 29 #[.slice s.ad s.len s.cap, .func (.func 113) #[] #[]] w fun e w' => e = .returned (.bool (l.any Pg.noSize)) ∧ w' = w := by
 have HR := hide hr
 clear hr
 go_enter Tryz.func29, Tryz.ntmps29
 go_wp2_with fail
 refine (hasSize_index s l _ (unhide HR)).mono ?_
 rintro e w' ⟨⟨r, rfl, hd⟩, hw1⟩
 subst hw1
 have HD := hide hd
 clear hd
 go_wp2_with fail
 all_goals
  go_ret
  refine ⟨?_, rfl⟩
  rw [← unhide HD]
  try rfl
 all_goals simp_all
theorem hasNought_any (n : Int) (w : World) :
  Calls Tryz.prog 114 #[.int .i64 n] w fun e w' => e = .returned (.bool (Pg.notNought n)) ∧ w' = w := by
 by_cases h1 : n = 0
 · subst h1
   go_enter Tryz.func114, Tryz.ntmps114
   go_wp2
   go_ret
   exact ⟨rfl, rfl⟩
 · have hh : Pg.notNought n = true := by simp [Pg.notNought]; omega
   rw [hh]; clear hh
   go_enter Tryz.func114, Tryz.ntmps114
   go_wp2
   go_ret
   first
    | exact ⟨rfl, rfl⟩
    | exact ⟨by simp [h1], rfl⟩
theorem hasNought_index (s : Pg.Sl) (l : List Int) (w : World) (hr : Pg.RN w s l) :
  Calls Tryz.prog 66 #[.slice s.ad s.len s.cap, .func (.func 114) #[] #[]] w fun e w' => (∃ r : Int, e = .returned (.int .i64 r) ∧ decide (0 ≤ r) = l.any Pg.notNought) ∧ w' = w := by
 obtain ⟨sa, sl, sc⟩ := s
 have hlen : sl = l.length := hr.len
 have hfew := hr.few
 rw [← hlen] at hfew
 have HLN := hide hlen
 have HR := hide hr
 clear hr hlen
 dsimp only
 go_enter Tryz.func66, Tryz.ntmps66
 go_wp2_with fail
 go_loop [8] (fun v => ∃ k : Nat, k ≤ sl ∧ v = .int .i64 k ∧ Hid (l.any Pg.notNought = (l.drop k).any Pg.notNought)) (fun v => sl - (intOf v).toNat)
 case atStart => exact ⟨0, by omega, rfl, by show _ = _; rw [List.drop_zero]⟩
 case round =>
  obtain ⟨k, hk, rfl, hall⟩ := hrel
  have HA := hide (unhide hall)
  clear hall
  by_cases hlt : k < sl
  · have hlt2 : k < l.length := by have := unhide HLN; omega
    have hy := List.getElem?_eq_getElem hlt2
    obtain ⟨b, o, had, hb, hc⟩ := (unhide HR).at_ k _ hy
    have HD := hide (show (l.drop k).any Pg.notNought = (Pg.notNought l[k] || (l.drop (k + 1)).any Pg.notNought) by rw [List.drop_eq_getElem_cons hlt2]; rfl)
    generalize l[k] = t at *
    have had' : sa = some ⟨b, o, none⟩ := had
    subst had'
    have hk1 : (0 : Int) ≤ (k : Int) := by omega
    have hk2 : (k : Int) < (sl : Int) := by omega
    clear hy had
    go_wp2_with fail
    refine (hasNought_any _ _).mono ?_
    rintro e w' ⟨rfl, hw1⟩
    subst hw1
    cases h3 : Pg.notNought t
    · have HN := hide (show l.any Pg.notNought = (l.drop (k + 1)).any Pg.notNought by rw [unhide HA, unhide HD, h3]; rfl)
      clear h3
      go_wp2_with fail
      go_round
      case rel => exact ⟨k + 1, by omega, by go_num, unhide HN⟩
      case measure => simp [intOf]; omega
    · have HN := hide (show l.any Pg.notNought = true by rw [unhide HA, unhide HD, h3]; rfl)
      clear h3
      go_wp2_with fail
      go_ret
      exact ⟨⟨_, rfl, by rw [unhide HN]; simp⟩, rfl⟩
  · have HN := hide (show l.any Pg.notNought = false by rw [unhide HA, List.drop_of_length_le (by have := unhide HLN; omega)]; rfl)
    go_wp2_with fail
    go_ret
    exact ⟨⟨_, rfl, by rw [unhide HN]; rfl⟩, rfl⟩
theorem hasNought_contains (s : Pg.Sl) (l : List Int) (w : World) (hr : Pg.RN w s l) :
  Calls Tryz.prog 29 #[.slice s.ad s.len s.cap, .func (.func 114) #[] #[]] w fun e w' => e = .returned (.bool (l.any Pg.notNought)) ∧ w' = w := by
 have HR := hide hr
 clear hr
 go_enter Tryz.func29, Tryz.ntmps29
 go_wp2_with fail
 refine (hasNought_index s l _ (unhide HR)).mono ?_
 rintro e w' ⟨⟨r, rfl, hd⟩, hw1⟩
 subst hw1
 have HD := hide hd
 clear hd
 go_wp2_with fail
 all_goals
  go_ret
  refine ⟨?_, rfl⟩
  rw [← unhide HD]
  try rfl
 all_goals simp_all
end Go.Proofs.YtpfogjplnodacaaGreat
namespace Go.Proofs.YtpfogjplnodacaaGreat
open Go.RowKit
set_option linter.unusedVariables false
def Pg.whead (last : Bool) (params : Int) (sz : List Int) : Nat :=
 if params < 0 ∨ (sz.length : Int) < params then 3
 else if 3 < params ∨ 6 < (sz.length : Int) - params then 2
 else if sz.any Pg.noSize then 3
 else if (sz.take params.toNat).any Pg.notNought then 1
 else if last = true ∧ 0 < params then 1 else 0
theorem Pg.RN.take {w : World} {a : Option Addr} {n c : Nat} {l : List Int} (h : Pg.RN w ⟨a, n, c⟩ l) (k : Nat) (hk : k ≤ n) : Pg.RN w ⟨a, k, c⟩ (l.take k) := by
 have h1 : n = l.length := h.len
 have h2 : n ≤ c := h.cap
 refine ⟨by show k = _; rw [List.length_take]; omega, by show k ≤ c; omega, by rw [List.length_take]; have := h.few; omega, fun i z hz => ?_⟩
 rw [List.getElem?_take] at hz
 split at hz
 · exact h.at_ i z hz
 · cases hz
abbrev Pg.S8 (b : Nat) (A0 A1 E0 E1 E2 E3 E4 E5 : Value) (w W : World) : Prop := W.cell? ⟨b, 0, none⟩ = some A0 ∧ W.cell? ⟨b, 1, none⟩ = some A1 ∧ W.cell? ⟨b + 1, 0, none⟩ = some E0 ∧ W.cell? ⟨b + 1, 1, none⟩ = some E1 ∧ W.cell? ⟨b + 1, 2, none⟩ = some E2 ∧ W.cell? ⟨b + 1, 3, none⟩ = some E3 ∧ W.cell? ⟨b + 1, 4, none⟩ = some E4 ∧ W.cell? ⟨b + 1, 5, none⟩ = some E5 ∧ Below w.heap.size w W
section
variable {m n : Nat} {s : Pg.Sl} {p : List (Pg.FT m n)} {now : Nat} {f : Pg.F} {x : Pg.FT m n}
theorem head_any (w : World) (h : Pg.Cx w m n s p now f x) (hpb : x.params ≤ 9223372036854775807) :
  Calls Tryz.prog 101 #[.agg #[.slice s.ad s.len s.cap, .int .i64 (now : Nat)]] w fun r w' => r = Pg.ends (Pg.whead (decide (now + 1 = s.len)) x.params x.sizes) (.tuple #[]) ∧ Below w.heap.size w w' := by
 obtain ⟨h1, h2, h3⟩ := h.few
 have hb0 := (Below.refl w.heap.size w).alloc (Nat.le_refl _) (Obj.cells #[.slice s.ad s.len s.cap, .int .i64 (now : Nat)] 146)
 have hb1 := hb0.alloc (by simp) (Obj.cells #[.int .i64 f.params, .slice f.sizes.ad f.sizes.len f.sizes.cap, .slice f.cmds.ad f.cmds.len f.cmds.cap, .int .i64 f.res.k, .int .i64 f.res.n, .slice f.res.args.ad f.res.args.len f.res.args.cap] 78)
 have HS8 := hide (show Pg.S8 w.heap.size (.slice s.ad s.len s.cap) (.int .i64 (now : Nat)) (.int .i64 f.params) (.slice f.sizes.ad f.sizes.len f.sizes.cap) (.slice f.cmds.ad f.cmds.len f.cmds.cap) (.int .i64 f.res.k) (.int .i64 f.res.n) (.slice f.res.args.ad f.res.args.len f.res.args.cap) w ((w.alloc (Obj.cells #[.slice s.ad s.len s.cap, .int .i64 (now : Nat)] 146)).alloc (Obj.cells #[.int .i64 f.params, .slice f.sizes.ad f.sizes.len f.sizes.cap, .slice f.cmds.ad f.cmds.len f.cmds.cap, .int .i64 f.res.k, .int .i64 f.res.n, .slice f.res.args.ad f.res.args.len f.res.args.cap] 78)) from ⟨by go_simp, by go_simp, by go_simp, by go_simp, by go_simp, by go_simp, by go_simp, by go_simp, hb1⟩)
 obtain ⟨b, o, had, hb, hl⟩ := (h.later hb0 (Nat.le_refl _)).lies
 have hi0 : (0 : Int) ≤ (now : Int) := by omega
 have hi1 : (now : Int) < (s.len : Int) := by omega
 have hl6 : s.len ≤ 35184372088832 := by omega
 have l0 := hl.c0
 have l1 := hl.c1
 have l2 := hl.c2
 have l3 := hl.c3
 have l4 := hl.c4
 have l5 := hl.c5
 have HLA := hide (fun (W : World) => isLast_any (s := s) (now := now) W hl6)
 have HRS := hide (fun (W : World) (hW : Below w.heap.size w W) => h.rf.sizes.later hW (Nat.le_refl _))
 rw [← h.rf.params] at hpb
 have hlen := h.rf.sizes.len
 have hcap := h.rf.sizes.cap
 have hfew := h.rf.sizes.few
 rw [← hlen] at hfew
 have HC := hide (show Pg.whead (decide (now + 1 = s.len)) x.params x.sizes = if f.params < 0 ∨ (f.sizes.len : Int) < f.params then 3 else if 3 < f.params ∨ 6 < (f.sizes.len : Int) - f.params then 2 else if x.sizes.any Pg.noSize then 3 else if (x.sizes.take f.params.toNat).any Pg.notNought then 1 else if decide (now + 1 = s.len) = true ∧ 0 < f.params then 1 else 0 by rw [h.rf.params, hlen]; rfl)
 generalize Pg.whead (decide (now + 1 = s.len)) x.params x.sizes = R at *
 generalize decide (now + 1 = s.len) = L at *
 clear h h1 h2 h3 hb0 hb1 hl hlen
 obtain ⟨sa, sl, sc⟩ := s
 obtain ⟨fp, ⟨za, zl, zc⟩, fc, fr⟩ := f
 dsimp only at *
 subst had
 go_enter Tryz.func101, Tryz.ntmps101
 go_upto_region 2 with fail
 clear l0 l1 l2 l3 l4 l5 hb
 generalize ((w.alloc (Obj.cells #[.slice (some ⟨b, o, none⟩) sl sc, .int .i64 (now : Nat)] 146)).alloc (Obj.cells #[.int .i64 fp, .slice za zl zc, .slice fc.ad fc.len fc.cap, .int .i64 fr.k, .int .i64 fr.n, .slice fr.args.ad fr.args.len fr.args.cap] 78)) = W0 at *
 obtain ⟨a0, a1, e0, e1, e2, e3, e4, e5, hbw⟩ := unhide HS8
 have HBW := hide hbw
 clear hbw
 by_cases hp0 : fp < 0
 · have HR := hide (show R = 3 by rw [unhide HC, if_pos (Or.inl hp0)])
   go_wp2_with fail
   refine (refuse_yes 3 _).mono ?_
   rintro r w1 ⟨rfl, hw1⟩
   subst hw1
   go_wp2_with fail
   exact ⟨rfl, by rw [unhide HR]; exact (Pg.ends_no (by decide)).symm, unhide HBW⟩
 · by_cases hp1 : (zl : Int) - fp < 0
   · have HR := hide (show R = 3 by rw [unhide HC, if_pos (Or.inr (by omega))])
     go_wp2_with fail
     refine (refuse_yes 3 _).mono ?_
     rintro r w1 ⟨rfl, hw1⟩
     subst hw1
     go_wp2_with fail
     exact ⟨rfl, by rw [unhide HR]; exact (Pg.ends_no (by decide)).symm, unhide HBW⟩
   · have HR1 := hide (show R = if 3 < fp ∨ 6 < (zl : Int) - fp then 2 else if x.sizes.any Pg.noSize then 3 else if (x.sizes.take fp.toNat).any Pg.notNought then 1 else if L = true ∧ 0 < fp then 1 else 0 by rw [unhide HC, if_neg (by omega)])
     clear HC
     go_wp2_with fail
     refine (refuse_no 3 _).mono ?_
     rintro r w1 ⟨rfl, hw1⟩
     subst hw1
     by_cases hp2 : fp > 3
     · have HR := hide (show R = 2 by rw [unhide HR1, if_pos (Or.inl hp2)])
       go_wp2_with fail
       refine (refuse_yes 2 _).mono ?_
       rintro r w1 ⟨rfl, hw1⟩
       subst hw1
       go_wp2_with fail
       exact ⟨rfl, by rw [unhide HR]; exact (Pg.ends_no (by decide)).symm, unhide HBW⟩
     · by_cases hp3 : (zl : Int) - fp > 6
       · have HR := hide (show R = 2 by rw [unhide HR1, if_pos (Or.inr hp3)])
         go_wp2_with fail
         refine (refuse_yes 2 _).mono ?_
         rintro r w1 ⟨rfl, hw1⟩
         subst hw1
         go_wp2_with fail
         exact ⟨rfl, by rw [unhide HR]; exact (Pg.ends_no (by decide)).symm, unhide HBW⟩
       · have hp2' : (3 < fp) = False := by simp; omega
         have hp3' : (6 < (zl : Int) - fp) = False := by simp; omega
         have HR2 := hide (show R = if x.sizes.any Pg.noSize then 3 else if (x.sizes.take fp.toNat).any Pg.notNought then 1 else if L = true ∧ 0 < fp then 1 else 0 by rw [unhide HR1, if_neg (by omega)])
         clear HR1
         go_wp2_with fail
         refine (refuse_no 2 _).mono ?_
         rintro r w1 ⟨rfl, hw1⟩
         subst hw1
         obtain ⟨np, rfl⟩ : ∃ np : Nat, fp = np := ⟨fp.toNat, by omega⟩
         rw [Int.toNat_natCast] at HR2
         have hnp : np ≤ zl := by omega
         have hnp3 : np ≤ 3 := by omega
         have HH1 := hide (fun (W : World) (hW : Below w.heap.size w W) => hasSize_contains ⟨za, zl, zc⟩ x.sizes W ((unhide HRS) W hW))
         have HH2 := hide (fun (W : World) (hW : Below w.heap.size w W) => hasNought_contains ⟨za, np, zc⟩ (x.sizes.take np) W (((unhide HRS) W hW).take np hnp))
         generalize x.sizes.any Pg.noSize = Z1 at *
         generalize (x.sizes.take np).any Pg.notNought = Z2 at *
         clear hp0 hp1 hp2 hp3
         have hp9 : ¬ (np : Int) < 0 := by omega
         have hp8 : (np : Int) ≤ (zl : Int) := by omega
         have hp7 : (np : Int) ≤ (zc : Int) := by omega
         go_wp2_with fail
         refine ((unhide HH1) _ (unhide HBW)).mono ?_
         rintro r w1 ⟨rfl, hw1⟩
         subst hw1
         cases Z1
         case true =>
          have HR := hide (show R = 3 by rw [unhide HR2]; rfl)
          go_wp2_with fail
          refine (refuse_yes 3 _).mono ?_
          rintro r w1 ⟨rfl, hw1⟩
          subst hw1
          go_wp2_with fail
          exact ⟨rfl, by rw [unhide HR]; exact (Pg.ends_no (by decide)).symm, unhide HBW⟩
         case false =>
          have HR3 := hide (show R = if Z2 then 1 else if L = true ∧ 0 < (np : Int) then 1 else 0 by rw [unhide HR2]; rfl)
          clear HR2
          go_wp2_with fail
          refine (refuse_no 3 _).mono ?_
          rintro r w1 ⟨rfl, hw1⟩
          subst hw1
          go_wp2_with fail
          refine ((unhide HH2) _ (unhide HBW)).mono ?_
          rintro r w1 ⟨rfl, hw1⟩
          subst hw1
          cases Z2
          case true =>
           have HR := hide (show R = 1 by rw [unhide HR3]; rfl)
           go_wp2_with fail
           refine (refuse_yes 1 _).mono ?_
           rintro r w1 ⟨rfl, hw1⟩
           subst hw1
           go_wp2_with fail
           exact ⟨rfl, by rw [unhide HR]; exact (Pg.ends_no (by decide)).symm, unhide HBW⟩
          case false =>
           have HR4 := hide (show R = if L = true ∧ 0 < (np : Int) then 1 else 0 by rw [unhide HR3]; rfl)
           clear HR3
           go_wp2_with fail
           refine (refuse_no 1 _).mono ?_
           rintro r w1 ⟨rfl, hw1⟩
           subst hw1
           go_wp2_with fail
           refine ((unhide HLA) _).mono ?_
           rintro r w2 ⟨rfl, hb2⟩
           have f0 := (hb2.cell (p := ⟨w.heap.size + 1, 0, none⟩) (World.block_lt_of_cell? _ _ e0)).trans e0
           have HB2 := hide ((unhide HBW).trans (hb2.mono (unhide HBW).size))
           clear hb2 a0 a1 e0 e1 e2 e3 e4 e5
           cases L
           case false =>
            have HR := hide (show R = 0 by rw [unhide HR4, if_neg (by simp)])
            go_wp2_with fail
            refine (refuse_no 1 _).mono ?_
            rintro r w1 ⟨rfl, hw1⟩
            subst hw1
            go_wp2_with fail
            go_end0
            exact ⟨(Pg.ends_ok (unhide HR)).symm, unhide HB2⟩
           case true =>
            by_cases hp5 : 0 < np
            · have HR := hide (show R = 1 by rw [unhide HR4, if_pos ⟨rfl, by omega⟩])
              go_wp2_with fail
              refine (refuse_yes 1 _).mono ?_
              rintro r w1 ⟨rfl, hw1⟩
              subst hw1
              go_wp2_with fail
              exact ⟨rfl, by rw [unhide HR]; exact (Pg.ends_no (by decide)).symm, unhide HB2⟩
            · have HR := hide (show R = 0 by rw [unhide HR4, if_neg (fun h => hp5 (by omega))])
              go_wp2_with fail
              refine (refuse_no 1 _).mono ?_
              rintro r w1 ⟨rfl, hw1⟩
              subst hw1
              go_wp2_with fail
              go_end0
              exact ⟨(Pg.ends_ok (unhide HR)).symm, unhide HB2⟩
end
end Go.Proofs.YtpfogjplnodacaaGreat
namespace Go.Proofs.YtpfogjplnodacaaGreat
open Go.RowKit
set_option linter.unusedVariables false
section
variable {m n : Nat} {s : Pg.Sl} {p : List (Pg.FT m n)} {now : Nat} {f : Pg.F} {x : Pg.FT m n}
def Pg.wres (last : Bool) (m n : Nat) (x : Pg.FT m n) : Nat := if last then (if Pg.isX m x.res then 1 else 0) else Pg.chkX x.sizes m x.res
theorem result_any (w : World) (h : Pg.Cx w m n s p now f x) :
  Calls Tryz.prog 103 #[.agg #[.slice s.ad s.len s.cap, .int .i64 (now : Nat)]] w fun r w' => r = Pg.ends (Pg.wres (decide (now + 1 = s.len)) m n x) (.tuple #[]) ∧ Below w.heap.size w w' := by
 obtain ⟨h1, h2, h3⟩ := h.few
 have hb0 := (Below.refl w.heap.size w).alloc (Nat.le_refl _) (Obj.cells #[.slice s.ad s.len s.cap, .int .i64 (now : Nat)] 146)
 have hb1 := hb0.alloc (by simp) (Obj.cells #[.int .i64 f.res.k, .int .i64 f.res.n, .slice f.res.args.ad f.res.args.len f.res.args.cap] 69)
 have HS5 := hide (show Pg.S5 w.heap.size (.slice s.ad s.len s.cap) (.int .i64 (now : Nat)) (.int .i64 f.res.k) (.int .i64 f.res.n) (.slice f.res.args.ad f.res.args.len f.res.args.cap) w ((w.alloc (Obj.cells #[.slice s.ad s.len s.cap, .int .i64 (now : Nat)] 146)).alloc (Obj.cells #[.int .i64 f.res.k, .int .i64 f.res.n, .slice f.res.args.ad f.res.args.len f.res.args.cap] 69)) from ⟨by go_simp, by go_simp, by go_simp, by go_simp, by go_simp, hb1⟩)
 obtain ⟨b, o, had, hb, hl⟩ := (h.later hb0 (Nat.le_refl _)).lies
 have hi0 : (0 : Int) ≤ (now : Int) := by omega
 have hi1 : (now : Int) < (s.len : Int) := by omega
 have hl6 : s.len ≤ 35184372088832 := by omega
 have l3 := hl.c3
 have l4 := hl.c4
 have l5 := hl.c5
 have HLA := hide (fun (W : World) => isLast_any (s := s) (now := now) W hl6)
 have HTH := hide (fun (W : World) (hW : Below w.heap.size w W) => isThere_any m f.res x.res W (h.rf.res.later hW (Nat.le_refl _)))
 have HEX := hide (fun (W : World) (hW : Below w.heap.size w W) => expr_any m f.res x.res W (h.later hW (Nat.le_refl _)) (h.rf.res.later hW (Nat.le_refl _)))
 have HC := hide (show Pg.wres (decide (now + 1 = s.len)) m n x = if decide (now + 1 = s.len) then (if Pg.isX m x.res then 1 else 0) else Pg.chkX x.sizes m x.res from rfl)
 generalize Pg.wres (decide (now + 1 = s.len)) m n x = R at *
 generalize decide (now + 1 = s.len) = L at *
 generalize Pg.isX m x.res = I at *
 generalize Pg.chkX x.sizes m x.res = C at *
 clear h h1 h2 h3 hb0 hb1 hl
 unfold Pg.E.val at *
 obtain ⟨sa, sl, sc⟩ := s
 dsimp only at *
 subst had
 go_enter Tryz.func103, Tryz.ntmps103
 go_wp2_with fail
 clear l3 l4 l5 hb
 generalize ((w.alloc (Obj.cells #[.slice (some ⟨b, o, none⟩) sl sc, .int .i64 (now : Nat)] 146)).alloc (Obj.cells #[.int .i64 f.res.k, .int .i64 f.res.n, .slice f.res.args.ad f.res.args.len f.res.args.cap] 69)) = W0 at *
 refine ((unhide HLA) _).mono ?_
 rintro r w1 ⟨rfl, hb1⟩
 have HS1 := hide (Pg.S5.below (unhide HS5) hb1)
 obtain ⟨f0, f1, f2, f3, f4, hB1⟩ := unhide HS1
 have HB1 := hide hB1
 clear hb1 hB1
 cases L
 · have HR := hide (show R = C by rw [unhide HC]; rfl)
   go_wp2_with fail
   refine ((unhide HEX) _ (unhide HB1)).mono ?_
   rintro r w2 ⟨hr2, hb2⟩
   have HB2 := hide ((unhide HB1).trans (hb2.mono (unhide HB1).size))
   clear hb2
   by_cases hw0 : C = 0
   · rw [Pg.ends_ok hw0] at hr2
     subst hr2
     have HZ := hide (show R = 0 by rw [unhide HR]; exact hw0)
     clear hw0
     go_wp2_with fail
     go_end0
     exact ⟨(Pg.ends_ok (unhide HZ)).symm, unhide HB2⟩
   · rw [Pg.ends_no hw0] at hr2
     subst hr2
     have HZ := hide hw0
     clear hw0
     go_wp2_with fail
     exact ⟨rfl, by rw [unhide HR]; exact (Pg.ends_no (unhide HZ)).symm, unhide HB2⟩
 · have HR := hide (show R = if I then 1 else 0 by rw [unhide HC]; rfl)
   go_wp2_with fail
   refine ((unhide HTH) _ (unhide HB1)).mono ?_
   rintro r w2 ⟨rfl, hb2⟩
   have HB2 := hide ((unhide HB1).trans (hb2.mono (unhide HB1).size))
   clear hb2
   cases I
   · have HZ := hide (show R = 0 by rw [unhide HR]; rfl)
     go_wp2_with fail
     refine (refuse_no _ _).mono ?_
     rintro r w3 ⟨rfl, hw3⟩
     subst hw3
     go_wp2_with fail
     try simp only [Exit.inBlock, Exit.then]
     refine bodyPost_ret (results_none rfl _ _ _) rfl ?_
     exact ⟨(Pg.ends_ok (unhide HZ)).symm, unhide HB2⟩
   · have HZ := hide (show R = 1 by rw [unhide HR]; rfl)
     go_wp2_with fail
     refine (refuse_yes 1 _).mono ?_
     rintro r w3 ⟨rfl, hw3⟩
     subst hw3
     go_wp2_with fail
     exact ⟨rfl, by rw [unhide HZ]; exact (Pg.ends_no (by decide)).symm, unhide HB2⟩
end
end Go.Proofs.YtpfogjplnodacaaGreat
namespace Go.Proofs.YtpfogjplnodacaaGreat
open Go.RowKit
set_option linter.unusedVariables false
theorem Pg.foldmax_le : ∀ (l : List Nat) (d : Nat), (∀ a ∈ l, a ≤ d) → l.foldr max 0 ≤ d
 | [], d, _ => Nat.zero_le _
 | a :: r, d, h => Nat.max_le.2 ⟨h a List.mem_cons_self, Pg.foldmax_le r d (fun b hb => h b (List.mem_cons_of_mem _ hb))⟩
theorem Pg.le_foldmax : ∀ (l : List Nat) (a : Nat), a ∈ l → a ≤ l.foldr max 0
 | [], a, h => by cases h
 | b :: r, a, h => by
  cases h with
  | head => exact Nat.le_max_left _ _
  | tail _ h => exact Nat.le_trans (Pg.le_foldmax r a h) (Nat.le_max_right _ _)
theorem Pg.dep_le {m n : Nat} {l : List (Pg.CT m n)} {y : Pg.CT m n} (h : y ∈ l) : Pg.dep n y ≤ Pg.deps l := Pg.le_foldmax _ _ (List.mem_map_of_mem h)
theorem Pg.deps_le {m n : Nat} {l : List (Pg.CT m n)} {d : Nat} (h : ∀ y ∈ l, Pg.dep n y ≤ d) : Pg.deps l ≤ d :=
 Pg.foldmax_le _ _ (fun a ha => by obtain ⟨y, hy, rfl⟩ := List.mem_map.1 ha; exact h y hy)
theorem Pg.cnt_succ {m n : Nat} (y : Pg.CT m (n + 1)) : Pg.cnt (n + 1) y = 1 + Pg.cnts y.2.2.1 + Pg.cnts y.2.2.2 := rfl
theorem Pg.dep_succ {m n : Nat} (y : Pg.CT m (n + 1)) : Pg.dep (n + 1) y = 1 + max (Pg.deps y.2.2.1) (Pg.deps y.2.2.2) := rfl
def Pg.over {m n : Nat} (c deep : Nat) (l : List (Pg.CT m n)) : Nat := if 40 < c + Pg.cnts l ∨ 6 < deep + Pg.deps l then 2 else 0
theorem Pg.over_yes {m n : Nat} {c deep : Nat} {l : List (Pg.CT m n)} (h : 40 < c + Pg.cnts l ∨ 6 < deep + Pg.deps l) : Pg.over c deep l = 2 := if_pos h
theorem Pg.over_no {m n : Nat} {c deep : Nat} {l : List (Pg.CT m n)} (h : ¬ (40 < c + Pg.cnts l ∨ 6 < deep + Pg.deps l)) : Pg.over c deep l = 0 := if_neg h
structure Pg.Far {m n : Nat} (c deep : Nat) (l : List (Pg.CT m n)) (i k : Nat) : Prop where
 cnt : k = c + Pg.sumTo (Pg.cnt n) l i
 dep : ∀ y ∈ l.take i, deep + Pg.dep n y ≤ 6
theorem Pg.Far.yes {m n : Nat} {c deep : Nat} {l : List (Pg.CT m (n + 1))} {i k : Nat} (h : Pg.Far c deep l i k) {y : Pg.CT m (n + 1)} (hy : l[i]? = some y) (ho : 40 < k + Pg.cnt (n + 1) y ∨ 6 < deep + Pg.dep (n + 1) y) : Pg.over c deep l = 2 := by
 refine Pg.over_yes ?_
 rcases ho with ho | ho
 · have h1 := h.cnt
   have h2 := Pg.sumTo_succ (Pg.cnt (n + 1)) l i y hy
   have h3 := Pg.sumTo_le (Pg.cnt (n + 1)) l (i + 1) (List.getElem?_eq_some_iff.1 hy).1
   left
   show 40 < c + (l.map (Pg.cnt (n + 1))).sum
   omega
 · have := Pg.dep_le (List.mem_of_getElem? hy)
   right
   omega
theorem Pg.Far.next {m n : Nat} {c deep : Nat} {l : List (Pg.CT m n)} {i k : Nat} (h : Pg.Far c deep l i k) {y : Pg.CT m n} (hy : l[i]? = some y) (hd : deep + Pg.dep n y ≤ 6) : Pg.Far c deep l (i + 1) (k + Pg.cnt n y) := by
 refine ⟨by rw [Pg.sumTo_succ _ _ _ _ hy, h.cnt]; omega, fun z hz => ?_⟩
 rw [List.take_add_one, hy] at hz
 rcases List.mem_append.1 hz with hz | hz
 · exact h.dep z hz
 · simp at hz
   subst hz
   exact hd
theorem Pg.Far.done {m n : Nat} {c deep : Nat} {l : List (Pg.CT m n)} {i k : Nat} (h : Pg.Far c deep l i k) (hi : i = l.length) (hk : k ≤ 40) (hd : deep ≤ 6) : Pg.over c deep l = 0 ∧ k = c + Pg.cnts l := by
 subst hi
 have h1 := h.cnt
 rw [Pg.sumTo_all] at h1
 have h2 := h.dep
 rw [List.take_length] at h2
 have h3 : Pg.deps l ≤ 6 - deep := Pg.deps_le (fun y hy => by have := h2 y hy; omega)
 refine ⟨Pg.over_no ?_, h1⟩
 have h4 : k = c + Pg.cnts l := h1
 omega
theorem countCmds_any {m : Nat} : ∀ (n : Nat) (s : Pg.Sl) (l : List (Pg.CT m n)) (w : World) (deep c : Nat), Pg.RS w 12 (Pg.LC w) (Pg.RC w m n) s l → 1 ≤ deep → deep ≤ 6 → c ≤ 40 →
  Calls Tryz.prog 100 #[.slice s.ad s.len s.cap, .int .i64 (deep : Nat), .int .i64 (c : Nat)] w fun r w' => r = Pg.ends (Pg.over c deep l) (.int .i64 ((c + Pg.cnts l : Nat) : Int)) ∧ Below w.heap.size w w' := by
 intro n
 induction n with
 | zero =>
  intro s l w deep c hs h1 h6 h40
  cases l with
  | cons y r => exact Empty.elim y
  | nil =>
   have hlen := hs.len
   have HO := hide (show Pg.over c deep ([] : List (Pg.CT m 0)) = 0 from Pg.over_no (by show ¬ (40 < c + 0 ∨ 6 < deep + 0); omega))
   have HC := hide (show c + Pg.cnts ([] : List (Pg.CT m 0)) = c from rfl)
   generalize Pg.over c deep ([] : List (Pg.CT m 0)) = Y at *
   generalize c + Pg.cnts ([] : List (Pg.CT m 0)) = T at *
   have hl0 : ¬ (0 : Int) < (s.len : Int) := by rw [hlen]; simp
   have hl1 : s.len ≤ 10 := by rw [hlen]; simp
   clear hs hlen
   go_enter Tryz.func100, Tryz.ntmps100
   go_wp2_with fail
   go_loopw [2, 11] (fun cv iv wr => cv = .int .i64 (c : Nat) ∧ iv = .int .i64 0 ∧ wr = w) (fun _ _ _ => 0)
   case atStart => exact ⟨rfl, rfl, rfl⟩
   case round =>
    obtain ⟨rfl, rfl, rfl⟩ := hrel
    go_wp2_with fail
    go_ret
    refine ⟨?_, Below.refl _ _⟩
    rw [unhide HO, unhide HC, Pg.ends_ok rfl]
    rfl
 | succ n ih =>
  intro s l w deep c hs h1 h6 h40
  have hlen := hs.len
  have hfew := hs.few
  rw [← hlen] at hfew
  have HYS := hide (fun (i k : Nat) (h : Pg.Far c deep l i k) (y : Pg.CT m (n + 1)) (hy : l[i]? = some y) (ho : 40 < k + Pg.cnt (n + 1) y ∨ 6 < deep + Pg.dep (n + 1) y) => h.yes hy ho)
  have HDN := hide (fun (i k : Nat) (h : Pg.Far c deep l i k) (hi : i = l.length) (hk : k ≤ 40) => h.done hi hk h6)
  obtain ⟨T, hT⟩ : ∃ T, c + Pg.cnts l = T := ⟨_, rfl⟩
  rw [hT]
  simp only [hT] at HDN
  clear hT
  generalize Pg.over c deep l = Y at *
  have HS := hide hs
  have HLN := hide hlen
  have IH := hide ih
  clear hs hlen ih
  go_enter Tryz.func100, Tryz.ntmps100
  go_wp2_with fail
  go_loopw [2, 11] (fun cv iv wr => ∃ (i k : Nat), i ≤ s.len ∧ iv = .int .i64 i ∧ cv = .int .i64 ((k : Nat) : Int) ∧ k ≤ 40 ∧ Pg.Far c deep l i k ∧ Below w.heap.size w wr) (fun _ iv _ => s.len - (intOf iv).toNat)
  case atStart => exact ⟨0, c, Nat.zero_le _, rfl, rfl, h40, ⟨rfl, fun y hy => by simp at hy⟩, Below.refl _ _⟩
  case round =>
   obtain ⟨i, k, hi, rfl, rfl, hk, hfar, hbe⟩ := hrel
   have hz := hbe.size
   have HBE := hide hbe
   have HF := hide hfar
   clear hbe hfar
   by_cases hlt : i < s.len
   · have hlt2 : i < l.length := by have := unhide HLN; omega
     have hy := List.getElem?_eq_getElem hlt2
     obtain ⟨b, o, cc, had, hb, hlies, hrd⟩ := (unhide HS).at_ i _ hy
     have HY := hide (fun ho => (unhide HYS) i k (unhide HF) _ hy ho)
     have HNX := hide (fun hd => (unhide HF).next hy hd)
     generalize l[i] = y at *
     rw [Pg.cnt_succ, Pg.dep_succ] at HY HNX
     have hll := hlies.later (unhide HBE) (Nat.le_refl _) hb
     obtain ⟨p0, p1, p2, p3, p4, p5, p6, p7, p8, p9, p10, p11⟩ := hll
     have hal := (Below.refl wr.heap.size wr).alloc (Nat.le_refl _) (Obj.cells #[.int .i64 cc.k, .int .i64 cc.v, .int .i64 cc.f, .int .i64 cc.ix.k, .int .i64 cc.ix.n, .slice cc.ix.args.ad cc.ix.args.len cc.ix.args.cap, .int .i64 cc.ex.k, .int .i64 cc.ex.n, .slice cc.ex.args.ad cc.ex.args.len cc.ex.args.cap, .slice cc.args.ad cc.args.len cc.args.cap, .slice cc.thn.ad cc.thn.len cc.thn.cap, .slice cc.els.ad cc.els.len cc.els.cap] 107)
     have hba := (unhide HBE).trans (hal.mono hz)
     have HBA := hide hba
     have hrd0 := hrd
     have HI1 := hide (fun (W : World) (hW : Below w.heap.size w W) (hd : deep ≤ 5) (hk1 : k + 1 ≤ 40) => (show Calls Tryz.prog 100 #[.slice cc.thn.ad cc.thn.len cc.thn.cap, .int .i64 ((deep : Int) + 1), .int .i64 ((k : Int) + 1)] W fun r w' => r = Pg.ends (Pg.over (k + 1) (deep + 1) y.2.2.1) (.int .i64 ((k + 1 + Pg.cnts y.2.2.1 : Nat) : Int)) ∧ Below W.heap.size W w' from (unhide IH) cc.thn y.2.2.1 W (deep + 1) (k + 1) (hrd0.2.2.1.laterC hW (Nat.le_refl _)) (by omega) (by omega) hk1))
     have HI2 := hide (fun (W : World) (K : Nat) (hW : Below w.heap.size w W) (hd : deep ≤ 5) (hk1 : K ≤ 40) => (show Calls Tryz.prog 100 #[.slice cc.els.ad cc.els.len cc.els.cap, .int .i64 ((deep : Int) + 1), .int .i64 (K : Int)] W fun r w' => r = Pg.ends (Pg.over K (deep + 1) y.2.2.2) (.int .i64 ((K + Pg.cnts y.2.2.2 : Nat) : Int)) ∧ Below W.heap.size W w' from (unhide IH) cc.els y.2.2.2 W (deep + 1) K (hrd0.2.2.2.laterC hW (Nat.le_refl _)) (by omega) (by omega) hk1))
     have HO1 := hide (fun (h : 40 < k + 1 + Pg.cnts y.2.2.1 ∨ 6 < deep + 1 + Pg.deps y.2.2.1) => Pg.over_yes (c := k + 1) (deep := deep + 1) h)
     have HN1 := hide (fun (h : ¬ (40 < k + 1 + Pg.cnts y.2.2.1 ∨ 6 < deep + 1 + Pg.deps y.2.2.1)) => Pg.over_no (c := k + 1) (deep := deep + 1) h)
     have HO2 := hide (fun (K : Nat) (h : 40 < K + Pg.cnts y.2.2.2 ∨ 6 < deep + 1 + Pg.deps y.2.2.2) => Pg.over_yes (c := K) (deep := deep + 1) h)
     have HN2 := hide (fun (K : Nat) (h : ¬ (40 < K + Pg.cnts y.2.2.2 ∨ 6 < deep + 1 + Pg.deps y.2.2.2)) => Pg.over_no (c := K) (deep := deep + 1) h)
     clear hlies hrd hrd0 hy hba
     generalize Pg.over (k + 1) (deep + 1) y.2.2.1 = O1 at *
     generalize Pg.cnts y.2.2.1 = C1 at *
     generalize Pg.cnts y.2.2.2 = C2 at *
     generalize Pg.deps y.2.2.1 = D1 at *
     generalize Pg.deps y.2.2.2 = D2 at *
     have hi0 : (0 : Int) ≤ (i : Int) := by omega
     have hi1 : (i : Int) < (s.len : Int) := by omega
     rw [had]
     by_cases hk40 : k + 1 > 40
     · have g40 : (k : Int) + 1 > 40 := by omega
       have HR := hide (show Y = 2 from (unhide HY) (Or.inl (by omega)))
       go_wp2_with fail
       refine (refuse_yes 2 _).mono ?_
       rintro r w1 ⟨rfl, hw1⟩
       subst hw1
       go_wp2_with fail
       exact ⟨rfl, by rw [unhide HR]; exact (Pg.ends_no (by decide)).symm, unhide HBA⟩
     · have g40 : ¬ (k : Int) + 1 > 40 := by omega
       by_cases hd5 : deep > 5
       · have g5 : (deep : Int) > 5 := by omega
         have HR := hide (show Y = 2 from (unhide HY) (Or.inr (by omega)))
         go_wp2_with fail
         refine (refuse_yes 2 _).mono ?_
         rintro r w1 ⟨rfl, hw1⟩
         subst hw1
         go_wp2_with fail
         exact ⟨rfl, by rw [unhide HR]; exact (Pg.ends_no (by decide)).symm, unhide HBA⟩
       · have g5 : ¬ (deep : Int) > 5 := by omega
         go_wp2_with fail
         refine (refuse_no 2 _).mono ?_
         rintro r w1 ⟨rfl, hw1⟩
         have q10 : w1.cell? ⟨wr.heap.size, 10, none⟩ = some (.slice cc.thn.ad cc.thn.len cc.thn.cap) := by rw [hw1]; go_simp
         have q11 : w1.cell? ⟨wr.heap.size, 11, none⟩ = some (.slice cc.els.ad cc.els.len cc.els.cap) := by rw [hw1]; go_simp
         have HB1 := hide (show Below w.heap.size w w1 by rw [hw1]; exact unhide HBA)
         clear hw1 p0 p1 p2 p3 p4 p5 p6 p7 p8 p9 p10 p11
         go_wp2_with fail
         refine ((unhide HI1) _ (unhide HB1) (by omega) (by omega)).mono ?_
         rintro r w2 ⟨hr2, hb2⟩
         have HB2 := hide ((unhide HB1).trans (hb2.mono (unhide HB1).size))
         have s11 := (hb2.cell (p := ⟨wr.heap.size, 11, none⟩) (World.block_lt_of_cell? _ _ q11)).trans q11
         clear hb2 q10 q11
         by_cases ho1 : 40 < k + 1 + C1 ∨ 6 < deep + 1 + D1
         · rw [(unhide HO1) ho1, Pg.ends_no (by decide)] at hr2
           subst hr2
           have HR := hide (show Y = 2 from (unhide HY) (by omega))
           clear ho1
           go_wp2_with fail
           exact ⟨rfl, by rw [unhide HR]; exact (Pg.ends_no (by decide)).symm, unhide HB2⟩
         · rw [(unhide HN1) ho1, Pg.ends_ok rfl] at hr2
           subst hr2
           generalize hKK : k + 1 + C1 = K at *
           have HKK := hide hKK
           have hK40 : K ≤ 40 := by omega
           have HD1 := hide (show deep + 1 + D1 ≤ 6 by omega)
           clear ho1 hKK
           go_wp2_with fail
           refine ((unhide HI2) _ K (unhide HB2) (by omega) hK40).mono ?_
           rintro r w3 ⟨hr3, hb3⟩
           have HB3 := hide ((unhide HB2).trans (hb3.mono (unhide HB2).size))
           clear hb3 s11
           by_cases ho2 : 40 < K + C2 ∨ 6 < deep + 1 + D2
           · rw [(unhide HO2) K ho2, Pg.ends_no (by decide)] at hr3
             subst hr3
             have HR := hide (show Y = 2 from (unhide HY) (by have := unhide HKK; omega))
             clear ho2
             go_wp2_with fail
             exact ⟨rfl, by rw [unhide HR]; exact (Pg.ends_no (by decide)).symm, unhide HB3⟩
           · rw [(unhide HN2) K ho2, Pg.ends_ok rfl] at hr3
             subst hr3
             have hfar := (unhide HNX) (by have := unhide HD1; omega)
             rw [show k + (1 + C1 + C2) = K + C2 by have := unhide HKK; omega] at hfar
             have HFA := hide hfar
             generalize hKL : K + C2 = L at *
             have hL40 : L ≤ 40 := by omega
             clear ho2 hfar hKL
             go_wp2_with fail
             exact ⟨⟨i + 1, L, by omega, by go_num, rfl, hL40, unhide HFA, unhide HB3⟩, by simp [intOf]; omega⟩
   · have hdn := (unhide HDN) i k (unhide HF) (by have := unhide HLN; omega) hk
     have HD := hide hdn
     clear hdn
     go_wp2_with fail
     go_ret
     refine ⟨?_, unhide HBE⟩
     rw [(unhide HD).1, Pg.ends_ok rfl, ← (unhide HD).2]
     rfl
theorem Xr.wrap_id {z : Int} (h0 : 0 ≤ z) (h1 : z ≤ 1000000) : IntKind.i64.wrap z = z := by
 rw [IntKind.wrap_i64]
 omega
end Go.Proofs.YtpfogjplnodacaaGreat
namespace Go.Proofs.YtpfogjplnodacaaGreat
open Go.RowKit
set_option linter.unusedVariables false
def Pg.manyP {m n : Nat} (p : List (Pg.FT m n)) : Bool := decide (40 < (p.map (fun f => Pg.cnts f.cmds)).sum) || p.any (fun f => decide (5 < Pg.deps f.cmds))
def Pg.wfn {m n : Nat} (p : List (Pg.FT m n)) (now : Nat) (x : Pg.FT m n) : Nat :=
 Pg.orW (Pg.whead (decide (now + 1 = p.length)) x.params x.sizes) (Pg.orW (Pg.wcs p now x n x.cmds) (Pg.wres (decide (now + 1 = p.length)) m n x))
def Pg.wfns {m n : Nat} (p : List (Pg.FT m n)) : List Nat := p.mapIdx (fun i x => Pg.wfn p i x)
def Pg.chkP {m n : Nat} (p : List (Pg.FT m n)) : Nat :=
 if p.length = 0 then 1 else if 6 < p.length then 2 else if Pg.manyP p then 2 else Pg.first (Pg.wfns p)
def Pg.parFit {m n : Nat} (p : List (Pg.FT m n)) : Prop := ∀ x ∈ p, x.params ≤ 9223372036854775807
structure Pg.FarP {m n : Nat} (p : List (Pg.FT m n)) (i k : Nat) : Prop where
 cnt : k = Pg.sumTo (fun f => Pg.cnts f.cmds) p i
 dep : ∀ y ∈ p.take i, Pg.deps y.cmds ≤ 5
theorem Pg.FarP.yes {m n : Nat} {p : List (Pg.FT m n)} {i k : Nat} (h : Pg.FarP p i k) {y : Pg.FT m n} (hy : p[i]? = some y) (ho : 40 < k + Pg.cnts y.cmds ∨ 6 < 1 + Pg.deps y.cmds) : Pg.manyP p = true := by
 unfold Pg.manyP
 rw [Bool.or_eq_true]
 rcases ho with ho | ho
 · have h1 := h.cnt
   have h2 := Pg.sumTo_succ (fun f : Pg.FT m n => Pg.cnts f.cmds) p i y hy
   have h3 := Pg.sumTo_le (fun f : Pg.FT m n => Pg.cnts f.cmds) p (i + 1) (List.getElem?_eq_some_iff.1 hy).1
   left
   rw [decide_eq_true_eq]
   omega
 · right
   rw [List.any_eq_true]
   exact ⟨y, List.mem_of_getElem? hy, by rw [decide_eq_true_eq]; omega⟩
theorem Pg.FarP.next {m n : Nat} {p : List (Pg.FT m n)} {i k : Nat} (h : Pg.FarP p i k) {y : Pg.FT m n} (hy : p[i]? = some y) (hd : 1 + Pg.deps y.cmds ≤ 6) : Pg.FarP p (i + 1) (k + Pg.cnts y.cmds) := by
 refine ⟨by rw [Pg.sumTo_succ _ _ _ _ hy, h.cnt], fun z hz => ?_⟩
 rw [List.take_add_one, hy] at hz
 rcases List.mem_append.1 hz with hz | hz
 · exact h.dep z hz
 · simp at hz
   subst hz
   omega
theorem Pg.FarP.done {m n : Nat} {p : List (Pg.FT m n)} {i k : Nat} (h : Pg.FarP p i k) (hi : i = p.length) (hk : k ≤ 40) : Pg.manyP p = false := by
 subst hi
 have h1 := h.cnt
 rw [Pg.sumTo_all] at h1
 have h2 := h.dep
 rw [List.take_length] at h2
 unfold Pg.manyP
 rw [Bool.or_eq_false_iff]
 constructor
 · rw [decide_eq_false_iff_not]; omega
 · rw [List.any_eq_false]
   intro y hy
   have := h2 y hy
   rw [decide_eq_true_eq]
   omega
theorem Pg.wfns_at {m n : Nat} (p : List (Pg.FT m n)) (i : Nat) (x : Pg.FT m n) (h : p[i]? = some x) : Pg.first ((Pg.wfns p).drop i) = if Pg.wfn p i x = 0 then Pg.first ((Pg.wfns p).drop (i + 1)) else Pg.wfn p i x := by
 have h1 : (Pg.wfns p)[i]? = some (Pg.wfn p i x) := by unfold Pg.wfns; rw [List.getElem?_mapIdx, h]; rfl
 obtain ⟨hk, hx⟩ := List.getElem?_eq_some_iff.1 h1
 rw [List.drop_eq_getElem_cons hk, hx]
 rfl
theorem Pg.wfns_len {m n : Nat} (p : List (Pg.FT m n)) : (Pg.wfns p).length = p.length := by unfold Pg.wfns; rw [List.length_mapIdx]
theorem Pg.Cx.of {w : World} {m n : Nat} {s : Pg.Sl} {p : List (Pg.FT m n)} (h : Pg.RP w m n s p) {i : Nat} {x : Pg.FT m n} (hx : p[i]? = some x) : ∃ (b o : Nat) (f : Pg.F), s.ad = some ⟨b, o, none⟩ ∧ b < w.heap.size ∧ Pg.LF w b (o + i * 6) f ∧ Pg.Cx w m n s p i f x := by
 obtain ⟨b, o, f, h1, h2, h3, h4⟩ := h.at_ i x hx
 exact ⟨b, o, f, h1, h2, h3, ⟨h, hx, ⟨b, o, h1, h2, h3⟩, h4⟩⟩
theorem checkProgram_any {m n : Nat} (s : Pg.Sl) (p : List (Pg.FT m n)) (w : World) (hp : Pg.RP w m n s p) (hpf : Pg.parFit p) :
  Calls Tryz.prog 61 #[.agg #[.slice s.ad s.len s.cap]] w fun r w' => r = Pg.ends (Pg.chkP p) (.tuple #[]) ∧ Below w.heap.size w w' := by
 obtain ⟨sa, sl, sc⟩ := s
 have hlen : sl = p.length := hp.len
 have hfew := hp.few
 rw [← hlen] at hfew
 obtain ⟨R, hR⟩ : ∃ R, R = Pg.chkP p := ⟨_, rfl⟩
 rw [← hR]
 have HC := hide (show R = if sl = 0 then 1 else if 6 < sl then 2 else if Pg.manyP p then 2 else Pg.first (Pg.wfns p) by rw [hR, hlen]; rfl)
 have hb0 := (Below.refl w.heap.size w).alloc (Nat.le_refl _) (Obj.cells #[.slice sa sl sc] 40)
 have q0 : (w.alloc (Obj.cells #[.slice sa sl sc] 40)).cell? ⟨w.heap.size, 0, none⟩ = some (.slice sa sl sc) := by go_simp
 have HB0 := hide hb0
 have HP := hide hp
 have HPF := hide hpf
 have HLN := hide hlen
 clear hR hb0 hp hpf hlen
 dsimp only at *
 go_enter Tryz.func61, Tryz.ntmps61
 go_upto_region 1 with fail
 generalize w.alloc (Obj.cells #[.slice sa sl sc] 40) = W0 at *
 by_cases h0 : sl = 0
 · have g0 : ((sl : Int) == 0) = true := by simp [h0]
   have HR := hide (show R = 1 by rw [unhide HC, if_pos h0])
   clear h0
   go_wp2_with fail
   refine (refuse_yes 1 _).mono ?_
   rintro r w1 ⟨rfl, hw1⟩
   subst hw1
   go_wp2_with fail
   exact ⟨rfl, by rw [unhide HR]; exact (Pg.ends_no (by decide)).symm, unhide HB0⟩
 have g0 : ((sl : Int) == 0) = false := by simpa using h0
 go_wp2_with fail
 refine (refuse_no 1 _).mono ?_
 rintro r w1 ⟨rfl, hw1⟩
 subst hw1
 by_cases h6 : 6 < sl
 · have g6 : (sl : Int) > 6 := by omega
   have HR := hide (show R = 2 by rw [unhide HC, if_neg h0, if_pos h6])
   clear h0 g0
   go_wp2_with fail
   refine (refuse_yes 2 _).mono ?_
   rintro r w2 ⟨rfl, hw2⟩
   subst hw2
   go_wp2_with fail
   exact ⟨rfl, by rw [unhide HR]; exact (Pg.ends_no (by decide)).symm, unhide HB0⟩
 have g6 : (6 < (sl : Int)) = False := by simp; omega
 have g7 : sl ≤ 6 := by omega
 have HC2 := hide (show R = if Pg.manyP p then 2 else Pg.first (Pg.wfns p) by rw [unhide HC, if_neg h0, if_neg h6])
 clear HC h0 g0
 go_wp2_with fail
 refine (refuse_no 2 _).mono ?_
 rintro r w2 ⟨rfl, hw2⟩
 subst hw2
 clear g6
 clear h6
 go_upto_block 0 with fail
 go_cut [] (fun W => Pg.manyP p = false ∧ W.cell? ⟨w.heap.size, 0, none⟩ = some (.slice sa sl sc) ∧ Below w.heap.size w W)
 case first =>
  go_wp2_with fail
  go_loopw [2, 20] (fun nv iv wr => ∃ (i k : Nat), i ≤ sl ∧ iv = .int .i64 i ∧ nv = .int .i64 ((k : Nat) : Int) ∧ k ≤ 40 ∧ Pg.FarP p i k ∧ wr.cell? ⟨w.heap.size, 0, none⟩ = some (.slice sa sl sc) ∧ Below w.heap.size w wr) (fun _ iv _ => sl - (intOf iv).toNat)
  case atStart => exact ⟨0, 0, Nat.zero_le _, rfl, rfl, by omega, ⟨rfl, fun y hy => by simp at hy⟩, q0, unhide HB0⟩
  case round =>
   clear q0 HB0
   obtain ⟨i, k, hi, rfl, rfl, hk, hfar, q0, hbe⟩ := hrel
   have hz := hbe.size
   have HBE := hide hbe
   have HF := hide hfar
   clear hbe hfar
   by_cases hlt : i < sl
   · have hlt2 : i < p.length := by have := unhide HLN; omega
     have hy := List.getElem?_eq_getElem hlt2
     obtain ⟨b, o, f, had, hb, hlies, hcx⟩ := Pg.Cx.of (unhide HP) hy
     have HY := hide (fun ho => (unhide HF).yes hy ho)
     have HNX := hide (fun hd => (unhide HF).next hy hd)
     generalize p[i] = y at *
     have hll := hlies.later (unhide HBE) (Nat.le_refl _) hb
     obtain ⟨p0, p1, p2, p3, p4, p5⟩ := hll
     have hal := (Below.refl wr.heap.size wr).alloc (Nat.le_refl _) (Obj.cells #[.int .i64 f.params, .slice f.sizes.ad f.sizes.len f.sizes.cap, .slice f.cmds.ad f.cmds.len f.cmds.cap, .int .i64 f.res.k, .int .i64 f.res.n, .slice f.res.args.ad f.res.args.len f.res.args.cap] 78)
     have hba := (unhide HBE).trans (hal.mono hz)
     have HBA := hide hba
     have hlw := World.block_lt_of_cell? wr _ q0
     have q1 := (hal.cell (p := ⟨w.heap.size, 0, none⟩) hlw).trans q0
     have HCC := hide (show Calls Tryz.prog 100 #[.slice f.cmds.ad f.cmds.len f.cmds.cap, .int .i64 1, .int .i64 (k : Int)] _ fun r w' => r = Pg.ends (Pg.over k 1 y.cmds) (.int .i64 ((k + Pg.cnts y.cmds : Nat) : Int)) ∧ Below _ _ w' from countCmds_any n f.cmds y.cmds _ 1 k (hcx.rf.cmds.laterC hba (Nat.le_refl _)) (by omega) (by omega) hk)
     have HOY := hide (fun (h : 40 < k + Pg.cnts y.cmds ∨ 6 < 1 + Pg.deps y.cmds) => Pg.over_yes (c := k) (deep := 1) h)
     have HON := hide (fun (h : ¬ (40 < k + Pg.cnts y.cmds ∨ 6 < 1 + Pg.deps y.cmds)) => Pg.over_no (c := k) (deep := 1) h)
     generalize Pg.over k 1 y.cmds = O at *
     generalize Pg.cnts y.cmds = C at *
     generalize Pg.deps y.cmds = D at *
     clear hlies hcx hy hal hba
     have hi0 : (0 : Int) ≤ (i : Int) := by omega
     have hi1 : (i : Int) < (sl : Int) := by omega
     have had' : sa = some ⟨b, o, none⟩ := had
     subst had'
     clear had
     go_wp2_with fail
     refine (unhide HCC).mono ?_
     rintro r w3 ⟨hr3, hb3⟩
     have r0 := (hb3.cell (p := ⟨w.heap.size, 0, none⟩) (World.block_lt_of_cell? _ _ q1)).trans q1
     have HB3 := hide ((unhide HBA).trans (hb3.mono (unhide HBA).size))
     clear hb3
     by_cases ho : 40 < k + C ∨ 6 < 1 + D
     · rw [(unhide HOY) ho, Pg.ends_no (by decide)] at hr3
       subst hr3
       have HR := hide (show R = 2 by rw [unhide HC2, (unhide HY) ho]; rfl)
       clear ho
       go_wp2_with fail
       exact ⟨rfl, by rw [unhide HR]; exact (Pg.ends_no (by decide)).symm, unhide HB3⟩
     · rw [(unhide HON) ho, Pg.ends_ok rfl] at hr3
       subst hr3
       have HN := hide ((unhide HNX) (by omega))
       have hK : k + C ≤ 40 := by omega
       clear ho
       generalize k + C = K at *
       go_wp2_with fail
       exact ⟨⟨i + 1, K, by omega, by go_num, rfl, hK, unhide HN, r0, unhide HB3⟩, by simp [intOf]; omega⟩
   · have HN := hide ((unhide HF).done (by have := unhide HLN; omega) hk)
     go_wp2_with fail
     go_meet
     case rel => exact ⟨unhide HN, q0, unhide HBE⟩
 case rest =>
  rename World => W2
  clear q0 HB0
  obtain ⟨hmany, q0, hb2⟩ := hcut
  have HR1 := hide (show R = Pg.first (Pg.wfns p) by rw [unhide HC2, hmany]; rfl)
  have HB0 := hide hb2
  clear hmany hb2 HC2
  go_wp2_with fail
  go_loopw [32] (fun iv wr => ∃ (i : Nat), i ≤ sl ∧ iv = .int .i64 i ∧ R = Pg.first ((Pg.wfns p).drop i) ∧ wr.cell? ⟨w.heap.size, 0, none⟩ = some (.slice sa sl sc) ∧ Below w.heap.size w wr) (fun iv _ => sl - (intOf iv).toNat)
  case atStart => exact ⟨0, Nat.zero_le _, rfl, by rw [List.drop_zero]; exact unhide HR1, q0, unhide HB0⟩
  case round =>
   clear q0 HB0 HR1
   obtain ⟨i, hi, rfl, hR, q0, hbe⟩ := hrel
   have hz := hbe.size
   have HBE := hide hbe
   have HR := hide hR
   clear hbe hR
   by_cases hlt : i < sl
   · have hlt2 : i < p.length := by have := unhide HLN; omega
     have hy := List.getElem?_eq_getElem hlt2
     obtain ⟨b, o, f, had, hb, hlies, hcx⟩ := Pg.Cx.of (unhide HP) hy
     have HDR := hide (Pg.wfns_at p i _ hy)
     have hpb := (unhide HPF) _ (List.getElem_mem hlt2)
     generalize p[i] = y at *
     have hal := (Below.refl wr.heap.size wr).alloc (Nat.le_refl _) (Obj.cells #[.slice sa sl sc, .int .i64 (i : Nat)] 146)
     have hba := (unhide HBE).trans (hal.mono hz)
     have hlw := World.block_lt_of_cell? wr _ q0
     have HFY := hide (show Pg.wfn p i y = Pg.orW (Pg.whead (decide (i + 1 = sl)) y.params y.sizes) (Pg.orW (Pg.wcs p i y n y.cmds) (Pg.wres (decide (i + 1 = sl)) m n y)) by rw [unhide HLN]; rfl)
     have HHD := hide (fun (W : World) (hW : Below w.heap.size w W) => head_any W (hcx.later hW (Nat.le_refl _)) hpb)
     have HCS := hide (fun (W : World) (hW : Below w.heap.size w W) => cmds_any n f.cmds y.cmds W (hcx.later hW (Nat.le_refl _)) (hcx.rf.cmds.laterC hW (Nat.le_refl _)))
     have HRS := hide (fun (W : World) (hW : Below w.heap.size w W) => result_any W (hcx.later hW (Nat.le_refl _)))
     have HA := hide (show ∀ (W : World), Below (wr.alloc (Obj.cells #[.slice sa sl sc, .int .i64 (i : Nat)] 146)).heap.size (wr.alloc (Obj.cells #[.slice sa sl sc, .int .i64 (i : Nat)] 146)) W → W.cell? ⟨w.heap.size, 0, none⟩ = some (.slice sa sl sc) ∧ W.cell? ⟨wr.heap.size, 0, none⟩ = some (.slice sa sl sc) ∧ W.cell? ⟨wr.heap.size, 1, none⟩ = some (.int .i64 (i : Nat)) ∧ W.cell? ⟨b, o + i * 6 + 2, none⟩ = some (.slice f.cmds.ad f.cmds.len f.cmds.cap) ∧ Below w.heap.size w W by
      intro W hW
      have hbb := hba.trans (hW.mono hba.size)
      refine ⟨?_, ?_, ?_, (hlies.later hbb (Nat.le_refl _) hb).c2, hbb⟩
      · rw [hW.cell (p := ⟨w.heap.size, 0, none⟩) (by simp; omega), hal.cell (p := ⟨w.heap.size, 0, none⟩) hlw]; exact q0
      · rw [hW.cell (p := ⟨wr.heap.size, 0, none⟩) (by simp)]; go_simp
      · rw [hW.cell (p := ⟨wr.heap.size, 1, none⟩) (by simp)]; go_simp)
     have HBA := hide hba
     generalize Pg.wfn p i y = fy at *
     generalize Pg.whead (decide (i + 1 = sl)) y.params y.sizes = c1 at *
     generalize Pg.wcs p i y n y.cmds = c2 at *
     generalize Pg.wres (decide (i + 1 = sl)) m n y = c3 at *
     clear hlies hcx hy hal hba hpb
     have hi0 : (0 : Int) ≤ (i : Int) := by omega
     have hi1 : (i : Int) < (sl : Int) := by omega
     have had' : sa = some ⟨b, o, none⟩ := had
     subst had'
     clear had
     go_wp2_with fail
     clear q0
     refine ((unhide HHD) _ (unhide HBA)).mono ?_
     rintro r w1 ⟨hr1, hb1⟩
     have HF1 := hide ((unhide HA) w1 hb1)
     have HB1 := hide ((unhide HA) w1 hb1).2.2.2.2
     have H1 := hide hb1
     clear hb1
     by_cases e1 : c1 = 0
     · rw [Pg.ends_ok e1] at hr1
       subst hr1
       have E1 := hide e1
       clear e1
       go_upto_region 14 with fail
       by_cases e2 : c2 = 0
       · rw [Pg.ends_ok e2] at HCS
         have E2 := hide e2
         clear e2
         go_cut [] (fun W => W.cell? ⟨w.heap.size, 0, none⟩ = some (.slice (some ⟨b, o, none⟩) sl sc) ∧ W.cell? ⟨wr.heap.size, 0, none⟩ = some (.slice (some ⟨b, o, none⟩) sl sc) ∧ W.cell? ⟨wr.heap.size, 1, none⟩ = some (.int .i64 (i : Nat)) ∧ W.cell? ⟨b, o + i * 6 + 2, none⟩ = some (.slice f.cmds.ad f.cmds.len f.cmds.cap) ∧ Below w.heap.size w W)
         case first =>
          go_region_held3 (fun W => W.cell? ⟨w.heap.size, 0, none⟩ = some (.slice (some ⟨b, o, none⟩) sl sc) ∧ W.cell? ⟨wr.heap.size, 0, none⟩ = some (.slice (some ⟨b, o, none⟩) sl sc) ∧ W.cell? ⟨wr.heap.size, 1, none⟩ = some (.int .i64 (i : Nat)) ∧ W.cell? ⟨b, o + i * 6 + 2, none⟩ = some (.slice f.cmds.ad f.cmds.len f.cmds.cap) ∧ Below w.heap.size w W)
           (first | assumption | exact (unhide HA) _ ((unhide H1).drew) | exact (unhide HA) _ (((unhide H1).drew).trans ((unhide HB5).mono ((unhide H1).drew).size)))
           (first
            | (go_at_call 102; refine ((unhide HCS) _ ?_).mono ?_; exact ((unhide HA) _ ((unhide H1).drew)).2.2.2.2; rintro r w5 ⟨rfl, hb5⟩; have HB5 := hide hb5; clear hb5))
          all_goals
           go_wp2_with fail
           go_meet
           case rel => assumption
         case rest =>
          rename World => w2
          obtain ⟨r0, r1, r2, r3, hB2⟩ := hcut
          have HB2 := hide hB2
          clear hB2
          go_wp2_with fail
          refine ((unhide HRS) _ (unhide HB2)).mono ?_
          rintro r w3 ⟨hr3, hb3⟩
          have u0 := (hb3.cell (p := ⟨w.heap.size, 0, none⟩) (World.block_lt_of_cell? _ _ r0)).trans r0
          have HB3 := hide ((unhide HB2).trans (hb3.mono (unhide HB2).size))
          clear hb3 r0 r1 r2 r3
          by_cases e3 : c3 = 0
          · rw [Pg.ends_ok e3] at hr3
            subst hr3
            have HN := hide (show R = Pg.first ((Pg.wfns p).drop (i + 1)) by rw [unhide HR, unhide HDR, if_pos (by rw [unhide HFY, unhide E1, unhide E2, e3]; rfl)])
            clear e3
            go_wp2_with fail
            exact ⟨⟨i + 1, by omega, by go_num, unhide HN, u0, unhide HB3⟩, by simp [intOf]; omega⟩
          · rw [Pg.ends_no e3] at hr3
            subst hr3
            have HN := hide (show R = c3 by
             have hfy : fy = c3 := by rw [unhide HFY, unhide E1, unhide E2]; rfl
             rw [unhide HR, unhide HDR, if_neg (by rw [hfy]; exact e3), hfy])
            have HE := hide e3
            clear e3
            go_wp2_with fail
            exact ⟨rfl, by rw [unhide HN]; exact (Pg.ends_no (unhide HE)).symm, unhide HB3⟩
       · rw [Pg.ends_no e2] at HCS
         have HN := hide (show R = c2 by
          have hfy : fy = c2 := by rw [unhide HFY, unhide E1]; show Pg.orW c2 c3 = c2; unfold Pg.orW; rw [if_neg e2]
          rw [unhide HR, unhide HDR, if_neg (by rw [hfy]; exact e2), hfy])
         have HE := hide e2
         clear e2
         obtain ⟨r0, r1, r2, r3, hB2⟩ := unhide HF1
         have HB2 := hide hB2
         clear hB2
         refine Code.wp_mono (Q := fun ex a v => (ex = .panic (Pg.gave c2)) ∧ a.defers = [] ∧ Below w.heap.size w v) (fun ex a v h => ?_) ?_
         · obtain ⟨rfl, hd, hbv⟩ := h
           exact ⟨hd, by rw [unhide HN]; exact (Pg.ends_no (unhide HE)).symm, hbv⟩
         go_region_with (first
          | (go_at_call 102; refine ((unhide HCS) _ ?_).mono ?_; (first | exact unhide HB2 | exact (unhide HB2).drew); rintro r w5 ⟨rfl, hb5⟩; have HB5 := hide hb5; clear hb5)
          | (refine Pg.trick Tryz.prog ⟨#[], []⟩ w ?_))
         all_goals exact ((unhide HB2).drew).trans ((unhide HB5).mono ((unhide HB2).drew).size)
     · rw [Pg.ends_no e1] at hr1
       subst hr1
       have HN := hide (show R = c1 by
        have hfy : fy = c1 := by rw [unhide HFY]; unfold Pg.orW; rw [if_neg e1]
        rw [unhide HR, unhide HDR, if_neg (by rw [hfy]; exact e1), hfy])
       have HE := hide e1
       clear e1
       go_wp2_with fail
       exact ⟨rfl, by rw [unhide HN]; exact (Pg.ends_no (unhide HE)).symm, unhide HB1⟩
   · have HN := hide (show R = 0 by
      rw [unhide HR, List.drop_of_length_le (by rw [Pg.wfns_len]; have := unhide HLN; omega)]; rfl)
     go_wp2_with fail
     go_end0
     exact ⟨by rw [unhide HN]; exact (Pg.ends_ok rfl).symm, unhide HBE⟩
end Go.Proofs.YtpfogjplnodacaaGreat
namespace Go.Proofs.YtpfogjplnodacaaGreat
open Go.RowKit
set_option linter.unusedVariables false
theorem Pg.orW_zero {a b : Nat} (h : Pg.orW a b = 0) : a = 0 ∧ b = 0 := by
 unfold Pg.orW at h
 split at h
 · rename_i h1; exact ⟨h1, h⟩
 · rename_i h1; exact absurd h h1
theorem Xr.wc_ok {k : Int} {va : Option Int} {my mo pa : Bool} {wi we wa : Nat} (h : Pg.wc k va my mo pa wi we wa = 0) : (1 ≤ k ∧ k ≤ 7) ∧ (k ≤ 4 → ∃ z, va = some z) ∧ (k = 3 → my = true ∧ pa = true) ∧ (k = 2 → wi = 0) ∧ (k ≠ 3 → k ≠ 4 → we = 0) ∧ wa = 0 := by
 unfold Pg.wc at h
 split at h
 · cases h
 rename_i h1
 split at h
 · cases h
 rename_i h2
 split at h
 · cases h
 rename_i h3
 split at h
 · cases h
 split at h
 · cases h
 split at h
 · cases h
 rename_i h6
 obtain ⟨a1, a2⟩ := Pg.orW_zero h
 obtain ⟨a3, a4⟩ := Pg.orW_zero a2
 refine ⟨Decidable.of_not_not h1, fun hk => ?_, fun hk => ⟨?_, ?_⟩, fun hk => by rw [if_pos hk] at a1; exact a1, fun h3 h4 => by rw [if_neg (by omega)] at a3; exact a3, a4⟩
 · cases va with
   | none => exact absurd ⟨hk, rfl⟩ h2
   | some z => exact ⟨z, rfl⟩
 · cases my with
   | false => exact absurd ⟨hk, rfl⟩ h3
   | true => rfl
 · cases pa with
   | false => exact absurd ⟨hk, rfl⟩ h6
   | true => rfl
end Go.Proofs.YtpfogjplnodacaaGreat
namespace Go.Proofs.YtpfogjplnodacaaGreat
open Go.RowKit
set_option linter.unusedVariables false
theorem between_any (n a b : Int) (w : World) :
  Calls Tryz.prog 19 #[.int .i64 n, .int .i64 a, .int .i64 b] w fun e w' => e = .returned (.bool (decide (a ≤ n ∧ n ≤ b))) ∧ w' = w := by
 by_cases h1 : a ≤ n
 · by_cases h2 : n ≤ b
   · have hh : decide (a ≤ n ∧ n ≤ b) = true := by simp [h1, h2]
     rw [hh]; clear hh
     go_enter Tryz.func19, Tryz.ntmps19
     go_wp2
     go_ret
     exact ⟨rfl, rfl⟩
   · have hh : decide (a ≤ n ∧ n ≤ b) = false := by simp [h2]
     rw [hh]; clear hh
     go_enter Tryz.func19, Tryz.ntmps19
     go_wp2
     go_ret
     exact ⟨rfl, rfl⟩
 · have hh : decide (a ≤ n ∧ n ≤ b) = false := by simp [h1]
   rw [hh]; clear hh
   go_enter Tryz.func19, Tryz.ntmps19
   go_wp2
   go_ret
   exact ⟨rfl, rfl⟩
end Go.Proofs.YtpfogjplnodacaaGreat
namespace Go.Proofs.YtpfogjplnodacaaGreat
open Go.RowKit
set_option linter.unusedVariables false
structure Pg.RV (w : World) (s : Pg.Sl) (vs : List (List Int)) : Prop where
 len : s.len = vs.length
 cap : s.len ≤ s.cap
 few : vs.length ≤ 35184372088832
 at_ : ∀ i l, vs[i]? = some l → ∃ (b o : Nat) (t : Pg.Sl), s.ad = some ⟨b, o, none⟩ ∧ b < w.heap.size ∧ w.cell? ⟨b, o + i, none⟩ = some (.slice t.ad t.len t.cap) ∧ Pg.RN w t l
theorem Pg.RV.later {w w' : World} {B : Nat} {s : Pg.Sl} {vs : List (List Int)} (h : Pg.RV w s vs) (hb : Below B w w') (hB : w.heap.size ≤ B) : Pg.RV w' s vs :=
 ⟨h.len, h.cap, h.few, fun i l hl => by
  obtain ⟨b, o, t, h1, h2, h3, h4⟩ := h.at_ i l hl
  exact ⟨b, o, t, h1, by have := hb.size; omega, (hb.cell (p := ⟨b, o + i, none⟩) (by show b < B; omega)).trans h3, h4.later hb hB⟩⟩
def Pg.var? (vs : List (List Int)) (n : Int) : Option (List Int) := if 0 ≤ n then vs[n.toNat]? else none
def Pg.beyond (n : Int) : Bool := decide (n < -2147483648 ∨ n > 2147483647)
theorem IsNumber_any (n : Int) (w : World) : Calls Tryz.prog 20 #[.int .i64 n] w fun r w' => r = .returned (.bool (!Pg.beyond n)) ∧ w' = w := by
 have HD := hide (show (!Pg.beyond n) = decide (-2147483648 ≤ n ∧ n ≤ 2147483647) by unfold Pg.beyond; rw [Bool.eq_iff_iff]; simp)
 generalize (!Pg.beyond n) = D at *
 go_enter Tryz.func20, Tryz.ntmps20
 go_wp2_with fail
 refine (between_any _ _ _ _).mono ?_
 rintro r w1 ⟨rfl, rfl⟩
 rw [← unhide HD]
 go_wp2_with fail
 go_ret
 exact ⟨rfl, rfl⟩
end Go.Proofs.YtpfogjplnodacaaGreat
namespace Go.Proofs.YtpfogjplnodacaaGreat
open Go.RowKit
set_option linter.unusedVariables false
structure Kd.I where
 k : Int
 a : Int
 b : Int
def Kd.inR (n f : Nat) (x : Kd.I) : Bool :=
 if x.k = 2 then !Pg.beyond x.a
 else if x.k = 10 ∨ x.k = 11 then decide (0 ≤ x.a ∧ x.a < (n : Int))
 else if x.k = 5 then decide (4 ≤ x.a ∧ x.a ≤ 10)
 else if x.k = 12 then decide (0 ≤ x.a ∧ x.a < (f : Int)) && decide (0 ≤ x.b ∧ x.b ≤ 3)
 else if x.k = 9 ∨ x.k = 13 ∨ x.k = 14 then true
 else decide (0 ≤ x.a)
def Kd.bare (x : Kd.I) : Bool := (decide (x.a = 0) || !decide (x.k = 9 ∨ x.k = 13 ∨ x.k = 14)) && (decide (x.b = 0) || decide (x.k = 12))
def Kd.ck (n f : Nat) (x : Kd.I) : Nat := if 1 ≤ x.k ∧ x.k ≤ 14 then (if Kd.inR n f x then (if Kd.bare x then 0 else 1) else 3) else 7
def Kd.noAt (n : Nat) (z : Int) : Bool := !decide (0 ≤ z ∧ z < (n : Int))
def Kd.chk (l : List Kd.I) (fs : List Int) (ss : List (List Int)) : Nat :=
 if 3000 < l.length then 2
 else if ss.length = 0 ∨ fs.length ≠ ss.length then 1
 else if fs.any (Kd.noAt l.length) || ss.any (fun s => s.any Pg.noSize) then 3
 else Pg.first (l.map (Kd.ck l.length fs.length))
def Kd.one (k n : Int) : Kd.I := if k = 1 then ⟨2, n, 0⟩ else if k = 2 then ⟨3, n, 0⟩ else if k = 3 then ⟨4, n, 0⟩ else ⟨5, k, 0⟩
def Kd.ex : (m : Nat) → Pg.XT m → List Kd.I
 | 0, _ => []
 | m + 1, x => x.2.flatMap (Kd.ex m) ++ [Kd.one x.1.1 x.1.2]
def Kd.exs {m : Nat} (l : List (Pg.XT m)) : List Kd.I := l.flatMap (Kd.ex m)
def Kd.walk {α : Type} (g : α → Nat → Nat → List Kd.I) (cn : α → Nat) : List α → Nat → Nat → List Kd.I
 | [], _, _ => []
 | c :: r, o, a => g c o a ++ Kd.walk g cn r (o + (g c o a).length) (a + cn c)
def Kd.rest {m j : Nat} (cs : List (Pg.CT m j) → Nat → Nat → List Kd.I) (c : Pg.CT m (j + 1)) (o a : Nat) : List Kd.I :=
 if c.1.1 = 1 then Kd.ex m c.2.1.2.1 ++ [⟨6, c.1.2.1, 0⟩]
 else if c.1.1 = 2 then Kd.ex m c.2.1.1 ++ (Kd.ex m c.2.1.2.1 ++ [⟨7, c.1.2.1, 0⟩])
 else if c.1.1 = 3 then Kd.exs c.2.1.2.2 ++ [⟨12, c.1.2.2, (c.2.1.2.2.length : Nat)⟩, ⟨6, c.1.2.1, 0⟩]
 else if c.1.1 = 4 then [⟨8, c.1.2.1, 0⟩]
 else if c.1.1 = 5 then Kd.ex m c.2.1.2.1 ++ [⟨9, 0, 0⟩]
 else
  let e := Kd.ex m c.2.1.2.1
  let t := cs c.2.2.1 (o + 1 + e.length + 1) (a + 1)
  let o2 := o + 1 + e.length + 1 + t.length + 1
  if c.1.1 = 6 then
   let l := cs c.2.2.2 o2 (a + 1 + Pg.cnts c.2.2.1)
   e ++ (⟨11, (o2 : Nat), 0⟩ :: (t ++ (⟨10, ((o2 + l.length : Nat) : Int), 0⟩ :: l)))
  else e ++ (⟨11, (o2 : Nat), 0⟩ :: (t ++ [⟨10, (o : Nat), 0⟩]))
def Kd.cmd {m j : Nat} (cs : List (Pg.CT m j) → Nat → Nat → List Kd.I) (c : Pg.CT m (j + 1)) (o a : Nat) : List Kd.I := ⟨1, (a : Nat), 0⟩ :: Kd.rest cs c o a
def Kd.cmds {m : Nat} : (j : Nat) → List (Pg.CT m j) → Nat → Nat → List Kd.I
 | 0, _, _, _ => []
 | j + 1, l, o, a => Kd.walk (Kd.cmd (Kd.cmds j)) (Pg.cnt (j + 1)) l o a
def Kd.fin {m n : Nat} (last : Bool) (x : Pg.FT m n) : List Kd.I := if last then [⟨14, 0, 0⟩] else Kd.ex m x.res ++ [⟨13, 0, 0⟩]
def Kd.fn {m n : Nat} (last : Bool) (x : Pg.FT m n) (o a : Nat) : List Kd.I := Kd.cmds n x.cmds o a ++ Kd.fin last x
def Kd.fns {m n : Nat} : List (Pg.FT m n) → Nat → Nat → List Kd.I
 | [], _, _ => []
 | x :: r, o, a => Kd.fn r.isEmpty x o a ++ Kd.fns r (o + (Kd.fn r.isEmpty x o a).length) (a + Pg.cnts x.cmds)
def Kd.firsts {m n : Nat} : List (Pg.FT m n) → Nat → Nat → List Int
 | [], _, _ => []
 | x :: r, o, a => (o : Nat) :: Kd.firsts r (o + (Kd.fn r.isEmpty x o a).length) (a + Pg.cnts x.cmds)
def Kd.ins {m n : Nat} (p : List (Pg.FT m n)) : List Kd.I := Kd.fns p 0 0
def Kd.fst {m n : Nat} (p : List (Pg.FT m n)) : List Int := Kd.firsts p 0 0
def Kd.szs {m n : Nat} (p : List (Pg.FT m n)) : List (List Int) := p.map fun x => x.sizes
def Kd.Ok (e f : Nat) (x : Kd.I) : Prop := Kd.ck (e + 1) f x = 0
theorem Kd.Ok.mono {e e' f : Nat} {x : Kd.I} (h : Kd.Ok e f x) (he : e ≤ e') : Kd.Ok e' f x := by
 unfold Kd.Ok Kd.ck at *
 split at h
 · rename_i h1
   rw [if_pos h1]
   split at h
   · rename_i h2
     have h3 : Kd.inR (e' + 1) f x = true := by
      unfold Kd.inR at *
      split at h2
      · rename_i a; rw [if_pos a]; exact h2
      rename_i a1
      rw [if_neg a1]
      split at h2
      · rename_i a; rw [if_pos a]
        have := of_decide_eq_true h2
        exact decide_eq_true (by omega)
      · rename_i a; rw [if_neg a]; exact h2
     rw [if_pos h3]
     exact h
   · cases h
 · cases h
section
variable {m n : Nat} {p : List (Pg.FT m n)}
end
end Go.Proofs.YtpfogjplnodacaaGreat
