/-
  The contracts of scope's (checker).cmd and (checker).cmds over programs. By the verifier.
-/
import Derived.Test.YtpfogjplnodacaaPCmd
set_option maxRecDepth 100000
set_option maxHeartbeats 3200000
namespace Go.Proofs.Ytpfogjplnodacaa
open Go.RowKit
set_option linter.unusedVariables false
def Pg.parOf {m n : Nat} (p : List (Pg.FT m n)) (f : Int) : Int := ((p[f.toNat]?).map (fun x => x.params)).getD 0
def Pg.wcm {m n j : Nat} (p : List (Pg.FT m n)) (now : Nat) (x : Pg.FT m n) (y : Pg.CT m (j + 1)) : Nat :=
 Pg.wc y.1.1 (Pg.at? x.sizes y.1.2.1) (Pg.may now p.length y.1.2.2) (Pg.more y.1.1 y.1.2.1 y.1.2.2 y.2.1.2.2.length (Pg.isX m y.2.1.1) (Pg.isX m y.2.1.2.1) y.2.2.1.length y.2.2.2.length)
  (decide ((y.2.1.2.2.length : Int) = Pg.parOf p y.1.2.2)) (Pg.chkX x.sizes m y.2.1.1) (Pg.chkX x.sizes m y.2.1.2.1) (Pg.first (y.2.1.2.2.map (Pg.chkX x.sizes m)))
def Pg.wcs {m n : Nat} (p : List (Pg.FT m n)) (now : Nat) (x : Pg.FT m n) : (j : Nat) → List (Pg.CT m j) → Nat
 | 0, _ => 0
 | j + 1, l => Pg.first (l.map fun y => Pg.orW (Pg.wcm p now x y) (Pg.orW (Pg.wcs p now x j y.2.2.1) (Pg.wcs p now x j y.2.2.2)))
section
variable {m n : Nat} {s : Pg.Sl} {p : List (Pg.FT m n)} {now : Nat} {f : Pg.F} {x : Pg.FT m n}
theorem cmd_any (j : Nat) (c : Pg.C) (y : Pg.CT m (j + 1)) (w : World) (hcx : Pg.Cx w m n s p now f x) (hre : Pg.RC w m (j + 1) c y) :
  Calls Try.prog 56 #[.agg #[.slice s.ad s.len s.cap, .int .i64 (now : Nat)], c.val] w fun r w' => r = Pg.ends (Pg.wcm p now x y) (.tuple #[]) ∧ Below w.heap.size w w' := by
 obtain ⟨⟨hk, hv, hf⟩, ⟨hix, hex, hag⟩, ht, he⟩ := hre
 obtain ⟨h1, h2, h3⟩ := hcx.few
 have hl6 : s.len ≤ 35184372088832 := by omega
 have hal : c.args.len ≤ 35184372088832 := by have := hag.len; have := hag.few; omega
 have htl : c.thn.len ≤ 35184372088832 := by have := ht.len; have := ht.few; omega
 have hel : c.els.len ≤ 35184372088832 := by have := he.len; have := he.few; omega
 have hR : Pg.wcm p now x y = Pg.wc c.k (Pg.at? x.sizes c.v) (Pg.may now s.len c.f) (Pg.more c.k c.v c.f c.args.len (Pg.isX m y.2.1.1) (Pg.isX m y.2.1.2.1) c.thn.len c.els.len) (decide ((c.args.len : Int) = Pg.parOf p c.f)) (Pg.chkX x.sizes m y.2.1.1) (Pg.chkX x.sizes m y.2.1.2.1) (Pg.first (y.2.1.2.2.map (Pg.chkX x.sizes m))) := by
  unfold Pg.wcm
  rw [← hk, ← hv, ← hf, ← hag.len, ← ht.len, ← he.len, ← h1]
 rw [hR]
 refine cmd_core s now c w (Pg.at? x.sizes c.v) (Pg.may now s.len c.f) (Pg.more c.k c.v c.f c.args.len (Pg.isX m y.2.1.1) (Pg.isX m y.2.1.2.1) c.thn.len c.els.len) (Pg.parOf p c.f) (Pg.chkX x.sizes m y.2.1.1) (Pg.chkX x.sizes m y.2.1.2.1) (y.2.1.2.2.map (Pg.chkX x.sizes m)) hl6 hal (by rw [List.length_map, hag.len]) ?_ ?_ ?_ ?_ ?_ ?_ ?_ ?_
 · exact fun W hW => hasVar_any W c.v (hcx.later hW (Nat.le_refl _))
 · exact fun W hW v hv => isArray_any W c.v v (hcx.later hW (Nat.le_refl _)) hv
 · exact fun W hW => mayCall_any W c.f hl6
 · intro W hW hK
   exact hasMore_any c (Pg.isX m y.2.1.1) (Pg.isX m y.2.1.2.1) W hK ⟨hal, htl, hel⟩ (fun V hV => isThere_any m c.ix y.2.1.1 V (hix.later (hW.trans (hV.mono hW.size)) (Nat.le_refl _))) (fun V hV => isThere_any m c.ex y.2.1.2.1 V (hex.later (hW.trans (hV.mono hW.size)) (Nat.le_refl _)))
 · intro hmy
   have hm : 0 ≤ c.f ∧ c.f ≤ (now : Int) ∧ c.f < (s.len : Int) - 1 := by unfold Pg.may at hmy; exact of_decide_eq_true hmy
   obtain ⟨q, hq⟩ : ∃ q : Nat, c.f = q := ⟨c.f.toNat, by omega⟩
   have hql : q < p.length := by omega
   obtain ⟨b, o, g, h4, h5, h6, h7⟩ := hcx.rp.at_ q _ (List.getElem?_eq_getElem hql)
   refine ⟨b, o, q, h4, h5, hq, by omega, ?_⟩
   have h8 := h6.c0
   rw [h7.params] at h8
   rw [h8, hq]
   unfold Pg.parOf
   rw [Int.toNat_natCast, List.getElem?_eq_getElem hql]
   rfl
 · exact fun W hW => expr_any m c.ix y.2.1.1 W (hcx.later hW (Nat.le_refl _)) (hix.later hW (Nat.le_refl _))
 · exact fun W hW => expr_any m c.ex y.2.1.2.1 W (hcx.later hW (Nat.le_refl _)) (hex.later hW (Nat.le_refl _))
 · intro i z hz
   rw [List.getElem?_map] at hz
   cases hy : y.2.1.2.2[i]? with
   | none => rw [hy] at hz; cases hz
   | some u =>
    rw [hy] at hz
    obtain ⟨b, o, e, h4, h5, h6, h7⟩ := hag.at_ i u hy
    cases hz
    exact ⟨b, o, e, h4, h5, h6, fun W hW => expr_any m e u W (hcx.later hW (Nat.le_refl _)) (h7.later hW (Nat.le_refl _))⟩
theorem cmds_any : ∀ (j : Nat) (t : Pg.Sl) (l : List (Pg.CT m j)) (w : World), Pg.Cx w m n s p now f x → Pg.RS w 12 (Pg.LC w) (Pg.RC w m j) t l →
  Calls Try.prog 46 #[.agg #[.slice s.ad s.len s.cap, .int .i64 (now : Nat)], .slice t.ad t.len t.cap] w fun r w' => r = Pg.ends (Pg.wcs p now x j l) (.tuple #[]) ∧ Below w.heap.size w w' := by
 intro j
 induction j with
 | zero =>
  intro t l w hcx hs
  cases l with
  | cons y r => exact Empty.elim y
  | nil =>
   have hlen := hs.len
   have hl0 : ¬ (0 : Int) < (t.len : Int) := by rw [hlen]; simp
   have hl1 : t.len ≤ 10 := by rw [hlen]; simp
   have HR := hide (show Pg.wcs p now x 0 ([] : List (Pg.CT m 0)) = 0 from rfl)
   generalize Pg.wcs p now x 0 ([] : List (Pg.CT m 0)) = R at *
   have HB := hide ((Below.refl w.heap.size w).alloc (Nat.le_refl _) (Obj.cells #[.slice s.ad s.len s.cap, .int .i64 (now : Nat)] 79))
   clear hs hlen hcx
   go_enter Try.func46, Try.ntmps46
   go_wp2_with fail
   generalize w.alloc (Obj.cells #[.slice s.ad s.len s.cap, .int .i64 (now : Nat)] 79) = W0 at *
   go_loopw [8] (fun iv wr => iv = .int .i64 0 ∧ wr = W0) (fun _ _ => 0)
   case atStart => exact ⟨rfl, rfl⟩
   case round =>
    obtain ⟨rfl, rfl⟩ := hrel
    go_wp2_with fail
    go_end0
    exact ⟨by rw [unhide HR]; exact (Pg.ends_ok rfl).symm, unhide HB⟩
 | succ j ih =>
  intro t l w hcx hs
  have hlen := hs.len
  have hfew := hs.few
  rw [← hlen] at hfew
  obtain ⟨F, hF⟩ : ∃ F : Pg.CT m (j + 1) → Nat, F = fun y => Pg.orW (Pg.wcm p now x y) (Pg.orW (Pg.wcs p now x j y.2.2.1) (Pg.wcs p now x j y.2.2.2)) := ⟨_, rfl⟩
  have HWX := hide (show Pg.wcs p now x (j + 1) l = Pg.first (l.map F) by rw [hF]; rfl)
  have HF := hide (fun y => congrFun hF y)
  clear hF
  generalize Pg.wcs p now x (j + 1) l = R at *
  have hb0 := (Below.refl w.heap.size w).alloc (Nat.le_refl _) (Obj.cells #[.slice s.ad s.len s.cap, .int .i64 (now : Nat)] 79)
  have HS := hide hs
  have HLN := hide hlen
  have IH := hide ih
  have HCX := hide hcx
  have HB0 := hide hb0
  have q0 : (w.alloc (Obj.cells #[.slice s.ad s.len s.cap, .int .i64 (now : Nat)] 79)).cell? ⟨w.heap.size, 0, none⟩ = some (.slice s.ad s.len s.cap) := by go_simp
  have q1 : (w.alloc (Obj.cells #[.slice s.ad s.len s.cap, .int .i64 (now : Nat)] 79)).cell? ⟨w.heap.size, 1, none⟩ = some (.int .i64 (now : Nat)) := by go_simp
  clear hs hlen ih hcx hb0
  obtain ⟨ta, tl, tc⟩ := t
  dsimp only at *
  go_enter Try.func46, Try.ntmps46
  go_wp2_with fail
  generalize w.alloc (Obj.cells #[.slice s.ad s.len s.cap, .int .i64 (now : Nat)] 79) = W0 at *
  go_loopw [8] (fun iv wr => ∃ (i : Nat), i ≤ tl ∧ iv = .int .i64 i ∧ R = Pg.first ((l.drop i).map F) ∧ wr.cell? ⟨w.heap.size, 0, none⟩ = some (.slice s.ad s.len s.cap) ∧ wr.cell? ⟨w.heap.size, 1, none⟩ = some (.int .i64 (now : Nat)) ∧ Below w.heap.size w wr) (fun iv _ => tl - (intOf iv).toNat)
  case atStart => exact ⟨0, Nat.zero_le _, rfl, by rw [List.drop_zero]; exact unhide HWX, q0, q1, unhide HB0⟩
  case round =>
   clear q0 q1 HB0
   obtain ⟨i, hi, rfl, hR, a0, a1, hbe⟩ := hrel
   have hz := hbe.size
   have HBE := hide hbe
   have HR := hide hR
   clear hbe hR
   by_cases hlt : i < tl
   · have hlt2 : i < l.length := by have := unhide HLN; omega
     have hy := List.getElem?_eq_getElem hlt2
     obtain ⟨b, o, cc, had, hb, hlies, hrd⟩ := (unhide HS).at_ i _ hy
     have HDR := hide (Pg.first_drop F l i _ hy)
     generalize l[i] = y at *
     have HFy := hide ((unhide HF) y)
     have hll := hlies.later (unhide HBE) (Nat.le_refl _) hb
     obtain ⟨p0, p1, p2, p3, p4, p5, p6, p7, p8, p9, p10, p11⟩ := hll
     have hal := (Below.refl wr.heap.size wr).alloc (Nat.le_refl _) (Obj.cells #[.int .i64 cc.k, .int .i64 cc.v, .int .i64 cc.f, .int .i64 cc.ix.k, .int .i64 cc.ix.n, .slice cc.ix.args.ad cc.ix.args.len cc.ix.args.cap, .int .i64 cc.ex.k, .int .i64 cc.ex.n, .slice cc.ex.args.ad cc.ex.args.len cc.ex.args.cap, .slice cc.args.ad cc.args.len cc.args.cap, .slice cc.thn.ad cc.thn.len cc.thn.cap, .slice cc.els.ad cc.els.len cc.els.cap] 70)
     have hba := (unhide HBE).trans (hal.mono hz)
     have HBA := hide hba
     have hlw := World.block_lt_of_cell? wr _ a0
     have HA := hide (show ∀ (W : World), Below (wr.alloc (Obj.cells #[.int .i64 cc.k, .int .i64 cc.v, .int .i64 cc.f, .int .i64 cc.ix.k, .int .i64 cc.ix.n, .slice cc.ix.args.ad cc.ix.args.len cc.ix.args.cap, .int .i64 cc.ex.k, .int .i64 cc.ex.n, .slice cc.ex.args.ad cc.ex.args.len cc.ex.args.cap, .slice cc.args.ad cc.args.len cc.args.cap, .slice cc.thn.ad cc.thn.len cc.thn.cap, .slice cc.els.ad cc.els.len cc.els.cap] 70)).heap.size (wr.alloc (Obj.cells #[.int .i64 cc.k, .int .i64 cc.v, .int .i64 cc.f, .int .i64 cc.ix.k, .int .i64 cc.ix.n, .slice cc.ix.args.ad cc.ix.args.len cc.ix.args.cap, .int .i64 cc.ex.k, .int .i64 cc.ex.n, .slice cc.ex.args.ad cc.ex.args.len cc.ex.args.cap, .slice cc.args.ad cc.args.len cc.args.cap, .slice cc.thn.ad cc.thn.len cc.thn.cap, .slice cc.els.ad cc.els.len cc.els.cap] 70)) W → W.cell? ⟨w.heap.size, 0, none⟩ = some (.slice s.ad s.len s.cap) ∧ W.cell? ⟨w.heap.size, 1, none⟩ = some (.int .i64 (now : Nat)) ∧ W.cell? ⟨wr.heap.size, 10, none⟩ = some (.slice cc.thn.ad cc.thn.len cc.thn.cap) ∧ W.cell? ⟨wr.heap.size, 11, none⟩ = some (.slice cc.els.ad cc.els.len cc.els.cap) ∧ Below w.heap.size w W by
      intro W hW
      refine ⟨?_, ?_, ?_, ?_, hba.trans (hW.mono hba.size)⟩
      · rw [hW.cell (p := ⟨w.heap.size, 0, none⟩) (by simp; omega), hal.cell (p := ⟨w.heap.size, 0, none⟩) hlw]; exact a0
      · rw [hW.cell (p := ⟨w.heap.size, 1, none⟩) (by simp; omega), hal.cell (p := ⟨w.heap.size, 1, none⟩) hlw]; exact a1
      · rw [hW.cell (p := ⟨wr.heap.size, 10, none⟩) (by simp)]; go_simp
      · rw [hW.cell (p := ⟨wr.heap.size, 11, none⟩) (by simp)]; go_simp)
     have HCM := hide (fun (W : World) (hW : Below w.heap.size w W) => cmd_any j cc y W ((unhide HCX).later hW (Nat.le_refl _)) (hrd.later hW (Nat.le_refl _)))
     have HTH := hide (fun (W : World) (hW : Below w.heap.size w W) => (unhide IH) cc.thn y.2.2.1 W ((unhide HCX).later hW (Nat.le_refl _)) (hrd.2.2.1.laterC hW (Nat.le_refl _)))
     have HEL := hide (fun (W : World) (hW : Below w.heap.size w W) => (unhide IH) cc.els y.2.2.2 W ((unhide HCX).later hW (Nat.le_refl _)) (hrd.2.2.2.laterC hW (Nat.le_refl _)))
     generalize Pg.wcm p now x y = c1 at *
     generalize Pg.wcs p now x j y.2.2.1 = c2 at *
     generalize Pg.wcs p now x j y.2.2.2 = c3 at *
     generalize F y = fy at *
     have q0 := (hal.cell (p := ⟨w.heap.size, 0, none⟩) hlw).trans a0
     have q1 := (hal.cell (p := ⟨w.heap.size, 1, none⟩) hlw).trans a1
     clear hlies hrd hy hal hba
     have hi0 : (0 : Int) ≤ (i : Int) := by omega
     have hi1 : (i : Int) < (tl : Int) := by omega
     have had' : ta = some ⟨b, o, none⟩ := had
     subst had'
     unfold Pg.C.val at *
     go_wp2_with fail
     clear p0 p1 p2 p3 p4 p5 p6 p7 p8 p9 p10 p11
     refine ((unhide HCM) _ (unhide HBA)).mono ?_
     rintro r w1 ⟨hr1, hb1⟩
     obtain ⟨s0, s1, s2, s3, hB1⟩ := (unhide HA) w1 hb1
     have HB1 := hide hB1
     have H1 := hide hb1
     clear hb1 hB1 q0 q1 a0 a1
     by_cases e1 : c1 = 0
     · rw [Pg.ends_ok e1] at hr1
       subst hr1
       have E1 := hide e1
       clear e1
       go_wp2_with fail
       refine ((unhide HTH) _ (unhide HB1)).mono ?_
       rintro r w2 ⟨hr2, hb2⟩
       have h12 := (unhide H1).trans (hb2.mono (unhide H1).size)
       obtain ⟨t0, t1, t2, t3, hB2⟩ := (unhide HA) w2 h12
       have HB2 := hide hB2
       have H2 := hide h12
       clear hb2 hB2 h12 s0 s1 s2 s3
       by_cases e2 : c2 = 0
       · rw [Pg.ends_ok e2] at hr2
         subst hr2
         have E2 := hide e2
         clear e2
         go_wp2_with fail
         refine ((unhide HEL) _ (unhide HB2)).mono ?_
         rintro r w3 ⟨hr3, hb3⟩
         have h13 := (unhide H2).trans (hb3.mono (unhide H2).size)
         obtain ⟨u0, u1, u2, u3, hB3⟩ := (unhide HA) w3 h13
         have HB3 := hide hB3
         clear hb3 hB3 h13 t0 t1 t2 t3
         by_cases e3 : c3 = 0
         · rw [Pg.ends_ok e3] at hr3
           subst hr3
           have HN := hide (show R = Pg.first ((l.drop (i + 1)).map F) by rw [unhide HR, unhide HDR, if_pos (by rw [unhide HFy, unhide E1, unhide E2, e3]; rfl)])
           clear e3
           go_wp2_with fail
           exact ⟨⟨i + 1, by omega, by go_num, unhide HN, u0, u1, unhide HB3⟩, by simp [intOf]; omega⟩
         · rw [Pg.ends_no e3] at hr3
           subst hr3
           have HN := hide (show R = c3 by
            have hfy : fy = c3 := by rw [unhide HFy, unhide E1, unhide E2]; rfl
            rw [unhide HR, unhide HDR, if_neg (by rw [hfy]; exact e3), hfy])
           have HE := hide e3
           clear e3
           go_wp2_with fail
           exact ⟨rfl, by rw [unhide HN]; exact (Pg.ends_no (unhide HE)).symm, unhide HB3⟩
       · rw [Pg.ends_no e2] at hr2
         subst hr2
         have HN := hide (show R = c2 by
          have hfy : fy = c2 := by rw [unhide HFy, unhide E1]; show Pg.orW c2 c3 = c2; unfold Pg.orW; rw [if_neg e2]
          rw [unhide HR, unhide HDR, if_neg (by rw [hfy]; exact e2), hfy])
         have HE := hide e2
         clear e2
         go_wp2_with fail
         exact ⟨rfl, by rw [unhide HN]; exact (Pg.ends_no (unhide HE)).symm, unhide HB2⟩
     · rw [Pg.ends_no e1] at hr1
       subst hr1
       have HN := hide (show R = c1 by
        have hfy : fy = c1 := by rw [unhide HFy]; unfold Pg.orW; rw [if_neg e1]
        rw [unhide HR, unhide HDR, if_neg (by rw [hfy]; exact e1), hfy])
       have HE := hide e1
       clear e1
       go_wp2_with fail
       exact ⟨rfl, by rw [unhide HN]; exact (Pg.ends_no (unhide HE)).symm, unhide HB1⟩
   · have HN := hide (show R = 0 by
      rw [unhide HR, List.drop_of_length_le (by have := unhide HLN; omega)]; rfl)
     go_wp2_with fail
     go_end0
     exact ⟨by rw [unhide HN]; exact (Pg.ends_ok rfl).symm, unhide HBE⟩
end
end Go.Proofs.Ytpfogjplnodacaa
