/-
  XCmds, XFnL. By the verifier.
-/
import Derived.Test.YtpfogjplnodacaaGreatXCmd
set_option maxRecDepth 100000
set_option maxHeartbeats 6400000
namespace Go.Proofs.YtpfogjplnodacaaGreat
open Go.RowKit
set_option linter.unusedVariables false
structure Xr.Wk {α : Type} (w0 : World) (br : Nat) (fs : Pg.Sl) (sz : List Int) (bf : Nat) (gv : Option Nat) (vb : List Nat) (W : World) (ev : Value) (s : Xr.S) (f : Xr.F) (T : Xr.T) (g : α → Nat → Xr.S → Xr.F → Xr.T) (cn : α → Nat) (l : List α) (i b : Nat) (wr : World) : Prop where
 it : ∃ s2 f2 ev2, Xr.J w0 wr br fs s2 ev2 bf gv vb f2 ∧ Xr.Kp br ev ev2 (Xr.ws bf vb) W wr ∧ T = Xr.walk g cn (l.drop i) b s2 f2 ∧ Xr.Sh f2.vs sz ∧ (∀ k, Xr.Inv s k → Xr.Inv s2 k) ∧ f2.deep = f.deep ∧ s2.fuel ≤ s.fuel
section
variable {m n : Nat} {w0 : World} {br : Nat} {fs : Pg.Sl} {p : List (Pg.FT m n)}
theorem cmds_ok (d : Nat) (hpp : Xr.PP w0 fs p) (hcall : Xr.CallOk w0 br fs p d) : ∀ j, Xr.CmdsOk w0 br fs p d j := by
 intro j
 induction j with
 | zero =>
  intro now x hx t l a W s ev bf gv vb f h hrs hw hsh hd hinv ha
  cases l with
  | cons y r => exact Empty.elim y
  | nil =>
   have hlen := hrs.len
   have hl0 : t.len = 0 := by rw [hlen]; rfl
   have HP := hide (show Xr.Post w0 br fs x.sizes bf gv vb W ev s f (Xr.cmds (Xr.call p d) 0 [] a s f) (.returned (.tuple #[])) W from ⟨rfl, ev, h, Xr.Kp.refl _ _ _ _, hsh, fun k hk => hk, rfl, Nat.le_refl _⟩)
   generalize Xr.cmds (Xr.call p d) 0 [] a s f = T at *
   clear h hrs hw hsh hd hinv ha hlen hx
   obtain ⟨ta, tn, tc⟩ := t
   dsimp only at *
   subst hl0
   go_enter Tryz.func106, Tryz.ntmps106
   go_wp2_with fail
   go_loopw [12] (fun iv wr => iv = .int .i64 0 ∧ wr = W) (fun _ _ => 0)
   case atStart => exact ⟨rfl, rfl⟩
   case round =>
    obtain ⟨rfl, rfl⟩ := hrel
    go_wp2_with fail
    go_end0
    exact unhide HP
 | succ j ih =>
  intro now x hx t l a W s ev bf gv vb f h hrs hw hsh hd hinv ha
  have hlen := hrs.len
  have hfew := hrs.few
  rw [← hlen] at hfew
  have HXC := hide (fun c y a W s ev bf gv vb f h hen hre hw hwt hwe hsh hd hinv ha => xcmd_any d j hpp hcall ih now x hx c y a W s ev bf gv vb f h hen hre hw hwt hwe hsh hd hinv ha)
  have HWO := hide (Xr.wcs_ok hw)
  have HSA := hide (Pg.sumTo_le (Pg.cnt (j + 1)) l)
  have hcl : a + (l.map (Pg.cnt (j + 1))).sum ≤ 1000 := ha
  have HT := hide (show Xr.cmds (Xr.call p d) (j + 1) l a s f = Xr.walk (Xr.cmd (Xr.call p d) (Xr.cmds (Xr.call p d) j)) (Pg.cnt (j + 1)) l a s f from rfl)
  generalize Xr.cmds (Xr.call p d) (j + 1) l a s f = T at *
  generalize Xr.cmd (Xr.call p d) (Xr.cmds (Xr.call p d) j) = G at *
  have HW0 := hide (show Xr.Wk w0 br fs x.sizes bf gv vb W ev s f T G (Pg.cnt (j + 1)) l 0 (a + Pg.sumTo (Pg.cnt (j + 1)) l 0) W from ⟨s, f, ev, h, Xr.Kp.refl _ _ _ _, unhide HT, hsh, fun k hk => hk, rfl, Nat.le_refl _⟩)
  have HRS := hide hrs
  have HLN := hide hlen
  have HINV := hide hinv
  have hll : t.len ≤ 1000 := by
   have h1 : l.length ≤ (l.map (Pg.cnt (j + 1))).sum := by
    have : ∀ l : List (Pg.CT m (j + 1)), l.length ≤ (l.map (Pg.cnt (j + 1))).sum := by
     intro l
     induction l with
     | nil => exact Nat.le_refl _
     | cons y r ih =>
      have h2 : ((y :: r).map (Pg.cnt (j + 1))).sum = Pg.cnt (j + 1) y + (r.map (Pg.cnt (j + 1))).sum := rfl
      have h3 := Pg.cnt_succ y
      rw [h2, List.length_cons]
      omega
    exact this l
   omega
  generalize (l.map (Pg.cnt (j + 1))).sum = SC at *
  clear h hrs hw hsh hinv ha hlen hx ih hcall hpp HT
  obtain ⟨ta, tn, tc⟩ := t
  dsimp only at *
  go_enter Tryz.func106, Tryz.ntmps106
  go_wp2_with fail
  go_loopw [3, 12] (fun av iv wr => ∃ (i b : Nat), i ≤ tn ∧ iv = .int .i64 i ∧ av = .int .i64 ((b : Nat) : Int) ∧ b ≤ 1000 ∧ Hid (b = a + Pg.sumTo (Pg.cnt (j + 1)) l i) ∧ Xr.Wk w0 br fs x.sizes bf gv vb W ev s f T G (Pg.cnt (j + 1)) l i b wr) (fun _ iv _ => tn - (intOf iv).toNat)
  case atStart => exact ⟨0, a, Nat.zero_le _, rfl, rfl, by omega, by show _ = _; rfl, unhide HW0⟩
  case round =>
   obtain ⟨i, b, hi, rfl, rfl, hb1, hbb, hwk⟩ := hrel
   obtain ⟨s2, f2, ev2, hJ2, hk2, ht2, hsh2, hin2, hdp2, hfu2⟩ := hwk.it
   have HB := hide (unhide hbb)
   by_cases hlt : i < tn
   · have hlt2 : i < l.length := by have := unhide HLN; omega
     have hy := List.getElem?_eq_getElem hlt2
     obtain ⟨bb, o, cc, had, hbl, hlies, hrd⟩ := (unhide HRS).at_ i _ hy
     have hym := List.mem_of_getElem? hy
     have HDR := hide (show Xr.walk G (Pg.cnt (j + 1)) (l.drop i) b s2 f2 = if s2.ended then (s2, f2) else Xr.walk G (Pg.cnt (j + 1)) (l.drop (i + 1)) (b + Pg.cnt (j + 1) l[i]) (G l[i] b s2 f2).1 (G l[i] b s2 f2).2 by rw [List.drop_eq_getElem_cons hlt2]; rfl)
     have hsu := Pg.sumTo_succ (Pg.cnt (j + 1)) l i _ hy
     have hle := (unhide HSA) (i + 1) (by omega)
     generalize l[i] = y at *
     have hbs : b + Pg.cnt (j + 1) y ≤ 1000 := by have := unhide HB; omega
     have HBN := hide (show b + Pg.cnt (j + 1) y = a + Pg.sumTo (Pg.cnt (j + 1)) l (i + 1) by have := unhide HB; omega)
     obtain ⟨ww1, ww2, ww3⟩ := (unhide HWO) y hym
     have hll2 := hlies.later hJ2.m.bel (Nat.le_refl _) hbl
     obtain ⟨p0, p1, p2, p3, p4, p5, p6, p7, p8, p9, p10, p11⟩ := hll2
     have hal := (Below.refl wr.heap.size wr).alloc (Nat.le_refl _) (Obj.cells #[.int .i64 cc.k, .int .i64 cc.v, .int .i64 cc.f, .int .i64 cc.ix.k, .int .i64 cc.ix.n, .slice cc.ix.args.ad cc.ix.args.len cc.ix.args.cap, .int .i64 cc.ex.k, .int .i64 cc.ex.n, .slice cc.ex.args.ad cc.ex.args.len cc.ex.args.cap, .slice cc.args.ad cc.args.len cc.args.cap, .slice cc.thn.ad cc.thn.len cc.thn.cap, .slice cc.els.ad cc.els.len cc.els.cap] 107)
     have hJ3 := hJ2.below hal
     have hsf := hJ2.m.safe_new (Obj.cells #[.int .i64 cc.k, .int .i64 cc.v, .int .i64 cc.f, .int .i64 cc.ix.k, .int .i64 cc.ix.n, .slice cc.ix.args.ad cc.ix.args.len cc.ix.args.cap, .int .i64 cc.ex.k, .int .i64 cc.ex.n, .slice cc.ex.args.ad cc.ex.args.len cc.ex.args.cap, .slice cc.args.ad cc.args.len cc.args.cap, .slice cc.thn.ad cc.thn.len cc.thn.cap, .slice cc.els.ad cc.els.len cc.els.cap] 107)
     have hnw : wr.heap.size ∉ Xr.ws bf vb := fun e => by have := (hJ2.fm.hge _ (Xr.ws_own e)).2; omega
     have s10 : (wr.alloc (Obj.cells #[.int .i64 cc.k, .int .i64 cc.v, .int .i64 cc.f, .int .i64 cc.ix.k, .int .i64 cc.ix.n, .slice cc.ix.args.ad cc.ix.args.len cc.ix.args.cap, .int .i64 cc.ex.k, .int .i64 cc.ex.n, .slice cc.ex.args.ad cc.ex.args.len cc.ex.args.cap, .slice cc.args.ad cc.args.len cc.args.cap, .slice cc.thn.ad cc.thn.len cc.thn.cap, .slice cc.els.ad cc.els.len cc.els.cap] 107)).cell? ⟨wr.heap.size, 10, none⟩ = some (.slice cc.thn.ad cc.thn.len cc.thn.cap) := by go_simp
     have s11 : (wr.alloc (Obj.cells #[.int .i64 cc.k, .int .i64 cc.v, .int .i64 cc.f, .int .i64 cc.ix.k, .int .i64 cc.ix.n, .slice cc.ix.args.ad cc.ix.args.len cc.ix.args.cap, .int .i64 cc.ex.k, .int .i64 cc.ex.n, .slice cc.ex.args.ad cc.ex.args.len cc.ex.args.cap, .slice cc.args.ad cc.args.len cc.args.cap, .slice cc.thn.ad cc.thn.len cc.thn.cap, .slice cc.els.ad cc.els.len cc.els.cap] 107)).cell? ⟨wr.heap.size, 11, none⟩ = some (.slice cc.els.ad cc.els.len cc.els.cap) := by go_simp
     have k5 := hJ3.m.c5
     have HX3 := hide (fun (hen : s2.ended = false) => (unhide HXC) cc y b _ s2 ev2 bf gv vb f2 hJ3 hen hrd ww1 ww2 ww3 hsh2 (by rw [hdp2]; exact hd) (hin2 0 (unhide HINV)) hbs)
     unfold Pg.C.val at HX3
     have HTC := hide (fun (V : World) (hV : Below w0.heap.size w0 V) => count_any j cc.thn y.2.2.1 V (hrd.2.2.1.laterC hV (Nat.le_refl _)) (by have := Pg.cnt_succ y; omega))
     have HEC := hide (fun (V : World) (hV : Below w0.heap.size w0 V) => count_any j cc.els y.2.2.2 V (hrd.2.2.2.laterC hV (Nat.le_refl _)) (by have := Pg.cnt_succ y; omega))
     have hcs := Pg.cnt_succ y
     generalize Pg.cnt (j + 1) y = CY at *
     generalize Pg.cnts y.2.2.1 = C1 at *
     generalize Pg.cnts y.2.2.2 = C2 at *
     generalize hgt : G y b s2 f2 = T2 at *
     have HK2 := hide (hk2.trans (Xr.Kp.below (br := br) (ev := ev2) (ws := Xr.ws bf vb) hal))
     have HJ3 := hide hJ3
     have HSF := hide hsf
     have HNW := hide hnw
     have HT2 := hide ht2
     have HP2 := hide (And.intro hsh2 (And.intro hin2 (And.intro hdp2 hfu2)))
     have hi0 : (0 : Int) ≤ (i : Int) := by omega
     have hi1 : (i : Int) < (tn : Int) := by omega
     have had' : ta = some ⟨bb, o, none⟩ := had
     subst had'
     clear hwk hJ2 hk2 ht2 hsh2 hin2 hdp2 hfu2 hlies hrd hy hym hal hJ3 hsf hnw had hsu hle ww1 ww2 ww3 hbb hgt
     go_upto_region 3 with fail
     clear p0 p1 p2 p3 p4 p5 p6 p7 p8 p9
     cases hen : s2.ended
     case true =>
      have HTT := hide (show T = (s2, f2) by rw [unhide HT2, unhide HDR, hen]; rfl)
      rw [hen] at k5
      clear hen
      go_wp2_with fail
      try simp only [Exit.inBlock, Exit.then]
      refine bodyPost_ret (results_none rfl _ _ _) rfl ?_
      rw [unhide HTT]
      exact ⟨rfl, ev2, unhide HJ3, unhide HK2, (unhide HP2).1, (unhide HP2).2.1, (unhide HP2).2.2.1, (unhide HP2).2.2.2⟩
     case false =>
      have HTT := hide (show T = Xr.walk G (Pg.cnt (j + 1)) (l.drop (i + 1)) (b + CY) T2.1 T2.2 by rw [unhide HT2, unhide HDR, hen]; rfl)
      have HX4 := hide ((unhide HX3) hen)
      rw [hen] at k5
      clear hen
      go_wp2_with fail
      generalize wr.alloc (Obj.cells #[.int .i64 cc.k, .int .i64 cc.v, .int .i64 cc.f, .int .i64 cc.ix.k, .int .i64 cc.ix.n, .slice cc.ix.args.ad cc.ix.args.len cc.ix.args.cap, .int .i64 cc.ex.k, .int .i64 cc.ex.n, .slice cc.ex.args.ad cc.ex.args.len cc.ex.args.cap, .slice cc.args.ad cc.args.len cc.args.cap, .slice cc.thn.ad cc.thn.len cc.thn.cap, .slice cc.els.ad cc.els.len cc.els.cap] 107) = W3 at *
      refine (unhide HX4).mono ?_
      rintro r w4 ⟨rfl, ev4, hJ4, hk4, h5, h6, h7, h8⟩
      have hs4 := hk4.safe (unhide HSF) (unhide HNW)
      have HS4 := hide hs4
      have r10 := (Xr.cell_kept hs4.2 10).trans s10
      have r11 := (Xr.cell_kept hs4.2 11).trans s11
      have HJ4 := hide hJ4
      have HK4 := hide ((unhide HK2).trans hk4)
      have HR4 := hide (And.intro h5 (And.intro h6 (And.intro h7 h8)))
      have hbl4 : wr.heap.size < w4.heap.size := hs4.1.lt
      clear hJ4 hk4 h5 h6 h7 h8 hs4 s10 s11 k5 p10 p11
      have hw1 : IntKind.i64.wrap (1 + (C1 : Int)) = 1 + (C1 : Int) := Xr.wrap_id (by omega) (by omega)
      have hw2 : IntKind.i64.wrap (1 + (C1 : Int) + (C2 : Int)) = 1 + (C1 : Int) + (C2 : Int) := Xr.wrap_id (by omega) (by omega)
      have hw3 : IntKind.i64.wrap ((b : Int) + (1 + (C1 : Int) + (C2 : Int))) = (b : Int) + (1 + (C1 : Int) + (C2 : Int)) := Xr.wrap_id (by omega) (by omega)
      go_upto_region 5 with fail
      have HKM := hide (show ∀ V : World, Below w4.heap.size w4 V → (V.cell? ⟨wr.heap.size, 10, none⟩ = some (.slice cc.thn.ad cc.thn.len cc.thn.cap) ∧ V.cell? ⟨wr.heap.size, 11, none⟩ = some (.slice cc.els.ad cc.els.len cc.els.cap) ∧ Below w4.heap.size w4 V) from fun V hV => ⟨(hV.cell (p := ⟨wr.heap.size, 10, none⟩) hbl4).trans r10, (hV.cell (p := ⟨wr.heap.size, 11, none⟩) hbl4).trans r11, hV⟩)
      clear r10 r11
      go_region_held3 (fun V => V.cell? ⟨wr.heap.size, 10, none⟩ = some (.slice cc.thn.ad cc.thn.len cc.thn.cap) ∧ V.cell? ⟨wr.heap.size, 11, none⟩ = some (.slice cc.els.ad cc.els.len cc.els.cap) ∧ Below w4.heap.size w4 V)
       (first | assumption | exact (unhide HKM) _ ((Below.refl _ _).drew) | exact (unhide HKM) _ (Below.trans (And.right (And.right (by assumption))) ((unhide HB5).mono (Below.size (And.right (And.right (by assumption)))))))
       (first
        | (go_at_call_of 105 (Value.slice cc.thn.ad cc.thn.len cc.thn.cap); refine ((unhide HTC) _ ?_).mono ?_; exact (unhide HJ4).m.bel.trans (Below.mono (And.right (And.right (by assumption))) (unhide HJ4).m.bel.size); rintro r w5 ⟨rfl, hb5⟩; have HB5 := hide hb5; clear hb5)
        | (go_at_call_of 105 (Value.slice cc.els.ad cc.els.len cc.els.cap); refine ((unhide HEC) _ ?_).mono ?_; exact (unhide HJ4).m.bel.trans (Below.mono (And.right (And.right (by assumption))) (unhide HJ4).m.bel.size); rintro r w5 ⟨rfl, hb5⟩; have HB5 := hide hb5; clear hb5))
      all_goals
       go_wp2_with fail
       refine ⟨⟨i + 1, b + CY, by omega, by go_num, ?_, by omega, by show _ = _; exact unhide HBN, ?_⟩, by simp [intOf]; omega⟩
       · have e : (b : Int) + (1 + (C1 : Int) + (C2 : Int)) = ((b + CY : Nat) : Int) := by omega
         rw [e]
       · have hbV : Below w4.heap.size w4 w5 := And.right (And.right (by assumption))
         exact ⟨T2.1, T2.2, ev4, (unhide HJ4).below hbV, (unhide HK4).trans (Xr.Kp.below hbV), unhide HTT, (unhide HR4).1, fun k hk => (unhide HR4).2.1 k ((unhide HP2).2.1 k hk), (unhide HR4).2.2.1.trans (unhide HP2).2.2.1, Nat.le_trans (unhide HR4).2.2.2 (unhide HP2).2.2.2⟩
   · have HF := hide (show T = (s2, f2) by rw [ht2, List.drop_of_length_le (by have := unhide HLN; omega)]; rfl)
     have HP := hide (show Xr.Post w0 br fs x.sizes bf gv vb W ev s f (s2, f2) (.returned (.tuple #[])) wr from ⟨rfl, ev2, hJ2, hk2, hsh2, hin2, hdp2, hfu2⟩)
     clear hwk hJ2 hk2 ht2 hsh2 hin2 hdp2 hfu2 hbb
     go_wp2_with fail
     go_end0
     rw [unhide HF]
     exact unhide HP
end
end Go.Proofs.YtpfogjplnodacaaGreat
namespace Go.Proofs.YtpfogjplnodacaaGreat
open Go.RowKit
set_option linter.unusedVariables false
section
variable {m n : Nat} {w0 : World} {br : Nat} {fs : Pg.Sl} {p : List (Pg.FT m n)}
theorem Xr.PP.parts (h : Xr.PP w0 fs p) {q : Nat} {x : Pg.FT m n} (hx : p[q]? = some x) : Pg.whead (decide (q + 1 = p.length)) x.params x.sizes = 0 ∧ Pg.wcs p q x n x.cmds = 0 ∧ Pg.wres (decide (q + 1 = p.length)) m n x = 0 := by
 obtain ⟨h1, h2⟩ := Pg.orW_zero (show Pg.orW _ (Pg.orW _ _) = 0 from h.ok q x hx)
 obtain ⟨h3, h4⟩ := Pg.orW_zero h2
 exact ⟨h1, h3, h4⟩
theorem Xr.PP.first (h : Xr.PP w0 fs p) {q : Nat} {x : Pg.FT m n} (hx : p[q]? = some x) : Xr.firstOf p q + Pg.cnts x.cmds ≤ 40 := by
 have h1 := Pg.sumTo_succ (fun f : Pg.FT m n => Pg.cnts f.cmds) p q x hx
 have h2 := Pg.sumTo_le (fun f : Pg.FT m n => Pg.cnts f.cmds) p (q + 1) (List.getElem?_eq_some_iff.1 hx).1
 have h3 := h.cnt
 have h4 : Xr.firstOf p q = Pg.sumTo (fun f : Pg.FT m n => Pg.cnts f.cmds) p q := rfl
 omega
theorem function_any (d : Nat) (hpp : Xr.PP w0 fs p) (hcs : ∀ j, Xr.CmdsOk w0 br fs p d j) (q : Nat) (x : Pg.FT m n) (hx : p[q]? = some x) (W : World) (s : Xr.S) (ev : Value) (bf : Nat) (gv : Option Nat) (vb : List Nat) (f : Xr.F)
  (h : Xr.J w0 W br fs s ev bf gv vb f) (hsh : Xr.Sh f.vs x.sizes) (hd : f.deep + d = 5) (hinv : Xr.Inv s 0) :
  Calls Tryz.prog 68 #[.pointer (some ⟨br, 0, none⟩), .pointer (some ⟨bf, 0, none⟩), .int .i64 (q : Nat)] W (Xr.Post w0 br fs x.sizes bf gv vb W ev s f (Xr.fn p (Xr.call p d) q s f)) := by
 have hlen := hpp.rp.len
 have hcap := hpp.rp.cap
 have hfew := hpp.few
 have hql : q < p.length := (List.getElem?_eq_some_iff.1 hx).1
 have hfi := hpp.first hx
 have HT := hide (show Xr.fn p (Xr.call p d) q s f = Xr.cmds (Xr.call p d) n x.cmds (Xr.firstOf p q) s f by unfold Xr.fn; rw [hx])
 obtain ⟨bq, oq, fq, hadq, hbq, hlq, hrq⟩ := hpp.rp.at_ q x hx
 have HCS := hide (fun (V : World) (hJ : Xr.J w0 V br fs s ev bf gv vb f) => hcs n q x hx fq.cmds x.cmds (Xr.firstOf p q) V s ev bf gv vb f hJ hrq.cmds (hpp.parts hx).2.1 hsh hd hinv (by omega))
 have HLE := hide (Pg.sumTo_le (fun f : Pg.FT m n => Pg.cnts f.cmds) p)
 have hcn := hpp.cnt
 have HCT := hide (fun (i : Nat) (y : Pg.FT m n) (hy : p[i]? = some y) => Pg.sumTo_succ (fun f : Pg.FT m n => Pg.cnts f.cmds) p i y hy)
 have HFI := hide (show Xr.firstOf p q = Pg.sumTo (fun f : Pg.FT m n => Pg.cnts f.cmds) p q from rfl)
 have c0 := h.m.c0
 have HJ := hide h
 have HPP := hide hpp
 have HLQ := hide (And.intro hlq hbq)
 generalize Xr.fn p (Xr.call p d) q s f = T at *
 generalize Xr.cmds (Xr.call p d) n x.cmds (Xr.firstOf p q) s f = T2 at *
 generalize hff : Xr.firstOf p q = FQ at *
 generalize Pg.cnts x.cmds = CX at *
 generalize (p.map (fun f => Pg.cnts f.cmds)).sum = SC at *
 obtain ⟨fa, fl, fc⟩ := fs
 have hfa : fa = some ⟨bq, oq, none⟩ := hadq
 subst hfa
 have hlen2 : fl = p.length := hlen
 have hcap2 : fl ≤ fc := hcap
 have hl6 : fl ≤ 6 := by omega
 have HLN := hide hlen2
 have hqf : q < fl := by omega
 clear hlen hcap hfew hx hpp hlq hrq hcs h hsh hd hinv hadq hff hbq hlen2 hql
 dsimp only at *
 have hi9 : (0 : Int) ≤ (q : Int) := by omega
 have hi8 : (q : Int) ≤ (fl : Int) := by omega
 have hi7 : (q : Int) ≤ (fc : Int) := by omega
 have hi6 : (q : Int) < (fl : Int) := by omega
 go_enter Tryz.func68, Tryz.ntmps68
 go_upto_block 0 with fail
 go_cut [6] (fun nv V => nv = .int .i64 ((FQ : Nat) : Int) ∧ Below W.heap.size W V)
 case first =>
  go_wp2_with fail
  go_loopw [6, 16] (fun nv iv wr => ∃ (i k : Nat), i ≤ q ∧ iv = .int .i64 i ∧ nv = .int .i64 ((k : Nat) : Int) ∧ k ≤ 40 ∧ Hid (k = Pg.sumTo (fun f : Pg.FT m n => Pg.cnts f.cmds) p i) ∧ Below W.heap.size W wr) (fun _ iv _ => q - (intOf iv).toNat)
  case atStart => exact ⟨0, 0, Nat.zero_le _, rfl, rfl, by omega, by show _ = _; rfl, Below.refl _ _⟩
  case round =>
   obtain ⟨i, k, hi, rfl, rfl, hk, hkk, hbe⟩ := hrel
   have HK := hide (unhide hkk)
   have HBE := hide hbe
   clear hkk
   by_cases hlt : i < q
   · have hlt2 : i < p.length := by have := unhide HLN; omega
     have hy := List.getElem?_eq_getElem hlt2
     obtain ⟨b, o, g, had, hb, hlies, hrd⟩ := (unhide HPP).rp.at_ i _ hy
     cases had
     have hsu := (unhide HCT) i _ hy
     have hle := (unhide HLE) (i + 1) (by omega)
     generalize p[i] = y at *
     have hbw := (unhide HJ).m.bel.trans (hbe.mono (unhide HJ).m.bel.size)
     obtain ⟨p0, p1, p2, p3, p4, p5⟩ := hlies.later hbw (Nat.le_refl _) hb
     have hal := (Below.refl wr.heap.size wr).alloc (Nat.le_refl _) (Obj.cells #[.int .i64 g.params, .slice g.sizes.ad g.sizes.len g.sizes.cap, .slice g.cmds.ad g.cmds.len g.cmds.cap, .int .i64 g.res.k, .int .i64 g.res.n, .slice g.res.args.ad g.res.args.len g.res.args.cap] 78)
     have hkc : k + Pg.cnts y.cmds ≤ 40 := by have := unhide HK; omega
     have HKN := hide (show k + Pg.cnts y.cmds = Pg.sumTo (fun f : Pg.FT m n => Pg.cnts f.cmds) p (i + 1) by have := unhide HK; omega)
     have HCC := hide (count_any n g.cmds y.cmds _ (hrd.cmds.laterC (hbw.trans (hal.mono hbw.size)) (Nat.le_refl _)) (by omega))
     have HBA := hide (hbe.trans (hal.mono hbe.size))
     generalize Pg.cnts y.cmds = CY at *
     clear hlies hrd hy hsu hle hbw hal hbe hb
     have hi0 : (0 : Int) ≤ (i : Int) := by omega
     have hi1 : (i : Int) < (q : Int) := by omega
     go_wp2_with fail
     refine (unhide HCC).mono ?_
     rintro r w5 ⟨rfl, hb5⟩
     have HB5 := hide ((unhide HBA).trans (hb5.mono (unhide HBA).size))
     clear hb5
     go_wp2_with fail
     exact ⟨⟨i + 1, k + CY, by omega, by go_num, by go_num, hkc, by show _ = _; exact unhide HKN, unhide HB5⟩, by simp [intOf]; omega⟩
   · have hiq : i = q := by omega
     subst hiq
     have HKF := hide (show k = FQ by rw [unhide HK, unhide HFI])
     clear hbe
     go_wp2_with fail
     go_meet
     case rel => exact ⟨by rw [unhide HKF], unhide HBE⟩
 case rest =>
  rename World => W2
  obtain ⟨rfl, hb2⟩ := hcut
  have hJ2 := (unhide HJ).below hb2
  have l2 := ((unhide HLQ).1.later hJ2.m.bel (Nat.le_refl _) (unhide HLQ).2).c2
  have k0 := hJ2.m.c0
  have HC2 := hide ((unhide HCS) W2 hJ2)
  have HK2 := hide (Xr.Kp.below (br := br) (ev := ev) (ws := Xr.ws bf vb) hb2)
  have k0 : W2.cell? ⟨br, 0, none⟩ = some (.slice (some ⟨bq, oq, none⟩) fl fc) := k0
  clear hb2 hJ2 c0
  go_wp2_with fail
  refine (unhide HC2).mono ?_
  rintro r w3 ⟨rfl, ev3, hJ3, hk3, h5, h6, h7, h8⟩
  have HP := hide (show Xr.Post w0 br ⟨some ⟨bq, oq, none⟩, fl, fc⟩ x.sizes bf gv vb W ev s f T (.returned (.tuple #[])) w3 from by
   rw [unhide HT]
   exact ⟨rfl, ev3, hJ3, (unhide HK2).trans hk3, h5, h6, h7, h8⟩)
  clear hJ3 hk3 h5 h6 h7 h8
  go_wp2_with fail
  go_end0
  exact unhide HP
end
end Go.Proofs.YtpfogjplnodacaaGreat
namespace Go.Proofs.YtpfogjplnodacaaGreat
open Go.RowKit
set_option linter.unusedVariables false
theorem Xr.Kp.over {br : Nat} {e1 e2 e3 : Value} {ws ws' : List Nat} {W V V' : World} (h : Xr.Kp br e1 e2 ws W V) (k : Xr.Kp br e2 e3 ws' V V') (hw : ∀ q ∈ ws', W.heap.size ≤ q) : Xr.Kp br e1 e3 ws W V' := by
 refine ⟨k.os.trans h.os, k.tape.trans h.tape, k.output.trans h.output, Nat.le_trans h.size k.size, fun q h1 h2 h3 h4 => ?_, ?_⟩
 · have he : e2.ownBlock ≠ some q := by
    rcases h.evs with e | e
    · rw [e]; exact h3
    · intro hq; have := e q hq; omega
   exact (k.block q (Nat.lt_of_lt_of_le h1 h.size) h2 he (fun hq => by have := hw q hq; omega)).trans (h.block q h1 h2 h3 h4)
 · rcases k.evs with e | e
   · rcases h.evs with f | f
     · exact .inl (e.trans f)
     · exact .inr fun q hq => f q (by rw [← e]; exact hq)
   · exact .inr fun q hq => Nat.le_trans h.size (e q hq)
structure Xr.Ca (w0 W W1 : World) (br : Nat) (fs : Pg.Sl) (bf : Nat) (gv : Option Nat) (vb : List Nat) (f : Xr.F) (ev : Value) (V : World) (s : Xr.S) (ev2 av : Value) (zs : List Int) : Prop where
 j : Xr.J w0 V br fs s ev2 bf gv vb f
 k : Xr.Kp br ev ev2 (Xr.ws bf vb) W V
 b : V.heap[W.heap.size]? = W1.heap[W.heap.size]?
 sf : Xr.Sf V br ev2 W.heap.size
 row : V.ownsRow (W.heap.size + 1) 3 1 av zs.length (zs.map (Value.int .i64))
 asf : ∀ q, av.ownBlock = some q → Xr.Sf V br ev2 q ∧ q ∉ Xr.own bf gv vb
 h0 : w0.heap.size ≤ W.heap.size
section
variable {w0 W W1 : World} {br : Nat} {fs : Pg.Sl} {bf : Nat} {gv : Option Nat} {vb : List Nat} {f : Xr.F} {ev : Value} {V V' : World} {s s' : Xr.S} {ev2 ev3 av : Value} {zs : List Int}
theorem Xr.Ca.move (h : Xr.Ca w0 W W1 br fs bf gv vb f ev V s ev2 av zs) {ws' : List Nat} (hm : Xr.M w0 V' br fs s' ev3) (hk : Xr.Kp br ev2 ev3 ws' V V') (hw : ∀ q ∈ ws', W.heap.size < q ∧ q ∉ Xr.own bf gv vb ∧ av.ownBlock ≠ some q) : Xr.Ca w0 W W1 br fs bf gv vb f ev V' s' ev3 av zs := by
 have hbw : W.heap.size ∉ ws' := fun e => by have := (hw _ e).1; omega
 have hs := hk.safe h.sf hbw
 refine ⟨h.j.told hm hk (fun q hq => (hw q hq).2.1), h.k.over hk (fun q hq => by have := (hw q hq).1; omega), hs.2.trans h.b, hs.1, Xr.ow_kept h.row (fun q hq => ?_), fun q hq => ⟨?_, (h.asf q hq).2⟩, h.h0⟩
 · exact (hk.safe (h.asf q hq).1 (fun e => (hw q e).2.2 hq)).2
 · exact (hk.safe (h.asf q hq).1 (fun e => (hw q e).2.2 hq)).1
theorem Xr.Ca.tell (h : Xr.Ca w0 W W1 br fs bf gv vb f ev V s ev2 av zs) (hm : Xr.M w0 V' br fs s' ev3) (hk : Xr.Kp br ev2 ev3 [] V V') : Xr.Ca w0 W W1 br fs bf gv vb f ev V' s' ev3 av zs := h.move hm hk (fun q hq => by cases hq)
theorem Xr.Ca.below (h : Xr.Ca w0 W W1 br fs bf gv vb f ev V s ev2 av zs) (hb : Below V.heap.size V V') : Xr.Ca w0 W W1 br fs bf gv vb f ev V' s ev2 av zs := h.tell (h.j.m.below hb) (Xr.Kp.below hb)
theorem Xr.Ca.form (h : Xr.Ca w0 W W1 br fs bf gv vb f ev V s ev2 av zs) : ∃ a c, av = .slice a zs.length c := by
 rcases h.row.2 with ⟨h1, h2⟩ | ⟨g, cap, cur, hv, _⟩
 · exact ⟨none, 0, by rw [h2]; exact h1⟩
 · exact ⟨_, _, hv⟩
theorem Xr.Ca.lt (h : Xr.Ca w0 W W1 br fs bf gv vb f ev V s ev2 av zs) : W.heap.size < V.heap.size := h.sf.lt
theorem Xr.Ca.app (h : Xr.Ca w0 W W1 br fs bf gv vb f ev V s ev2 av zs) {V2 w6 : World} (hb : Below V.heap.size V V2) (hg : V2.grownBy w6 av.ownBlock) (z : Int) (g c : Nat) (ho : w6.ownsRow (W.heap.size + 1) 3 1 (.slice (some ⟨g, 0, none⟩) (zs.length + 1) c) (zs.length + 1) (zs.map (Value.int .i64) ++ [.int .i64 z])) (hat : av.ownBlock = some g ∨ g = V2.heap.size) :
  Xr.Ca w0 W W1 br fs bf gv vb f ev w6 s ev2 (.slice (some ⟨g, 0, none⟩) (zs.length + 1) c) (zs ++ [z]) := by
 have h2 := h.below hb
 have hgl : g < w6.heap.size := (ho.lt g rfl).2
 have hkp : ∀ q, q < V2.heap.size → av.ownBlock ≠ some q → w6.heap[q]? = V2.heap[q]? := fun q hq hne => hg.block q hq (fun e => hne e.symm)
 have hav : ∀ q, av.ownBlock = some q → W.heap.size + 1 ≤ q := fun q hq => (h.row.lt q hq).1
 have hbr := h2.j.m.lt
 have kbr : w6.heap[br]? = V2.heap[br]? := hkp br hbr (fun e => (h2.asf br e).1.br rfl)
 have kev : ∀ q, ev2.ownBlock = some q → w6.heap[q]? = V2.heap[q]? := fun q hq => hkp q (h2.j.m.ev_lt q hq).2 (fun e => (h2.asf q e).1.ev hq)
 have kow : ∀ q ∈ Xr.own bf gv vb, w6.heap[q]? = V2.heap[q]? := fun q hq => hkp q (h2.j.fm.hge q hq).2 (fun e => (h2.asf q e).2 hq)
 have hbl : Below w0.heap.size w0 w6 := ⟨hg.os.trans h2.j.m.bel.os, hg.tape.trans h2.j.m.bel.tape, hg.output.trans h2.j.m.bel.output, Nat.le_trans h2.j.m.bel.size hg.size, fun q hq => by
  have h5 := h2.j.m.bel.size
  refine (hkp q (by omega) (fun e => ?_)).trans (h2.j.m.bel.block q hq)
  have h3 := hav q e
  have := h.h0
  omega⟩
 refine ⟨⟨h2.j.m.kept hbl kbr kev, h2.j.fm.kept hg.size kow, h2.j.nbr, h2.j.nev⟩, ⟨hg.os.trans h2.k.os, hg.tape.trans h2.k.tape, hg.output.trans h2.k.output, Nat.le_trans h2.k.size hg.size, fun q h1 h3 h4 h5 => (hkp q (by have := h2.k.size; omega) (fun e => by have := hav q e; omega)).trans (h2.k.block q h1 h3 h4 h5), h2.k.evs⟩, (hkp _ h2.sf.lt (fun e => by have := hav _ e; omega)).trans h2.b, ⟨by have := h2.sf.lt; have := hg.size; omega, h2.sf.br, h2.sf.ev⟩, ?_, ?_, h.h0⟩
 · rw [List.length_append, List.map_append]
   exact ho
 · intro q hq
   cases hq
   show Xr.Sf w6 br ev2 g ∧ g ∉ Xr.own bf gv vb
   rcases hat with e | e
   · have := h2.asf g e
     exact ⟨⟨hgl, this.1.br, this.1.ev⟩, this.2⟩
   · refine ⟨⟨hgl, by omega, fun e2 => by have := (h2.j.m.ev_lt g e2).2; omega⟩, fun hin => by have := (h2.j.fm.hge g hin).2; omega⟩
structure Xr.Cg (w0 W W1 : World) (br : Nat) (fs : Pg.Sl) (bf : Nat) (gv : Option Nat) (vb : List Nat) (f : Xr.F) (ev : Value) (V : World) (s : Xr.S) (ev2 av : Value) (zs : List Int) (bg : Nat) (gg : Option Nat) (gb : List Nat) (g : Xr.F) : Prop where
 ca : Xr.Ca w0 W W1 br fs bf gv vb f ev V s ev2 av zs
 jg : Xr.J w0 V br fs s ev2 bg gg gb g
 ge : ∀ q ∈ Xr.own bg gg gb, W.heap.size < q ∧ q ∉ Xr.own bf gv vb ∧ av.ownBlock ≠ some q
variable {bg : Nat} {gg : Option Nat} {gb : List Nat} {g g' : Xr.F}
theorem Xr.Cg.act (h : Xr.Cg w0 W W1 br fs bf gv vb f ev V s ev2 av zs bg gg gb g) (hJ : Xr.J w0 V' br fs s' ev3 bg gg gb g') (hk : Xr.Kp br ev2 ev3 (Xr.ws bg gb) V V') : Xr.Cg w0 W W1 br fs bf gv vb f ev V' s' ev3 av zs bg gg gb g' :=
 ⟨h.ca.move hJ.m hk (fun q hq => h.ge q (Xr.ws_own hq)), hJ, h.ge⟩
theorem Xr.Cg.tell (h : Xr.Cg w0 W W1 br fs bf gv vb f ev V s ev2 av zs bg gg gb g) (hm : Xr.M w0 V' br fs s' ev3) (hk : Xr.Kp br ev2 ev3 [] V V') : Xr.Cg w0 W W1 br fs bf gv vb f ev V' s' ev3 av zs bg gg gb g :=
 ⟨h.ca.tell hm hk, h.jg.told hm hk (fun q hq => by cases hq), h.ge⟩
theorem Xr.Cg.below (h : Xr.Cg w0 W W1 br fs bf gv vb f ev V s ev2 av zs bg gg gb g) (hb : Below V.heap.size V V') : Xr.Cg w0 W W1 br fs bf gv vb f ev V' s ev2 av zs bg gg gb g := h.tell (h.ca.j.m.below hb) (Xr.Kp.below hb)
theorem Xr.Ca.made (h : Xr.Ca w0 W W1 br fs bf gv vb f ev V s ev2 av zs) (hb : Below V.heap.size V V') (hf : Xr.Fm w0 V' bg gg gb g) (hg : ∀ q ∈ Xr.own bg gg gb, V.heap.size ≤ q) : Xr.Cg w0 W W1 br fs bf gv vb f ev V' s ev2 av zs bg gg gb g := by
 have h2 := h.below hb
 refine ⟨h2, ⟨h2.j.m, hf, fun e => by have := hg _ e; have := h.j.m.lt; omega, fun q hq e => by have := hg _ e; have := (h.j.m.ev_lt q hq).2; omega⟩, fun q hq => ⟨by have := hg q hq; have := h.lt; omega, fun e => by have := hg q hq; have := (h.j.fm.hge q e).2; omega, fun e => by have := hg q hq; have := (h.asf q e).1.lt; omega⟩⟩
theorem Xr.Ca.cell (h : Xr.Ca w0 W W1 br fs bf gv vb f ev V s ev2 av zs) {i : Nat} {z : Int} (hz : zs[i]? = some z) : ∃ ga c, av = .slice (some ⟨ga, 0, none⟩) zs.length c ∧ V.cell? ⟨ga, i, none⟩ = some (.int .i64 z) := by
 obtain ⟨ga, c, hv, _, _⟩ := h.row.form (by have := (List.getElem?_eq_some_iff.1 hz).1; omega)
 have hr := h.row
 rw [hv] at hr
 have hc := hr.cells (g := ga) rfl i (.int .i64 z) (by rw [List.getElem?_map, hz]; rfl)
 rw [Xr.add_at] at hc
 exact ⟨ga, c, hv, hc⟩
end
end Go.Proofs.YtpfogjplnodacaaGreat
