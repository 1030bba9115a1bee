/-
  The contract of the runner's cmds, by that of call. By the verifier.
-/
import Derived.Test.YtcalcikclcmkaaaXCmd
set_option maxRecDepth 100000
set_option maxHeartbeats 6400000
namespace Go.Proofs.Ytcalcikclcmkaaa
open Go.RowKit
set_option linter.unusedVariables false
structure Xr.Wk {α : Type} (w0 : World) (br : Nat) (fs : Pg.Sl) (sz : List Int) (bf : Nat) (gv : Option Nat) (vb : List Nat) (W : World) (ev : Value) (s : Xr.S) (f : Xr.F) (T : Xr.T) (g : α → Nat → Xr.S → Xr.F → Xr.T) (cn : α → Nat) (l : List α) (i b : Nat) (wr : World) : Prop where
 it : ∃ s2 f2 ev2, Xr.J w0 wr br fs s2 ev2 bf gv vb f2 ∧ Xr.Kp br ev ev2 (Xr.ws bf vb) W wr ∧ T = Xr.walk g cn (l.drop i) b s2 f2 ∧ Xr.Sh f2.vs sz ∧ (∀ k, Xr.Inv s k → Xr.Inv s2 k) ∧ f2.deep = f.deep ∧ s2.fuel ≤ s.fuel
section
variable {m n : Nat} {w0 : World} {br : Nat} {fs : Pg.Sl} {p : List (Pg.FT m n)}
theorem cmds_ok (d : Nat) (hpp : Xr.PP w0 fs p) (hcall : Xr.CallOk w0 br fs p d) : ∀ j, Xr.CmdsOk w0 br fs p d j := by
 intro j
 induction j with
 | zero =>
  intro now x hx t l a W s ev bf gv vb f h hrs hw hsh hd hinv ha
  cases l with
  | cons y r => exact Empty.elim y
  | nil =>
   have hlen := hrs.len
   have hl0 : t.len = 0 := by rw [hlen]; rfl
   have HP := hide (show Xr.Post w0 br fs x.sizes bf gv vb W ev s f (Xr.cmds (Xr.call p d) 0 [] a s f) (.returned (.tuple #[])) W from ⟨rfl, ev, h, Xr.Kp.refl _ _ _ _, hsh, fun k hk => hk, rfl, Nat.le_refl _⟩)
   generalize Xr.cmds (Xr.call p d) 0 [] a s f = T at *
   clear h hrs hw hsh hd hinv ha hlen hx
   obtain ⟨ta, tn, tc⟩ := t
   dsimp only at *
   subst hl0
   go_enter Try.func95, Try.ntmps95
   go_wp2_with fail
   go_loopw [12] (fun iv wr => iv = .int .i64 0 ∧ wr = W) (fun _ _ => 0)
   case atStart => exact ⟨rfl, rfl⟩
   case round =>
    obtain ⟨rfl, rfl⟩ := hrel
    go_wp2_with fail
    go_end0
    exact unhide HP
 | succ j ih =>
  intro now x hx t l a W s ev bf gv vb f h hrs hw hsh hd hinv ha
  have hlen := hrs.len
  have hfew := hrs.few
  rw [← hlen] at hfew
  have HXC := hide (fun c y a W s ev bf gv vb f h hen hre hw hwt hwe hsh hd hinv ha => xcmd_any d j hpp hcall ih now x hx c y a W s ev bf gv vb f h hen hre hw hwt hwe hsh hd hinv ha)
  have HWO := hide (Xr.wcs_ok hw)
  have HSA := hide (Pg.sumTo_le (Pg.cnt (j + 1)) l)
  have hcl : a + (l.map (Pg.cnt (j + 1))).sum ≤ 1000 := ha
  have HT := hide (show Xr.cmds (Xr.call p d) (j + 1) l a s f = Xr.walk (Xr.cmd (Xr.call p d) (Xr.cmds (Xr.call p d) j)) (Pg.cnt (j + 1)) l a s f from rfl)
  generalize Xr.cmds (Xr.call p d) (j + 1) l a s f = T at *
  generalize Xr.cmd (Xr.call p d) (Xr.cmds (Xr.call p d) j) = G at *
  have HW0 := hide (show Xr.Wk w0 br fs x.sizes bf gv vb W ev s f T G (Pg.cnt (j + 1)) l 0 (a + Pg.sumTo (Pg.cnt (j + 1)) l 0) W from ⟨s, f, ev, h, Xr.Kp.refl _ _ _ _, unhide HT, hsh, fun k hk => hk, rfl, Nat.le_refl _⟩)
  have HRS := hide hrs
  have HLN := hide hlen
  have HINV := hide hinv
  have hll : t.len ≤ 1000 := by
   have h1 : l.length ≤ (l.map (Pg.cnt (j + 1))).sum := by
    have : ∀ l : List (Pg.CT m (j + 1)), l.length ≤ (l.map (Pg.cnt (j + 1))).sum := by
     intro l
     induction l with
     | nil => exact Nat.le_refl _
     | cons y r ih =>
      have h2 : ((y :: r).map (Pg.cnt (j + 1))).sum = Pg.cnt (j + 1) y + (r.map (Pg.cnt (j + 1))).sum := rfl
      have h3 := Pg.cnt_succ y
      rw [h2, List.length_cons]
      omega
    exact this l
   omega
  generalize (l.map (Pg.cnt (j + 1))).sum = SC at *
  clear h hrs hw hsh hinv ha hlen hx ih hcall hpp HT
  obtain ⟨ta, tn, tc⟩ := t
  dsimp only at *
  go_enter Try.func95, Try.ntmps95
  go_wp2_with fail
  go_loopw [3, 12] (fun av iv wr => ∃ (i b : Nat), i ≤ tn ∧ iv = .int .i64 i ∧ av = .int .i64 ((b : Nat) : Int) ∧ b ≤ 1000 ∧ Hid (b = a + Pg.sumTo (Pg.cnt (j + 1)) l i) ∧ Xr.Wk w0 br fs x.sizes bf gv vb W ev s f T G (Pg.cnt (j + 1)) l i b wr) (fun _ iv _ => tn - (intOf iv).toNat)
  case atStart => exact ⟨0, a, Nat.zero_le _, rfl, rfl, by omega, by show _ = _; rfl, unhide HW0⟩
  case round =>
   obtain ⟨i, b, hi, rfl, rfl, hb1, hbb, hwk⟩ := hrel
   obtain ⟨s2, f2, ev2, hJ2, hk2, ht2, hsh2, hin2, hdp2, hfu2⟩ := hwk.it
   have HB := hide (unhide hbb)
   by_cases hlt : i < tn
   · have hlt2 : i < l.length := by have := unhide HLN; omega
     have hy := List.getElem?_eq_getElem hlt2
     obtain ⟨bb, o, cc, had, hbl, hlies, hrd⟩ := (unhide HRS).at_ i _ hy
     have hym := List.mem_of_getElem? hy
     have HDR := hide (show Xr.walk G (Pg.cnt (j + 1)) (l.drop i) b s2 f2 = if s2.ended then (s2, f2) else Xr.walk G (Pg.cnt (j + 1)) (l.drop (i + 1)) (b + Pg.cnt (j + 1) l[i]) (G l[i] b s2 f2).1 (G l[i] b s2 f2).2 by rw [List.drop_eq_getElem_cons hlt2]; rfl)
     have hsu := Pg.sumTo_succ (Pg.cnt (j + 1)) l i _ hy
     have hle := (unhide HSA) (i + 1) (by omega)
     generalize l[i] = y at *
     have hbs : b + Pg.cnt (j + 1) y ≤ 1000 := by have := unhide HB; omega
     have HBN := hide (show b + Pg.cnt (j + 1) y = a + Pg.sumTo (Pg.cnt (j + 1)) l (i + 1) by have := unhide HB; omega)
     obtain ⟨ww1, ww2, ww3⟩ := (unhide HWO) y hym
     have hll2 := hlies.later hJ2.m.bel (Nat.le_refl _) hbl
     obtain ⟨p0, p1, p2, p3, p4, p5, p6, p7, p8, p9, p10, p11⟩ := hll2
     have hal := (Below.refl wr.heap.size wr).alloc (Nat.le_refl _) (Obj.cells #[.int .i64 cc.k, .int .i64 cc.v, .int .i64 cc.f, .int .i64 cc.ix.k, .int .i64 cc.ix.n, .slice cc.ix.args.ad cc.ix.args.len cc.ix.args.cap, .int .i64 cc.ex.k, .int .i64 cc.ex.n, .slice cc.ex.args.ad cc.ex.args.len cc.ex.args.cap, .slice cc.args.ad cc.args.len cc.args.cap, .slice cc.thn.ad cc.thn.len cc.thn.cap, .slice cc.els.ad cc.els.len cc.els.cap] 80)
     have hJ3 := hJ2.below hal
     have hsf := hJ2.m.safe_new (Obj.cells #[.int .i64 cc.k, .int .i64 cc.v, .int .i64 cc.f, .int .i64 cc.ix.k, .int .i64 cc.ix.n, .slice cc.ix.args.ad cc.ix.args.len cc.ix.args.cap, .int .i64 cc.ex.k, .int .i64 cc.ex.n, .slice cc.ex.args.ad cc.ex.args.len cc.ex.args.cap, .slice cc.args.ad cc.args.len cc.args.cap, .slice cc.thn.ad cc.thn.len cc.thn.cap, .slice cc.els.ad cc.els.len cc.els.cap] 80)
     have hnw : wr.heap.size ∉ Xr.ws bf vb := fun e => by have := (hJ2.fm.hge _ (Xr.ws_own e)).2; omega
     have s10 : (wr.alloc (Obj.cells #[.int .i64 cc.k, .int .i64 cc.v, .int .i64 cc.f, .int .i64 cc.ix.k, .int .i64 cc.ix.n, .slice cc.ix.args.ad cc.ix.args.len cc.ix.args.cap, .int .i64 cc.ex.k, .int .i64 cc.ex.n, .slice cc.ex.args.ad cc.ex.args.len cc.ex.args.cap, .slice cc.args.ad cc.args.len cc.args.cap, .slice cc.thn.ad cc.thn.len cc.thn.cap, .slice cc.els.ad cc.els.len cc.els.cap] 80)).cell? ⟨wr.heap.size, 10, none⟩ = some (.slice cc.thn.ad cc.thn.len cc.thn.cap) := by go_simp
     have s11 : (wr.alloc (Obj.cells #[.int .i64 cc.k, .int .i64 cc.v, .int .i64 cc.f, .int .i64 cc.ix.k, .int .i64 cc.ix.n, .slice cc.ix.args.ad cc.ix.args.len cc.ix.args.cap, .int .i64 cc.ex.k, .int .i64 cc.ex.n, .slice cc.ex.args.ad cc.ex.args.len cc.ex.args.cap, .slice cc.args.ad cc.args.len cc.args.cap, .slice cc.thn.ad cc.thn.len cc.thn.cap, .slice cc.els.ad cc.els.len cc.els.cap] 80)).cell? ⟨wr.heap.size, 11, none⟩ = some (.slice cc.els.ad cc.els.len cc.els.cap) := by go_simp
     have k5 := hJ3.m.c5
     have HX3 := hide (fun (hen : s2.ended = false) => (unhide HXC) cc y b _ s2 ev2 bf gv vb f2 hJ3 hen hrd ww1 ww2 ww3 hsh2 (by rw [hdp2]; exact hd) (hin2 0 (unhide HINV)) hbs)
     unfold Pg.C.val at HX3
     have HTC := hide (fun (V : World) (hV : Below w0.heap.size w0 V) => count_any j cc.thn y.2.2.1 V (hrd.2.2.1.laterC hV (Nat.le_refl _)) (by have := Pg.cnt_succ y; omega))
     have HEC := hide (fun (V : World) (hV : Below w0.heap.size w0 V) => count_any j cc.els y.2.2.2 V (hrd.2.2.2.laterC hV (Nat.le_refl _)) (by have := Pg.cnt_succ y; omega))
     have hcs := Pg.cnt_succ y
     generalize Pg.cnt (j + 1) y = CY at *
     generalize Pg.cnts y.2.2.1 = C1 at *
     generalize Pg.cnts y.2.2.2 = C2 at *
     generalize hgt : G y b s2 f2 = T2 at *
     have HK2 := hide (hk2.trans (Xr.Kp.below (br := br) (ev := ev2) (ws := Xr.ws bf vb) hal))
     have HJ3 := hide hJ3
     have HSF := hide hsf
     have HNW := hide hnw
     have HT2 := hide ht2
     have HP2 := hide (And.intro hsh2 (And.intro hin2 (And.intro hdp2 hfu2)))
     have hi0 : (0 : Int) ≤ (i : Int) := by omega
     have hi1 : (i : Int) < (tn : Int) := by omega
     have had' : ta = some ⟨bb, o, none⟩ := had
     subst had'
     clear hwk hJ2 hk2 ht2 hsh2 hin2 hdp2 hfu2 hlies hrd hy hym hal hJ3 hsf hnw had hsu hle ww1 ww2 ww3 hbb hgt
     go_upto_region 3 with fail
     clear p0 p1 p2 p3 p4 p5 p6 p7 p8 p9
     cases hen : s2.ended
     case true =>
      have HTT := hide (show T = (s2, f2) by rw [unhide HT2, unhide HDR, hen]; rfl)
      rw [hen] at k5
      clear hen
      go_wp2_with fail
      try simp only [Exit.inBlock, Exit.then]
      refine bodyPost_ret (results_none rfl _ _ _) rfl ?_
      rw [unhide HTT]
      exact ⟨rfl, ev2, unhide HJ3, unhide HK2, (unhide HP2).1, (unhide HP2).2.1, (unhide HP2).2.2.1, (unhide HP2).2.2.2⟩
     case false =>
      have HTT := hide (show T = Xr.walk G (Pg.cnt (j + 1)) (l.drop (i + 1)) (b + CY) T2.1 T2.2 by rw [unhide HT2, unhide HDR, hen]; rfl)
      have HX4 := hide ((unhide HX3) hen)
      rw [hen] at k5
      clear hen
      go_wp2_with fail
      generalize wr.alloc (Obj.cells #[.int .i64 cc.k, .int .i64 cc.v, .int .i64 cc.f, .int .i64 cc.ix.k, .int .i64 cc.ix.n, .slice cc.ix.args.ad cc.ix.args.len cc.ix.args.cap, .int .i64 cc.ex.k, .int .i64 cc.ex.n, .slice cc.ex.args.ad cc.ex.args.len cc.ex.args.cap, .slice cc.args.ad cc.args.len cc.args.cap, .slice cc.thn.ad cc.thn.len cc.thn.cap, .slice cc.els.ad cc.els.len cc.els.cap] 80) = W3 at *
      refine (unhide HX4).mono ?_
      rintro r w4 ⟨rfl, ev4, hJ4, hk4, h5, h6, h7, h8⟩
      have hs4 := hk4.safe (unhide HSF) (unhide HNW)
      have HS4 := hide hs4
      have r10 := (Xr.cell_kept hs4.2 10).trans s10
      have r11 := (Xr.cell_kept hs4.2 11).trans s11
      have HJ4 := hide hJ4
      have HK4 := hide ((unhide HK2).trans hk4)
      have HR4 := hide (And.intro h5 (And.intro h6 (And.intro h7 h8)))
      have hbl4 : wr.heap.size < w4.heap.size := hs4.1.lt
      clear hJ4 hk4 h5 h6 h7 h8 hs4 s10 s11 k5 p10 p11
      have hw1 : IntKind.i64.wrap (1 + (C1 : Int)) = 1 + (C1 : Int) := Xr.wrap_id (by omega) (by omega)
      have hw2 : IntKind.i64.wrap (1 + (C1 : Int) + (C2 : Int)) = 1 + (C1 : Int) + (C2 : Int) := Xr.wrap_id (by omega) (by omega)
      have hw3 : IntKind.i64.wrap ((b : Int) + (1 + (C1 : Int) + (C2 : Int))) = (b : Int) + (1 + (C1 : Int) + (C2 : Int)) := Xr.wrap_id (by omega) (by omega)
      go_upto_region 5 with fail
      have HKM := hide (show ∀ V : World, Below w4.heap.size w4 V → (V.cell? ⟨wr.heap.size, 10, none⟩ = some (.slice cc.thn.ad cc.thn.len cc.thn.cap) ∧ V.cell? ⟨wr.heap.size, 11, none⟩ = some (.slice cc.els.ad cc.els.len cc.els.cap) ∧ Below w4.heap.size w4 V) from fun V hV => ⟨(hV.cell (p := ⟨wr.heap.size, 10, none⟩) hbl4).trans r10, (hV.cell (p := ⟨wr.heap.size, 11, none⟩) hbl4).trans r11, hV⟩)
      clear r10 r11
      go_region_held3 (fun V => V.cell? ⟨wr.heap.size, 10, none⟩ = some (.slice cc.thn.ad cc.thn.len cc.thn.cap) ∧ V.cell? ⟨wr.heap.size, 11, none⟩ = some (.slice cc.els.ad cc.els.len cc.els.cap) ∧ Below w4.heap.size w4 V)
       (first | assumption | exact (unhide HKM) _ ((Below.refl _ _).drew) | exact (unhide HKM) _ (Below.trans (And.right (And.right (by assumption))) ((unhide HB5).mono (Below.size (And.right (And.right (by assumption)))))))
       (first
        | (go_at_call_of 94 (Value.slice cc.thn.ad cc.thn.len cc.thn.cap); refine ((unhide HTC) _ ?_).mono ?_; exact (unhide HJ4).m.bel.trans (Below.mono (And.right (And.right (by assumption))) (unhide HJ4).m.bel.size); rintro r w5 ⟨rfl, hb5⟩; have HB5 := hide hb5; clear hb5)
        | (go_at_call_of 94 (Value.slice cc.els.ad cc.els.len cc.els.cap); refine ((unhide HEC) _ ?_).mono ?_; exact (unhide HJ4).m.bel.trans (Below.mono (And.right (And.right (by assumption))) (unhide HJ4).m.bel.size); rintro r w5 ⟨rfl, hb5⟩; have HB5 := hide hb5; clear hb5))
      all_goals
       go_wp2_with fail
       refine ⟨⟨i + 1, b + CY, by omega, by go_num, ?_, by omega, by show _ = _; exact unhide HBN, ?_⟩, by simp [intOf]; omega⟩
       · have e : (b : Int) + (1 + (C1 : Int) + (C2 : Int)) = ((b + CY : Nat) : Int) := by omega
         rw [e]
       · have hbV : Below w4.heap.size w4 w5 := And.right (And.right (by assumption))
         exact ⟨T2.1, T2.2, ev4, (unhide HJ4).below hbV, (unhide HK4).trans (Xr.Kp.below hbV), unhide HTT, (unhide HR4).1, fun k hk => (unhide HR4).2.1 k ((unhide HP2).2.1 k hk), (unhide HR4).2.2.1.trans (unhide HP2).2.2.1, Nat.le_trans (unhide HR4).2.2.2 (unhide HP2).2.2.2⟩
   · have HF := hide (show T = (s2, f2) by rw [ht2, List.drop_of_length_le (by have := unhide HLN; omega)]; rfl)
     have HP := hide (show Xr.Post w0 br fs x.sizes bf gv vb W ev s f (s2, f2) (.returned (.tuple #[])) wr from ⟨rfl, ev2, hJ2, hk2, hsh2, hin2, hdp2, hfu2⟩)
     clear hwk hJ2 hk2 ht2 hsh2 hin2 hdp2 hfu2 hbb
     go_wp2_with fail
     go_end0
     rw [unhide HF]
     exact unhide HP
end
end Go.Proofs.Ytcalcikclcmkaaa
