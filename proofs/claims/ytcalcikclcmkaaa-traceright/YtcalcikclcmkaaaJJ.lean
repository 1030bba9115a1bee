/-
  YCall, YTa, YBd, YTr. By the verifier.
-/
import Derived.Test.YtcalcikclcmkaaaYDo
import Derived.Test.YtcalcikclcmkaaaJI
import Derived.Test.YtcalcikclcmkaaaJE
import Derived.Test.YtcalcikclcmkaaaYLe
import Derived.Test.YtcalcikclcmkaaaJB
import Derived.Deep.RegionLaw
import Derived.Test.YtcalcikclcmkaaaJG
set_option maxRecDepth 100000
set_option maxHeartbeats 6400000
namespace Go.Proofs.Ytcalcikclcmkaaa
open Go.RowKit
set_option linter.unusedVariables false
section
variable {m n : Nat} {w0 : World} {bm : Nat} {fs is : Pg.Sl} {inp : List Int} {fuel : Nat}
def Mc.c0 : Pg.C := ⟨0, 0, 0, ⟨0, 0, ⟨none, 0, 0⟩⟩, ⟨0, 0, ⟨none, 0, 0⟩⟩, ⟨none, 0, 0⟩, ⟨none, 0, 0⟩, ⟨none, 0, 0⟩⟩
theorem Mc.call_over {p : List (Pg.FT m n)} {k : Mc.K m} {ks : List (Mc.K m)} {s : Xr.S} {fr : Xr.F} {fn : Nat} {r : List (Mc.F m)} {q : Int} {l : List (Pg.XT m)} {L : List Ev} (hu : (Xr.argS fr l s).ended = true ∧ (Xr.argS fr l s).evs = L) {x : Pg.FT m n} (hq : p[q.toNat]? = some x) : (Mc.call p k ks s fr fn r q l).s.ended = true ∧ (Mc.call p k ks s fr fn r q l).s.evs = L := by
 unfold Mc.call
 split
 · exact (Xr.cl_same L).fin _ _ _ _ hu
 · rw [hq]
   exact (Xr.cl_same L).par _ _ _ _ _ ((Xr.cl_same L).call _ _ _ hu)
theorem Mc.J.keepRow {W W1 : World} {hs : List (Nat × Obj)} {tg : Nat → Nat} {bnd : Nat} {s : Xr.S} {ms : List (Mc.X m)} {rf ev : Value} (h1 : Mc.J w0 W1 hs tg bm fs is inp fuel bnd s ms rf ev) (hb : Below W1.heap.size W1 W) {ra : Option Addr} {k rc : Nat} {xs : List Value} (hr : W.ownsRow W1.heap.size 3 1 (.slice ra k rc) k xs) :
  ∃ hs' tg', Mc.J w0 W hs' tg' bm fs is inp fuel bnd s ms rf ev ∧ (∀ y ∈ hs, y ∈ hs') ∧ ∀ V : World, (∀ y ∈ hs', V.heap[y.1]? = some y.2) → V.ownsRow W1.heap.size 3 1 (.slice ra k rc) k xs := by
 cases hob : (Value.slice ra k rc).ownBlock with
 | none => exact ⟨hs, tg, h1.below hb, fun y hy => hy, fun V hV => Xr.ow_kept hr (fun q hq => by rw [hob] at hq; cases hq)⟩
 | some q =>
  have hlt := hr.lt q hob
  obtain ⟨o, ho⟩ : ∃ o, W.heap[q]? = some o := ⟨_, Array.getElem?_eq_getElem hlt.2⟩
  exact ⟨(q, o) :: hs, _, (h1.below hb).own q o ho (fun _ _ _ => trivial) W1 h1 hb hlt.1, fun y hy => List.mem_cons_of_mem _ hy, fun V hV => Xr.ow_kept hr (fun k hk => by rw [hob] at hk; cases hk; exact (hV (q, o) List.mem_cons_self).trans ho.symm)⟩
theorem Mc.ow_ints {W : World} {B k rc : Nat} {ra : Option Addr} {zs : List Int} (h : W.ownsRow B 3 1 (.slice ra k rc) k (zs.map fun z => Value.int .i64 z)) {i : Nat} {z : Int} (hz : zs[i]? = some z) : ∃ gl, ra = some ⟨gl, 0, none⟩ ∧ W.cell? ⟨gl, i, none⟩ = some (.int .i64 z) := by
 have hl : zs.length = k := by have := h.1; rw [List.length_map] at this; omega
 have hi : i < zs.length := (List.getElem?_eq_some_iff.1 hz).1
 rcases h.2 with ⟨_, h2⟩ | ⟨g, cap, cur, hv, _⟩
 · omega
 · have hv2 : ra = some ⟨g, 0, none⟩ := by cases hv; rfl
   subst hv2
   refine ⟨g, rfl, ?_⟩
   rw [h.cellAt i (by omega), List.getElem?_map, hz]
   rfl
theorem Mc.newF_len (a b : Nat) (sz : List Int) : (Xr.newF a b sz).vs.length = sz.length := List.length_map _
theorem Mc.at_nat {sz : List Int} {i : Nat} (h : i < sz.length) : ∃ z, Pg.at? sz (i : Nat) = some z := by
 unfold Pg.at?
 simp [h]
theorem Mc.gr_below {m : Nat} {w12 w13 V w14 : World} {bb bt : Nat} {tv' : Value} {ks : List (Mc.K m)} {kc : List Pg.C} (hb : Below w12.heap.size w12 w13) (hV : Below w13.heap.size w13 V) (hg : Mc.Gr w12.heap.size V w14 bb 4 (.slice (some ⟨bt, 0, none⟩) 1 1) tv' ks kc) (h1 : w12.heap.size ≤ bb) (h2 : w12.heap.size ≤ bt) : Below w12.heap.size w12 w14 :=
 ⟨hg.os.trans (hV.os.trans hb.os), hg.tape.trans (hV.tape.trans hb.tape), hg.output.trans (hV.output.trans hb.output), Nat.le_trans hb.size (Nat.le_trans hV.size hg.size), fun q hq => (hg.blk q (Nat.lt_of_lt_of_le hq (Nat.le_trans hb.size hV.size)) (by omega) (fun e => by have e2 : some bt = some q := e; cases e2; omega)).trans ((hV.block q (Nat.lt_of_lt_of_le hq hb.size)).trans (hb.block q hq))⟩
theorem Mc.own_one {V : World} {bt B : Nat} (hB : B ≤ bt) (h : V.heap[bt]? = some (Obj.cells #[.int .i64 0, .int .i64 0, .int .i64 0, .int .i64 0, .int .i64 0, .slice none 0 0, .int .i64 0, .int .i64 0, .slice none 0 0, .slice none 0 0, .slice none 0 0, .slice none 0 0, .int .i64 0, .bool false, .bool true] 82)) : V.ownsRow B 82 15 (.slice (some ⟨bt, 0, none⟩) 1 1) ([none] : List (Mc.K m)).length (Mc.tsC ([none] : List (Mc.K m)) [Mc.c0]) :=
 ⟨rfl, .inr ⟨bt, 1, _, rfl, hB, h, Nat.le_refl _, by unfold maxLen; omega, rfl, rfl⟩⟩
theorem Call_any {p : List (Pg.FT m n)} (hpp : Xr.PP w0 fs p) : Mc.CallOk w0 bm fs is inp fuel p := by
 intro hs tg bnd s x ms rf ev W j c a ks cc h he hl hms hks hk3 hrc hex hmd
 obtain ⟨px, hpx, hsh, hwm⟩ := hex
 obtain ⟨⟨hck, hcv, hcf⟩, ⟨hix, hexx, hag⟩, hth, hel⟩ : (cc.k = c.1.1 ∧ cc.v = c.1.2.1 ∧ cc.f = c.1.2.2) ∧ (Pg.RX w0 m cc.ix c.2.1.1 ∧ Pg.RX w0 m cc.ex c.2.1.2.1 ∧ Pg.RS w0 3 (Pg.LE w0) (Pg.RX w0 m) cc.args c.2.1.2.2) ∧ (Pg.RS w0 12 (Pg.LC w0) (Pg.RC w0 m j) cc.thn c.2.2.1 ∧ Pg.RS w0 12 (Pg.LC w0) (Pg.RC w0 m j) cc.els c.2.2.2) := hrc
 obtain ⟨ww1, ww2, ww3, ww4, ww5, ww6⟩ := Xr.wc_ok (show Pg.wc c.1.1 (Pg.at? px.sizes c.1.2.1) (Pg.may x.1.fn p.length c.1.2.2) _ (decide ((c.2.1.2.2.length : Int) = Pg.parOf p c.1.2.2)) _ _ (Pg.first (c.2.1.2.2.map (Pg.chkX px.sizes m))) = 0 from hwm)
 obtain ⟨hmy, hpa⟩ := ww3 hk3
 have hm : 0 ≤ c.1.2.2 ∧ c.1.2.2 ≤ (x.1.fn : Int) ∧ c.1.2.2 < (p.length : Int) - 1 := by unfold Pg.may at hmy; exact of_decide_eq_true hmy
 obtain ⟨q, hq⟩ : ∃ q : Nat, c.1.2.2 = q := ⟨c.1.2.2.toNat, by omega⟩
 have hql : q < p.length := by omega
 obtain ⟨xq, hxq⟩ : ∃ xq, p[q]? = some xq := ⟨_, List.getElem?_eq_getElem hql⟩
 have hfew := hpp.few
 have hcnt := hpp.cnt
 obtain ⟨hwh, hwc, hwr⟩ := hpp.parts hxq
 obtain ⟨hd0, hd1, hd2, hd3⟩ := Xr.head_ok hwh
 have halen : cc.args.len = c.2.1.2.2.length := hag.len
 have hpar : (c.2.1.2.2.length : Int) = xq.params := by
  have h1 : (c.2.1.2.2.length : Int) = Pg.parOf p c.1.2.2 := of_decide_eq_true hpa
  have h2 : Pg.parOf p c.1.2.2 = xq.params := by unfold Pg.parOf; rw [hq, Int.toNat_natCast, hxq]; rfl
  omega
 have hargs : ∀ y ∈ c.2.1.2.2, Pg.chkX px.sizes m y = 0 := fun y hy => Pg.first_zero ww6 _ (List.mem_map_of_mem hy)
 obtain ⟨qa, ql, qc⟩ := fs
 have hrp : Pg.RP w0 m n ⟨qa, ql, qc⟩ p := hpp.rp
 obtain ⟨b, o, ff, hqa, hqlt, hrf, hlf⟩ := Mc.fn_at hrp hxq
 subst hqa
 have hql2 : ql ≤ 1000 := by have h5 : ql = p.length := hrp.len; omega
 have hfirst : Xr.firstOf p q + Pg.cnts xq.cmds ≤ 500 := by
  have h1 := Pg.sumTo_succ (fun x : Pg.FT m n => Pg.cnts x.cmds) p q xq hxq
  have h2 := Pg.sumTo_le (fun x : Pg.FT m n => Pg.cnts x.cmds) p (q + 1) (by omega)
  unfold Xr.firstOf
  omega
 obtain ⟨g, gc, rfl⟩ := h.rfForm
 obtain ⟨⟨fr, fn, kss⟩, z0⟩ := x
 dsimp only at *
 subst hks
 rw [hq]
 clear ww1 ww2 ww3 ww4 ww5 ww6 hmy hpa hm hwh hwc hwr hix hexx hth hel hck hcv
 refine calls_of_wp Try.func78 rfl ?_
 rw [show Try.f78.ntmps - (#[.pointer (some ⟨bm, 0, none⟩), cc.val] : Array Value).size = 118 by rw [Try.ntmps78]; rfl]
 obtain ⟨T0, hT0⟩ : ∃ T0, T0 = #[.pointer (some ⟨bm, 0, none⟩), cc.val] ++ Array.replicate 118 undef := ⟨_, rfl⟩
 have hT : T0.size = 120 := by rw [hT0, Array.size_append, Array.size_replicate]; rfl
 have s0 : T0[0]? = some (.pointer (some ⟨bm, 0, none⟩)) := by rw [hT0]; simp
 have s1 : T0[1]? = some (.agg #[.int .i64 cc.k, .int .i64 cc.v, .int .i64 cc.f, .int .i64 cc.ix.k, .int .i64 cc.ix.n, .slice cc.ix.args.ad cc.ix.args.len cc.ix.args.cap, .int .i64 cc.ex.k, .int .i64 cc.ex.n, .slice cc.ex.args.ad cc.ex.args.len cc.ex.args.cap, .slice cc.args.ad cc.args.len cc.args.cap, .slice cc.thn.ad cc.thn.len cc.thn.cap, .slice cc.els.ad cc.els.len cc.els.cap]) := by rw [hT0]; simp [Pg.C.val]
 rw [← hT0]
 clear hT0
 refine wp_seq ?_
 refine Fq.at_ Try.f78 0 (by kernel_rfl) ?_
 refine ml_r0 hT s1 (fun U1 ⟨k1, u3⟩ => ?_)
 have z1 := k1.size.trans hT
 have u0 := (k1.at_ 0 (by omega)).trans s0
 have hj1 := h.box1 (Obj.cells #[.int .i64 cc.k, .int .i64 cc.v, .int .i64 cc.f, .int .i64 cc.ix.k, .int .i64 cc.ix.n, .slice cc.ix.args.ad cc.ix.args.len cc.ix.args.cap, .int .i64 cc.ex.k, .int .i64 cc.ex.n, .slice cc.ex.args.ad cc.ex.args.len cc.ex.args.cap, .slice cc.args.ad cc.args.len cc.args.cap, .slice cc.thn.ad cc.thn.len cc.thn.cap, .slice cc.els.ad cc.els.len cc.els.cap] 80)
 generalize hb3 : W.heap.size = b3 at *
 generalize hw1 : W.alloc (Obj.cells #[.int .i64 cc.k, .int .i64 cc.v, .int .i64 cc.f, .int .i64 cc.ix.k, .int .i64 cc.ix.n, .slice cc.ix.args.ad cc.ix.args.len cc.ix.args.cap, .int .i64 cc.ex.k, .int .i64 cc.ex.n, .slice cc.ex.args.ad cc.ex.args.len cc.ex.args.cap, .slice cc.args.ad cc.args.len cc.args.cap, .slice cc.thn.ad cc.thn.len cc.thn.cap, .slice cc.els.ad cc.els.len cc.els.cap] 80) = w1 at *
 clear hw1 h
 refine Fq.ok ?_
 refine wp_seq ?_
 refine Fq.at_ Try.f78 1 (by kernel_rfl) ?_
 refine ml_r1 z1 (fun U2 ⟨k2, u4⟩ => ?_)
 refine Fq.ok ?_
 refine wp_seq (wp_seq ?_)
 refine Fq.at_ Try.f78 2 (by kernel_rfl) ?_
 refine ml_r2 (k2.size.trans z1) (fun U3 ⟨k3, u5⟩ => ?_)
 refine Fq.ok ?_
 refine wp_block ?_
 refine wp_loop_ghost (fun d aa v => ∃ (U' : Array Value) (i : Nat) (ra : Option Addr) (rc : Nat) (zs : List Int), aa = ⟨U', []⟩ ∧ i ≤ c.2.1.2.2.length ∧ d = c.2.1.2.2.length - i ∧ U'.size = 120 ∧ U'[0]? = some (.pointer (some ⟨bm, 0, none⟩)) ∧ U'[3]? = some (.pointer (some ⟨b3, 0, none⟩)) ∧ U'[4]? = some (.slice ra i rc) ∧ U'[5]? = some (.int .i64 (i : Nat)) ∧ zs.length = i ∧ Below w1.heap.size w1 v ∧ v.ownsRow w1.heap.size 3 1 (.slice ra i rc) i (zs.map fun z => Value.int .i64 z) ∧ Xr.argS fr c.2.1.2.2 s = Xr.argS fr (c.2.1.2.2.drop i) s ∧ Xr.argV fr c.2.1.2.2 s = zs ++ Xr.argV fr (c.2.1.2.2.drop i) s) c.2.1.2.2.length
  ⟨U3, 0, none, 0, [], rfl, Nat.zero_le _, rfl, k3.size.trans (k2.size.trans z1), (k3.at_ 0 (by omega)).trans ((k2.at_ 0 (by omega)).trans u0), (k3.at_ 3 (by omega)).trans ((k2.at_ 3 (by omega)).trans u3), (k3.at_ 4 (by omega)).trans u4, u5, rfl, Below.refl _ _, ⟨rfl, .inl ⟨rfl, rfl⟩⟩, rfl, rfl⟩ ?_
 clear k1 k2 k3 u0 u3 u4 u5 z1 hT s0 s1
 rintro d aa v ⟨Ua, i, ra, rc, zs, rfl, hi, rfl, za, a0, a3, a4, a5, hzl, hbv, hrow, hS, hV⟩
 have hjv := hj1.below hbv
 have c39 : v.cell? ⟨b3, 9, none⟩ = some (.slice cc.args.ad cc.args.len cc.args.cap) := (cell_of_row v b3 9 _ _ _ (hjv.kp _ List.mem_cons_self).1).trans rfl
 have hna : cc.args.len ≤ 35184372088832 := by omega
 refine wp_seq (wp_seq ?_)
 refine Fq.at_ Try.f78 3 (by kernel_rfl) ?_
 refine ml_r3 za a3 a5 c39 hna rfl (fun Ub ⟨kb, h16⟩ => ?_)
 have zb := kb.size.trans za
 have b0 := (kb.at_ 0 (by omega)).trans a0
 have b3' := (kb.at_ 3 (by omega)).trans a3
 have b4 := (kb.at_ 4 (by omega)).trans a4
 have b5 := (kb.at_ 5 (by omega)).trans a5
 refine Fq.ok ?_
 by_cases hlt : i < c.2.1.2.2.length
 · refine Fq.cond_true (h16.trans (by rw [decide_eq_true (by omega)])) ?_
   refine Fq.skip (Fq.ok ?_)
   have hy := List.getElem?_eq_getElem hlt
   have hdr : c.2.1.2.2.drop i = c.2.1.2.2[i] :: c.2.1.2.2.drop (i + 1) := List.drop_eq_getElem_cons hlt
   have hmem : c.2.1.2.2[i] ∈ c.2.1.2.2 := List.getElem_mem hlt
   generalize hyd : c.2.1.2.2[i] = y at *
   obtain ⟨b2, o2, e, had, hb2, hle, hre⟩ := hag.at_ i y hy
   have hlev := hle.later (hjv.bel) (Nat.le_refl _) hb2
   rw [had] at c39
   have hokv : Pg.okV fr.vs m y := hsh.okX hre (hargs y hmem)
   refine wp_seq (wp_block ?_)
   refine wp_seq ?_
   refine Fq.at_ Try.f78 5 (by kernel_rfl) ?_
   refine ml_r5 zb b0 b3' b5 c39 (by omega) hna hlev.c0 hlev.c1 hlev.c2 (Value_any v hjv (by omega) (by omega) m e y hre hokv) (fun Uc w2 ⟨kc, c6, c7, hv1, hv2⟩ => ?_)
   have zc := kc.size.trans zb
   refine Fq.ok ?_
   refine wp_seq (wp_seq ?_)
   refine Fq.at_ Try.f78 6 (by kernel_rfl) ?_
   refine ml_r6 zc c7 (fun Ud ⟨kd, h30⟩ => ?_)
   have zd := kd.size.trans zc
   refine Fq.ok ?_
   by_cases hhow : (Pg.val fr.vs m y).2 = 0
   · refine Fq.cond_false (h30.trans (by rw [decide_eq_true hhow]; rfl)) ?_
     refine Fq.skip (Fq.ok ?_)
     have hb2v := hv1 hhow
     obtain ⟨hvS, hvV⟩ := Mc.val_ok (y := y) he hhow
     refine Fq.at_ Try.f78 7 (by kernel_rfl) ?_
     refine ml_r7 zd ((kd.at_ 4 (by omega)).trans ((kc.at_ 4 (by omega)).trans b4)) ((kd.at_ 5 (by omega)).trans ((kc.at_ 5 (by omega)).trans b5)) ((kd.at_ 6 (by omega)).trans c6) _ (Pg.ow_below hrow hb2v) (Nat.le_trans hbv.size hb2v.size) (by omega) (fun Ue w3 ⟨ke, e5, ⟨gA, cA, e4, hoA⟩, hbA⟩ => ?_)
     have ze := ke.size.trans zd
     refine Fq.blN (Fq.ok ?_)
     refine Fq.at_ Try.f78 4 (by kernel_rfl) ?_
     refine ml_r4 ze e5 (by omega) (fun Uf ⟨kf, f5⟩ => ?_)
     refine ⟨c.2.1.2.2.length - (i + 1), by omega, Uf, i + 1, some ⟨gA, 0, none⟩, cA, zs ++ [(Pg.val fr.vs m y).1], rfl, by omega, rfl, kf.size.trans ze, (kf.at_ 0 (by omega)).trans ((ke.at_ 0 (by omega)).trans ((kd.at_ 0 (by omega)).trans ((kc.at_ 0 (by omega)).trans b0))), (kf.at_ 3 (by omega)).trans ((ke.at_ 3 (by omega)).trans ((kd.at_ 3 (by omega)).trans ((kc.at_ 3 (by omega)).trans b3'))), (kf.at_ 4 (by omega)).trans e4, f5, by rw [List.length_append, hzl]; rfl, (hbv.trans (hb2v.mono hbv.size)).trans hbA, ?_, ?_, ?_⟩
     · rw [List.map_append]
       exact hoA
     · rw [hS, hdr]
       show Xr.argS fr (c.2.1.2.2.drop (i + 1)) (Xr.valS s fr y) = _
       rw [hvS]
     · rw [hV, hdr]
       show zs ++ (Xr.valV s fr y :: Xr.argV fr (c.2.1.2.2.drop (i + 1)) (Xr.valS s fr y)) = _
       rw [hvS, hvV, List.append_assoc]
       rfl
   · refine Fq.cond_true (h30.trans (by rw [decide_eq_false hhow]; rfl)) ?_
     obtain ⟨ev', ho⟩ := hv2 hhow
     refine wp_ret ?_
     repeat (first | with_reducible refine Fq.thR ?_ | with_reducible refine Fq.blR ?_)
     refine bodyPost_ret (results_none rfl _ _ _) rfl ⟨rfl, ?_⟩
     have hu : (Xr.argS fr c.2.1.2.2 s).ended = true ∧ (Xr.argS fr c.2.1.2.2 s).evs = s.evs ++ [⟨7, fr.num, fr.at_, 0, 0, (Pg.val fr.vs m y).2⟩] := by
      rw [hS, hdr]
      exact (Xr.cl_same _).arg fr (c.2.1.2.2.drop (i + 1)) (Xr.valS s fr y) (Mc.val_no he hhow)
     have h5 := Mc.call_over (p := p) (k := some ⟨j, c, a⟩) (ks := ks) (fn := fn) (r := ms.map Prod.fst) (q := (q : Nat)) hu (x := xq) (by rw [Int.toNat_natCast]; exact hxq)
     exact Mc.Post.over ho h5.1 h5.2
 · have hie : i = c.2.1.2.2.length := by omega
   refine Fq.cond_false (h16.trans (by rw [decide_eq_false (by omega)])) ?_
   refine wp_exit (Fq.thX (Fq.thX (Fq.blX (Fq.ok ?_))))
   rw [hie, List.drop_length] at hS hV
   have hS2 : Xr.argS fr c.2.1.2.2 s = s := hS
   have hV2 : Xr.argV fr c.2.1.2.2 s = zs := by rw [hV]; exact List.append_nil zs
   clear hS hV
   obtain ⟨hs2, tg2, hj2, hsub, hrow2⟩ := hj1.keepRow hbv hrow
   have hsub0 : ∀ y ∈ hs, y ∈ hs2 := fun y hy => hsub y (List.mem_cons_of_mem _ hy)
   have hm3 : (b3, (Obj.cells #[.int .i64 cc.k, .int .i64 cc.v, .int .i64 cc.f, .int .i64 cc.ix.k, .int .i64 cc.ix.n, .slice cc.ix.args.ad cc.ix.args.len cc.ix.args.cap, .int .i64 cc.ex.k, .int .i64 cc.ex.n, .slice cc.ex.args.ad cc.ex.args.len cc.ex.args.cap, .slice cc.args.ad cc.args.len cc.args.cap, .slice cc.thn.ad cc.thn.len cc.thn.cap, .slice cc.els.ad cc.els.len cc.els.cap] 80)) ∈ hs2 := hsub _ List.mem_cons_self
   have hzp : (zs.length : Int) = xq.params := by omega
   rw [← hzl] at b4 hrow2
   clear hrow hj1 hjv hbv c39 hi hlt hie a0 a3 a4 a5 h16 b5 hag halen hargs
   clear kb za
   refine wp_seq ?_
   refine Fq.at_ Try.f78 8 (by kernel_rfl) ?_
   refine ml_r8 zb b0 (Top_any bm g ms.length gc v hj2.box.c6 (by omega)) (fun V hV => (hj2.below hV).top 2 _ rfl) (fun Uc w2 ⟨kc, c8, hb2⟩ => ?_)
   have zc := kc.size.trans zb
   have c0 := (kc.at_ 0 (by omega)).trans b0
   have c3 := (kc.at_ 3 (by omega)).trans b3'
   have c4 := (kc.at_ 4 (by omega)).trans b4
   have hj3 := hj2.below hb2
   clear hj2 hb2
   refine Fq.ok ?_
   refine wp_seq (wp_seq ?_)
   refine Fq.at_ Try.f78 9 (by kernel_rfl) ?_
   refine ml_r9 zc c0 hj3.box.c6 (by simp; omega) rfl (fun Ud ⟨kd, h45⟩ => ?_)
   have zd := kd.size.trans zc
   have d0 := (kd.at_ 0 (by omega)).trans c0
   have d3 := (kd.at_ 3 (by omega)).trans c3
   have d4 := (kd.at_ 4 (by omega)).trans c4
   have d8 := (kd.at_ 8 (by omega)).trans c8
   refine Fq.ok ?_
   by_cases hm5 : ms.length = 5
   · refine Fq.cond_true (h45.trans (by rw [decide_eq_true (by omega)])) ?_
     refine wp_seq ?_
     refine Fq.at_ Try.f78 10 (by kernel_rfl) ?_
     refine ml_r10 zd d0 d8 (End_any w2 hj3 (by omega) (by omega) _ 4) (fun Ue w3 ⟨_, ev', ho⟩ => ?_)
     refine Fq.ok (wp_ret ?_)
     repeat (first | with_reducible refine Fq.thR ?_ | with_reducible refine Fq.blR ?_)
     refine bodyPost_ret (results_none rfl _ _ _) rfl ⟨rfl, ?_⟩
     have hcl : Mc.call p (some ⟨j, c, a⟩) ks s fr fn (ms.map Prod.fst) (q : Nat) c.2.1.2.2 = ⟨Xr.fin s fr fr.at_ 4, []⟩ := by
      unfold Mc.call
      rw [if_pos (by rw [List.length_map]; exact hm5), hS2]
     rw [hcl]
     exact Mc.Post.over ho rfl (Mc.fin_is he fr fr.at_ 4).2
   refine Fq.cond_false (h45.trans (by rw [decide_eq_false (by omega)])) ?_
   refine Fq.skip (Fq.ok ?_)
   have hcl : Mc.call p (some ⟨j, c, a⟩) ks s fr fn (ms.map Prod.fst) (q : Nat) c.2.1.2.2 = ⟨Xr.parS (Xr.newF (s.made + 1) (fr.deep + 1) xq.sizes) fr.at_ 0 zs { s with made := s.made + 1, evs := s.evs ++ [⟨5, fr.num, fr.at_, (q : Nat), 0, ((s.made + 1 : Nat) : Int)⟩] }, ⟨Xr.parF 0 zs (Xr.newF (s.made + 1) (fr.deep + 1) xq.sizes), q, Mc.push n xq.cmds (Xr.firstOf p q) ++ [none]⟩ :: ⟨fr, fn, some ⟨j, c, a⟩ :: ks⟩ :: ms.map Prod.fst⟩ := by
    unfold Mc.call
    rw [if_neg (by rw [List.length_map]; exact hm5), Int.toNat_natCast, hxq]
    dsimp only
    rw [hS2, hV2, Xr.tell_no (by exact he)]
    rfl
   rw [hcl]
   clear hcl hS2 hV2 h45
   have hlv := hlf w2 hj3.bel
   have c32 : w2.cell? ⟨b3, 2, none⟩ = some (.int .i64 (q : Nat)) := by rw [cell_of_row w2 b3 2 _ _ _ (hj3.kp _ hm3).1]; show some (Value.int .i64 cc.f) = _; rw [hcf, hq]
   refine wp_seq ?_
   refine Fq.at_ Try.f78 11 (by kernel_rfl) ?_
   refine ml_r11 zd d0 d3 hj3.box.c0 c32 hqlt hql2 hlv.c0 hlv.c1 hlv.c2 hlv.c3 hlv.c4 hlv.c5 (fun Ue ⟨ke, e9⟩ => ?_)
   have ze := ke.size.trans zd
   have e0 := (ke.at_ 0 (by omega)).trans d0
   have e3 := (ke.at_ 3 (by omega)).trans d3
   have e4 := (ke.at_ 4 (by omega)).trans d4
   have e8 := (ke.at_ 8 (by omega)).trans d8
   have hj4 := (hj3.box1 (Obj.cells #[.int .i64 ff.params, .slice ff.sizes.ad ff.sizes.len ff.sizes.cap, .slice ff.cmds.ad ff.cmds.len ff.cmds.cap, .int .i64 ff.res.k, .int .i64 ff.res.n, .slice ff.res.args.ad ff.res.args.len ff.res.args.cap] 78)).below ((Below.refl _ _).drew)
   generalize hb9 : w2.heap.size = b9 at *
   generalize hw3 : (w2.alloc (Obj.cells #[.int .i64 ff.params, .slice ff.sizes.ad ff.sizes.len ff.sizes.cap, .slice ff.cmds.ad ff.cmds.len ff.cmds.cap, .int .i64 ff.res.k, .int .i64 ff.res.n, .slice ff.res.args.ad ff.res.args.len ff.res.args.cap] 78)).drew = w3 at *
   have hm9 : (b9, (Obj.cells #[.int .i64 ff.params, .slice ff.sizes.ad ff.sizes.len ff.sizes.cap, .slice ff.cmds.ad ff.cmds.len ff.cmds.cap, .int .i64 ff.res.k, .int .i64 ff.res.n, .slice ff.res.args.ad ff.res.args.len ff.res.args.cap] 78)) ∈ (b9, (Obj.cells #[.int .i64 ff.params, .slice ff.sizes.ad ff.sizes.len ff.sizes.cap, .slice ff.cmds.ad ff.cmds.len ff.cmds.cap, .int .i64 ff.res.k, .int .i64 ff.res.n, .slice ff.res.args.ad ff.res.args.len ff.res.args.cap] 78)) :: hs2 := List.mem_cons_self
   have hm3b : (b3, (Obj.cells #[.int .i64 cc.k, .int .i64 cc.v, .int .i64 cc.f, .int .i64 cc.ix.k, .int .i64 cc.ix.n, .slice cc.ix.args.ad cc.ix.args.len cc.ix.args.cap, .int .i64 cc.ex.k, .int .i64 cc.ex.n, .slice cc.ex.args.ad cc.ex.args.len cc.ex.args.cap, .slice cc.args.ad cc.args.len cc.args.cap, .slice cc.thn.ad cc.thn.len cc.thn.cap, .slice cc.els.ad cc.els.len cc.els.cap] 80)) ∈ (b9, (Obj.cells #[.int .i64 ff.params, .slice ff.sizes.ad ff.sizes.len ff.sizes.cap, .slice ff.cmds.ad ff.cmds.len ff.cmds.cap, .int .i64 ff.res.k, .int .i64 ff.res.n, .slice ff.res.args.ad ff.res.args.len ff.res.args.cap] 78)) :: hs2 := List.mem_cons_of_mem _ hm3
   have hsub1 : ∀ y ∈ hs, y ∈ (b9, (Obj.cells #[.int .i64 ff.params, .slice ff.sizes.ad ff.sizes.len ff.sizes.cap, .slice ff.cmds.ad ff.cmds.len ff.cmds.cap, .int .i64 ff.res.k, .int .i64 ff.res.n, .slice ff.res.args.ad ff.res.args.len ff.res.args.cap] 78)) :: hs2 := fun y hy => List.mem_cons_of_mem _ (hsub0 y hy)
   have hrow3 : ∀ V : World, (∀ y ∈ (b9, (Obj.cells #[.int .i64 ff.params, .slice ff.sizes.ad ff.sizes.len ff.sizes.cap, .slice ff.cmds.ad ff.cmds.len ff.cmds.cap, .int .i64 ff.res.k, .int .i64 ff.res.n, .slice ff.res.args.ad ff.res.args.len ff.res.args.cap] 78)) :: hs2, V.heap[y.1]? = some y.2) → V.ownsRow w1.heap.size 3 1 (.slice ra zs.length rc) zs.length (zs.map fun z => Value.int .i64 z) := fun V hV => hrow2 V (fun y hy => hV y (List.mem_cons_of_mem _ hy))
   clear hw3 hb9 hj3 hlv c32 hrow2 hsub0 hsub hm3
   generalize (b9, (Obj.cells #[.int .i64 ff.params, .slice ff.sizes.ad ff.sizes.len ff.sizes.cap, .slice ff.cmds.ad ff.cmds.len ff.cmds.cap, .int .i64 ff.res.k, .int .i64 ff.res.n, .slice ff.res.args.ad ff.res.args.len ff.res.args.cap] 78)) :: hs2 = hs3 at *
   refine Fq.ok ?_
   have f32 : ∀ V : World, V.heap[b3]? = some (Obj.cells #[.int .i64 cc.k, .int .i64 cc.v, .int .i64 cc.f, .int .i64 cc.ix.k, .int .i64 cc.ix.n, .slice cc.ix.args.ad cc.ix.args.len cc.ix.args.cap, .int .i64 cc.ex.k, .int .i64 cc.ex.n, .slice cc.ex.args.ad cc.ex.args.len cc.ex.args.cap, .slice cc.args.ad cc.args.len cc.args.cap, .slice cc.thn.ad cc.thn.len cc.thn.cap, .slice cc.els.ad cc.els.len cc.els.cap] 80) → V.cell? ⟨b3, 2, none⟩ = some (.int .i64 (q : Nat)) := fun V hV => by rw [cell_of_row V b3 2 _ _ _ hV]; show some (Value.int .i64 cc.f) = _; rw [hcf, hq]
   refine wp_seq ?_
   refine Fq.at_ Try.f78 12 (by kernel_rfl) ?_
   have hj4d := hj4.below ((Below.refl _ _).drew)
   refine ml_r12 ze e0 e3 e8 (f32 _ (hj4.kp _ hm3b).1) hj4.box.c5 (Tell_any w3.drew hj4d (by omega) (by omega) 5 fr.at_ (q : Nat) 0 ((s.made + 1 : Nat) : Int)) (fun Uf w4 ⟨kf, tg4, ev4, hj5⟩ => ?_)
   have zf := kf.size.trans ze
   have f0 := (kf.at_ 0 (by omega)).trans e0
   have f3 := (kf.at_ 3 (by omega)).trans e3
   have f4 := (kf.at_ 4 (by omega)).trans e4
   have f8 := (kf.at_ 8 (by omega)).trans e8
   have f9 := (kf.at_ 9 (by omega)).trans e9
   clear hj4 hj4d
   refine Fq.ok ?_
   refine wp_seq ?_
   refine Fq.at_ Try.f78 13 (by kernel_rfl) ?_
   refine ml_r13 (mk := ((s.made + 1 : Nat) : Int)) (q := q) (zs := Xr.zeros xq.sizes) (zl := xq.sizes.length) zf f0 f3 f9 (fun V hV => ⟨(hj5.below hV).box.c5, f32 _ ((hj5.below hV).kp _ hm3b).1, (cell_of_row V b9 1 _ _ _ ((hj5.below hV).kp _ hm9).1).trans rfl⟩) (fun V hV => ZeroVars_any ff.sizes.ad ff.sizes.len ff.sizes.cap xq.sizes V (hrf.sizes.later (hj5.below hV).bel (Nat.le_refl _)) (by omega) (fun z hz => ⟨(hd3 z hz).1, by have := (hd3 z hz).2; omega⟩)) (fun Ug w5 ⟨kg, hnf⟩ => ?_)
   have zg := kg.size.trans zf
   have g0 := (kg.at_ 0 (by omega)).trans f0
   have g3 := (kg.at_ 3 (by omega)).trans f3
   have g4 := (kg.at_ 4 (by omega)).trans f4
   have g8 := (kg.at_ 8 (by omega)).trans f8
   have g9 := (kg.at_ 9 (by omega)).trans f9
   obtain ⟨bb, bt, gv, vb, cz, g10, hbb, hbt, hzf, hb45, hgb, hgt, hbbt, hnb, hnt⟩ := hnf
   refine Fq.ok ?_
   refine wp_seq ?_
   refine Fq.at_ Try.f78 14 (by kernel_rfl) ?_
   refine ml_r14 (R := fun w' => ∃ (V : World) (tv' : Value) (ccs : List Pg.C), Below w5.heap.size w5 V ∧ Mc.Gr w4.heap.size V w' bb 4 (.slice (some ⟨bt, 0, none⟩) 1 1) tv' (Mc.push n xq.cmds (Xr.firstOf p q) ++ [none]) (ccs ++ [Mc.c0]) ∧ Mc.RKs w0 (Mc.push n xq.cmds (Xr.firstOf p q)) ccs) zg g0 g3 g9 g10 (fun V hV => by
    have hjV := (hj5.below hb45).below hV
    exact ⟨(cell_of_row V b9 2 _ _ _ (hjV.kp _ hm9).1).trans rfl, hjV.box.c0, f32 _ (hjV.kp _ hm3b).1⟩) (FirstCmd_any _ ql qc p w5.drew (hrp.later ((hj5.below hb45).below ((Below.refl _ _).drew)).bel (Nat.le_refl _)) q (by omega) (by omega)) (fun V hV => by
    have hjV := (hj5.below hb45).below hV
    obtain ⟨ccs, A, hA0, hpu, hrks2⟩ := Mc.Pu.of hjV.bel n ff.cmds xq.cmds (Xr.firstOf p q) hrf.cmds hfirst
    have hbbV := (hV.block bb (Array.getElem?_eq_some_iff.1 hbb).1).trans hbb
    have hbtV := (hV.block bt (Array.getElem?_eq_some_iff.1 hbt).1).trans hbt
    refine (Push_any V w4.heap.size (Nat.le_trans hb45.size hV.size) bb 0 ff.cmds.ad ff.cmds.len ff.cmds.cap (Xr.firstOf p q) _ ccs A hA0 hpu (.slice (some ⟨bt, 0, none⟩) 1 1) [none] [Mc.c0] (by show 1 ≤ _; omega) ((cell_of_row V bb 4 _ _ _ hbbV).trans rfl) (by simp [World.frozen?, hbbV]) (Mc.own_one hgt hbtV) (fun e => hbbt (by cases e; rfl))).mono ?_
    rintro r9 w9' ⟨rfl, tv9, hgr⟩
    exact ⟨rfl, V, tv9, ccs, hV, hgr, hrks2⟩) (fun Uh w6 ⟨kh, V, tv', ccs, hVb, hgr, hrks⟩ => ?_)
   have zh := kh.size.trans zg
   have h0 := (kh.at_ 0 (by omega)).trans g0
   have h4 := (kh.at_ 4 (by omega)).trans g4
   have h8 := (kh.at_ 8 (by omega)).trans g8
   have h10 := (kh.at_ 10 (by omega)).trans g10
   have hb46 := Mc.gr_below hb45 hVb hgr hgb hgt
   refine Fq.ok ?_
   refine wp_seq ?_
   refine Fq.at_ Try.f78 15 (by kernel_rfl) ?_
   have hj6 := hj5.below hb46
   refine ml_r15 (k := s.made + 1) zh h0 hj6.box.c5 (hj6.box.fz 5) (by omega) (fun Ui ki => ?_)
   have zi := ki.size.trans zh
   have i0 := (ki.at_ 0 (by omega)).trans h0
   have i4 := (ki.at_ 4 (by omega)).trans h4
   have i8 := (ki.at_ 8 (by omega)).trans h8
   have i10 := (ki.at_ 10 (by omega)).trans h10
   have hj7 := hj6.setMade
   have hag7 : Mc.Ag (fun k => k = 0) tg4 w4 (w6.setCell ⟨bm, 5, none⟩ (.int .i64 ((s.made + 1 + 1 : Nat) : Int))) := (Mc.Ag.below hb46).set bm _ _ (fun _ => hj5.tb)
   have hblt := hj5.lt
   have hk7 : ∀ k, k ≠ bm → (w6.setCell ⟨bm, 5, none⟩ (.int .i64 ((s.made + 1 + 1 : Nat) : Int))).heap[k]? = w6.heap[k]? := fun k hk => Xr.set_other hk
   have hlen1 : (Mc.push n xq.cmds (Xr.firstOf p q) ++ [none] : List (Mc.K m)).length ≠ 0 := by rw [List.length_append]; simp
   obtain ⟨gt', tc', htv'⟩ : ∃ gt' tc', tv' = .slice (some ⟨gt', 0, none⟩) (Mc.push n xq.cmds (Xr.firstOf p q) ++ [none] : List (Mc.K m)).length tc' := by
    rcases hgr.row.2 with ⟨q1, q2⟩ | ⟨gq, cap, cur, hv, _⟩
    · exact absurd q2 hlen1
    · exact ⟨gq, cap, hv⟩
   have hbbV := (hVb.block bb (Array.getElem?_eq_some_iff.1 hbb).1).trans hbb
   have hbb6 : w6.heap[bb]? = some (Obj.cells #[.int .i64 ((s.made + 1 : Nat) : Int), .int .i64 (q : Nat), .int .i64 (-1), .slice (gv.map fun g => ⟨g, 0, none⟩) xq.sizes.length cz, tv'] 85) := hgr.bfb.trans (heap_setCell_same V bb 4 _ _ tv' hbbV)
   have hrlt := hgr.row.lt gt' (by rw [htv']; rfl)
   have hbb7 := (hk7 bb (by omega)).trans hbb6
   have hzf7 : Xr.Zf (w6.setCell ⟨bm, 5, none⟩ (.int .i64 ((s.made + 1 + 1 : Nat) : Int))) w4.heap.size gv vb cz (Xr.zeros xq.sizes) := hzf.kept (by rw [World.size_setCell]; exact Nat.le_trans hVb.size hgr.size) (fun k hk => by
    have hk1 := hzf.ge k hk
    exact (hk7 k (by omega)).trans ((hgr.blk k (Nat.lt_of_lt_of_le hk1.2 hVb.size) (fun e => hnb (e ▸ hk)) (fun e => hnt (by cases e; exact hk))).trans (hVb.block k hk1.2)))
   have htr7 := Xr.ow_kept hgr.row (fun k hk => hk7 k (by have := hgr.row.lt k hk; omega))
   have hap7 : ∀ k, tv'.ownBlock = some k → k ∉ gv.toList ++ vb := fun k hk hk2 => by
    rcases hgr.at_ with e | e
    · rw [e] at hk
      cases hk
      exact hnt hk2
    · have h1 := e k hk
      have h2 := (hzf.ge k hk2).2
      have h3 := hVb.size
      omega
   have hrk7 : Mc.RKs w0 (Mc.push n xq.cmds (Xr.firstOf p q) ++ [none]) (ccs ++ [Mc.c0]) := Mc.rks_app _ _ _ _ hrks ⟨trivial, trivial⟩
   generalize hw7 : w6.setCell ⟨bm, 5, none⟩ (.int .i64 ((s.made + 1 + 1 : Nat) : Int)) = w7 at *
   refine Fq.ok ?_
   refine wp_seq ?_
   refine Fq.at_ Try.f78 16 (by kernel_rfl) ?_
   refine ml_r16 (b10 := bb) (n := ms.length + 1) (ta := some ⟨gt', 0, none⟩) (tn := (Mc.push n xq.cmds (Xr.firstOf p q) ++ [none] : List (Mc.K m)).length) (tc := tc') zi i0 i10 hj7.box.c6 (hj7.box.fz 6) ((cell_of_row w7 bb 0 _ _ _ hbb7).trans rfl) ((cell_of_row w7 bb 1 _ _ _ hbb7).trans rfl) ((cell_of_row w7 bb 2 _ _ _ hbb7).trans rfl) ((cell_of_row w7 bb 3 _ _ _ hbb7).trans rfl) ((cell_of_row w7 bb 4 _ _ _ hbb7).trans (show some tv' = some _ from congrArg some htv')) hj7.frr hj7.bel.size (by omega) (fun e => by have h1 := hj7.trf bm e; rw [hj7.tb] at h1; omega) (fun Uj w8 ⟨kj, gA, cA, w9, hw8, hgA, hoA, hatA⟩ => ?_)
   have zj := kj.size.trans zi
   have j0 := (kj.at_ 0 (by omega)).trans i0
   have j4 := (kj.at_ 4 (by omega)).trans i4
   have j8 := (kj.at_ 8 (by omega)).trans i8
   obtain ⟨tg8, hj8⟩ := hj5.pushF hag7 (s' := { s with made := s.made + 1, evs := s.evs ++ [⟨5, fr.num, fr.at_, (q : Nat), 0, ((s.made + 1 : Nat) : Int)⟩] }) rfl hj7.box (⟨Xr.newF (s.made + 1) (fr.deep + 1) xq.sizes, q, Mc.push n xq.cmds (Xr.firstOf p q) ++ [none]⟩, ⟨gv, vb, cz, tv', ccs ++ [Mc.c0]⟩) hzf7 htr7 hap7 hrk7 hgA gA cA (by
    have h1 := hoA
    rw [← htv'] at h1
    show w9.ownsRow _ _ _ _ _ (_ ++ [_, _, _, Value.slice _ (Xr.newF (s.made + 1) (fr.deep + 1) xq.sizes).vs.length cz, _])
    rw [Mc.newF_len]
    exact h1) hatA
   rw [List.length_cons, ← hw8] at hj8
   clear hj7 hj6 hj5 hag7 hzf7 htr7 hap7 hrk7 hgA hoA hatA hw8 hbb7 hbb6 hbbV hk7 hgr hrks hVb hb46 hzf hb45 hbb hbt
   refine Fq.ok ?_
   refine wp_seq ?_
   refine Fq.at_ Try.f78 17 (by kernel_rfl) ?_
   refine ml_r17 zj (fun Uk ⟨kk, k11⟩ => ?_)
   refine Fq.ok ?_
   refine wp_block ?_
   have hsh0 : Xr.Sh (Xr.newF (s.made + 1) (fr.deep + 1) xq.sizes).vs xq.sizes := Xr.Sh.new _ _ _
   generalize hnf : Xr.newF (s.made + 1) (fr.deep + 1) xq.sizes = nf at *
   have hnum : nf.num = s.made + 1 := by rw [← hnf]; rfl
   have hes : ({ s with made := s.made + 1, evs := s.evs ++ [⟨5, fr.num, fr.at_, (q : Nat), 0, ((s.made + 1 : Nat) : Int)⟩] } : Xr.S).ended = false := he
   have hls : ({ s with made := s.made + 1, evs := s.evs ++ [⟨5, fr.num, fr.at_, (q : Nat), 0, ((s.made + 1 : Nat) : Int)⟩] } : Xr.S).evs.length ≤ 90001 := by
    show (s.evs ++ [_]).length ≤ _
    rw [List.length_append]
    show _ + 1 ≤ _
    omega
   generalize ({ s with made := s.made + 1, evs := s.evs ++ [⟨5, fr.num, fr.at_, (q : Nat), 0, ((s.made + 1 : Nat) : Int)⟩] } : Xr.S) = s3 at *
   refine wp_loop_ghost (fun d aa v => ∃ (U' : Array Value) (i : Nat) (tg' : Nat → Nat) (ev' : Value) (si : Xr.S) (fi : Xr.F), aa = ⟨U', []⟩ ∧ i ≤ zs.length ∧ d = zs.length - i ∧ U'.size = 120 ∧ U'[0]? = some (.pointer (some ⟨bm, 0, none⟩)) ∧ U'[4]? = some (.slice ra zs.length rc) ∧ U'[8]? = some (.int .i64 fr.at_) ∧ U'[11]? = some (.int .i64 (i : Nat)) ∧ Mc.J w0 v hs3 tg' bm ⟨some ⟨b, o, none⟩, ql, qc⟩ is inp fuel bnd si ((⟨fi, q, Mc.push n xq.cmds (Xr.firstOf p q) ++ [none]⟩, ⟨gv, vb, cz, tv', ccs ++ [Mc.c0]⟩) :: (⟨fr, fn, some ⟨j, c, a⟩ :: ks⟩, z0) :: ms) (.slice (some ⟨gA, 0, none⟩) (ms.length + 1 + 1) cA) ev' ∧ si.ended = false ∧ si.evs.length ≤ 90001 + i ∧ fi.num = nf.num ∧ Xr.Sh fi.vs xq.sizes ∧ Xr.parS nf fr.at_ 0 zs s3 = Xr.parS nf fr.at_ i (zs.drop i) si ∧ Xr.parF 0 zs nf = Xr.parF i (zs.drop i) fi) zs.length
    ⟨Uk, 0, tg8, _, s3, nf, rfl, Nat.zero_le _, rfl, kk.size.trans zj, (kk.at_ 0 (by omega)).trans j0, (kk.at_ 4 (by omega)).trans j4, (kk.at_ 8 (by omega)).trans j8, k11, hj8, hes, hls, rfl, hsh0, rfl, rfl⟩ ?_
   clear kk k11 hj8 hes hls hsh0 j0 j4 j8 zj
   rintro d aa v2 ⟨Ul, i2, tgl, evl, si, fi, rfl, hi2, rfl, zl, l0, l4, l8, l11, hjl, hel, hll, hnl, hshl, hps, hpf⟩
   refine wp_seq (wp_seq ?_)
   refine Fq.at_ Try.f78 18 (by kernel_rfl) ?_
   refine ml_r18 zl l4 l11 (by omega) rfl (fun Um ⟨km, h109⟩ => ?_)
   have zm := km.size.trans zl
   have m0 := (km.at_ 0 (by omega)).trans l0
   have m4 := (km.at_ 4 (by omega)).trans l4
   have m8 := (km.at_ 8 (by omega)).trans l8
   have m11 := (km.at_ 11 (by omega)).trans l11
   refine Fq.ok ?_
   by_cases hlt2 : i2 < zs.length
   · refine Fq.cond_true (h109.trans (by rw [decide_eq_true (by omega)])) ?_
     refine Fq.skip (Fq.ok ?_)
     obtain ⟨z, hz⟩ : ∃ z, zs[i2]? = some z := ⟨_, List.getElem?_eq_getElem hlt2⟩
     have hdr : zs.drop i2 = z :: zs.drop (i2 + 1) := by
      have h1 := List.getElem?_eq_some_iff.1 hz
      rw [List.drop_eq_getElem_cons h1.1, h1.2]
     obtain ⟨gl, hgl, hcl⟩ := Mc.ow_ints (hrow3 v2 (fun y hy => (hjl.kp y hy).1)) hz
     subst hgl
     obtain ⟨zz, hzz⟩ := Mc.at_nat (sz := xq.sizes) (i := i2) (by omega)
     obtain ⟨vi, lv, hv1, hv2, hv3, hv4⟩ := hshl.var hzz
     have hvi : vi = i2 := by omega
     subst hvi
     refine wp_seq (wp_block ?_)
     refine Fq.at_ Try.f78 20 (by kernel_rfl) ?_
     refine ml_r20 zm m0 m4 m8 m11 hlt2 (by omega) hcl (Write_any v2 hjl (by simp; omega) (by omega) fr.at_ vi 0 lv hv2 hv3 z) (fun Un w10 ⟨kn, tgn, evn, hjn⟩ => ?_)
     have zn := kn.size.trans zm
     refine Fq.blN (Fq.ok ?_)
     refine Fq.at_ Try.f78 19 (by kernel_rfl) ?_
     refine ml_r19 zn ((kn.at_ 11 (by omega)).trans m11) (by omega) (fun Uo ⟨ko, o11⟩ => ?_)
     refine ⟨zs.length - (vi + 1), by omega, Uo, vi + 1, tgn, evn, _, _, rfl, by omega, rfl, ko.size.trans zn, (ko.at_ 0 (by omega)).trans ((kn.at_ 0 (by omega)).trans m0), (ko.at_ 4 (by omega)).trans ((kn.at_ 4 (by omega)).trans m4), (ko.at_ 8 (by omega)).trans ((kn.at_ 8 (by omega)).trans m8), o11, hjn, hel, ?_, hnl, hshl.upd _ _ _, ?_, ?_⟩
     · show (si.evs ++ [_]).length ≤ _
       rw [List.length_append]
       show _ + 1 ≤ _
       omega
     · rw [hps, hdr]
       show Xr.parS nf fr.at_ (vi + 1) (zs.drop (vi + 1)) (Xr.wrS si nf fr.at_ (vi : Nat) 0 z) = _
       unfold Xr.wrS
       rw [Xr.tell_no hel, ← hnl]
       rfl
     · rw [hpf, hdr]
       rfl
   · refine Fq.cond_false (h109.trans (by rw [decide_eq_false (by omega)])) ?_
     refine wp_exit (Fq.thX (Fq.thX (Fq.blX ?_)))
     refine bodyPost_end (results_none rfl _ _ _) rfl ⟨rfl, ?_⟩
     rw [List.drop_eq_nil_of_le (by omega)] at hps hpf
     exact Mc.Post.done hjl hps hel (by show _ :: _ :: ms.map Prod.fst = _; rw [hpf]; rfl) hsub1 (Nat.le_refl _)
end
end Go.Proofs.Ytcalcikclcmkaaa
namespace Go.Proofs.Ytcalcikclcmkaaa
open Go.RowKit
set_option linter.unusedVariables false
section
variable {T : Array Value} {w : World} {Q : Exit → Act → World → Prop} {bm g c : Nat}
theorem mt_r0 {fa : Option Addr} {fl fc : Nat} (hT : T.size = 51) (s0 : T[0]? = some (.agg #[.slice fa fl fc]))
  (hQ : ∀ T', (Fq.Kp 3 T T' ∧ T'[3]? = some (.pointer (some ⟨w.heap.size, 0, none⟩)) ∧ T'[6]? = some (.slice none 0 0)) → Q .normal ⟨T', []⟩ (w.alloc (Obj.cells #[.slice fa fl fc] 36))) : (Fq.reg Try.f14 0).wp Try.prog Q ⟨T, []⟩ w := by
 have a0 := fun h => Fq.el s0 h
 have d0 := Fq.gd s0
 have hu : undef = Value.tuple #[] := rfl
 have HQ := hide hQ
 clear hQ
 conv => arg 2; whnf
 go_wp2_with fail
 exact (unhide HQ) _ ⟨(by (repeat (with_reducible refine Fq.Kp.set ?_ (by decide) _)); with_reducible exact Fq.Kp.refl _ _), by simp [hT], by simp [hT]⟩
theorem mt_r1 {bp k fc : Nat} {fa : Option Addr} (hT : T.size = 51) (s3 : T[3]? = some (.pointer (some ⟨bp, 0, none⟩))) (h0 : w.cell? ⟨bp, 0, none⟩ = some (.slice fa (k + 1) fc)) (hk : k ≤ 1000)
  (hQ : ∀ T', (Fq.Kp 7 T T' ∧ T'[7]? = some (.int .i64 (k : Nat))) → Q .normal ⟨T', []⟩ (w)) : (Fq.reg Try.f14 1).wp Try.prog Q ⟨T, []⟩ w := by
 have a3 := fun h => Fq.el s3 h
 have d3 := Fq.gd s3
 have hu : undef = Value.tuple #[] := rfl
 have HQ := hide hQ
 clear hQ
 conv => arg 2; whnf
 have hw0 : IntKind.i64.wrap (((k + 1 : Nat) : Int) - 1) = (k : Int) := by rw [IntKind.wrap_i64]; omega
 go_wp2_with fail
 exact (unhide HQ) _ ⟨(by (repeat (with_reducible refine Fq.Kp.set ?_ (by decide) _)); with_reducible exact Fq.Kp.refl _ _), Fq.set_at _ (by simp [hT]) _⟩
theorem mt_r2 {bp fl fc il ic : Nat} {fa ia : Option Addr} {fuel : Int} (hT : T.size = 51) (s1 : T[1]? = some (.slice ia il ic)) (s2 : T[2]? = some (.int .i64 fuel)) (s3 : T[3]? = some (.pointer (some ⟨bp, 0, none⟩))) (h0 : w.cell? ⟨bp, 0, none⟩ = some (.slice fa fl fc))
  (hQ : ∀ T', (Fq.Kp 8 T T' ∧ T'[8]? = some (.pointer (some ⟨w.heap.size, 0, none⟩))) → Q .normal ⟨T', []⟩ (w.alloc (Obj.cells #[.slice fa fl fc, .slice ia il ic, .int .i64 0, .int .i64 fuel, .int .i64 0, .int .i64 1, .slice none 0 0, .slice none 0 0, .bool false] 74))) : (Fq.reg Try.f14 2).wp Try.prog Q ⟨T, []⟩ w := by
 have a1 := fun h => Fq.el s1 h
 have d1 := Fq.gd s1
 have a2 := fun h => Fq.el s2 h
 have d2 := Fq.gd s2
 have a3 := fun h => Fq.el s3 h
 have d3 := Fq.gd s3
 have hu : undef = Value.tuple #[] := rfl
 have HQ := hide hQ
 clear hQ
 conv => arg 2; whnf
 go_wp2_with fail
 exact (unhide HQ) _ ⟨(by (repeat (with_reducible refine Fq.Kp.set ?_ (by decide) _)); with_reducible exact Fq.Kp.refl _ _), Fq.set_at _ (by simp [hT]) _⟩
theorem mt_r3 {bp b o q ql qc sl sc zl : Nat} {sa : Option Addr} (hT : T.size = 51) (s3 : T[3]? = some (.pointer (some ⟨bp, 0, none⟩))) (s7 : T[7]? = some (.int .i64 (q : Nat))) (h0 : w.cell? ⟨bp, 0, none⟩ = some (.slice (some ⟨b, o, none⟩) ql qc)) (hq : q < ql) (hql : ql ≤ 1000) (y1 : w.cell? ⟨b, o + q * 6 + 1, none⟩ = some (.slice sa sl sc)) {zs : List (List Int)} (hZ : Calls Try.prog 38 #[.slice sa sl sc] w fun r w' => ∃ gv vb cz, r = .returned (.slice (gv.map fun g => ⟨g, 0, none⟩) zl cz) ∧ Xr.Zf w' w.heap.size gv vb cz zs ∧ Below w.heap.size w w')
  (hQ : ∀ T' w', (Fq.Kp 9 T T' ∧ ∃ (gv : Option Nat) (vb : List Nat) (cz : Nat) (w5 : World), T'[9]? = some (.pointer (some ⟨w5.heap.size + 1, 0, none⟩)) ∧ w' = (w5.alloc (Obj.cells #[.int .i64 0, .int .i64 0, .int .i64 0, .int .i64 0, .int .i64 0, .slice none 0 0, .int .i64 0, .int .i64 0, .slice none 0 0, .slice none 0 0, .slice none 0 0, .slice none 0 0, .int .i64 0, .bool false, .bool true] 82)).alloc (Obj.cells #[.int .i64 0, .int .i64 (q : Nat), .int .i64 (-1), .slice (gv.map fun g => ⟨g, 0, none⟩) zl cz, .slice (some ⟨w5.heap.size, 0, none⟩) 1 1] 85) ∧ Xr.Zf w5 w.heap.size gv vb cz zs ∧ Below w.heap.size w w5) → Q .normal ⟨T', []⟩ w') : (Fq.reg Try.f14 3).wp Try.prog Q ⟨T, []⟩ w := by
 have a3 := fun h => Fq.el s3 h
 have d3 := Fq.gd s3
 have a7 := fun h => Fq.el s7 h
 have d7 := Fq.gd s7
 have hu : undef = Value.tuple #[] := rfl
 have HQ := hide hQ
 clear hQ
 conv => arg 2; whnf
 have HC := hide hZ
 have q0 : (0 : Int) ≤ (q : Int) := by omega
 have q1 : (q : Int) < (ql : Int) := by omega
 clear hZ
 go_wp2_with (with_reducible refine (Calls.mono (unhide HC) ?_); rintro r w5 ⟨gv, vb, cz, rfl, hzf, hb5⟩; have HZF := hide hzf; have HB5 := hide hb5; clear hzf hb5)
 exact (unhide HQ) _ _ ⟨(by (repeat (with_reducible refine Fq.Kp.set ?_ (by decide) _)); with_reducible exact Fq.Kp.refl _ _), gv, vb, cz, w5, by simp [hT], rfl, unhide HZF, unhide HB5⟩
theorem mt_r4 {bp bb b o q ql qc cl cc a : Nat} {ca : Option Addr} (hT : T.size = 51) (s3 : T[3]? = some (.pointer (some ⟨bp, 0, none⟩))) (s7 : T[7]? = some (.int .i64 (q : Nat))) (s9 : T[9]? = some (.pointer (some ⟨bb, 0, none⟩))) {R : World → Prop} (hF : ∀ V, Below w.heap.size w V → V.cell? ⟨bp, 0, none⟩ = some (.slice (some ⟨b, o, none⟩) ql qc) ∧ V.cell? ⟨b, o + q * 6 + 2, none⟩ = some (.slice ca cl cc)) (hq : q < ql) (hql : ql ≤ 1000) (h1 : Calls Try.prog 40 #[.agg #[.slice (some ⟨b, o, none⟩) ql qc], .int .i64 (q : Nat)] w.drew fun r w' => r = .returned (.int .i64 (a : Nat)) ∧ Below w.drew.heap.size w.drew w') (h2 : ∀ V, Below w.heap.size w V → Calls Try.prog 39 #[.pointer (some ⟨bb, 0, none⟩), .slice ca cl cc, .int .i64 (a : Nat)] V fun r w' => r = .returned (.tuple #[]) ∧ R w')
  (hQ : ∀ T' w', (Fq.Kp 10 T T' ∧ R w') → Q .normal ⟨T', []⟩ w') : (Fq.reg Try.f14 4).wp Try.prog Q ⟨T, []⟩ w := by
 have HQ := hide hQ
 clear hQ
 conv => arg 2; whnf
 refine Fq.norm (fun T' w' => Fq.Kp 10 T T' ∧ R w') (fun T' w' h => (unhide HQ) T' w' h) ?_
 obtain ⟨t, ht⟩ : ∃ t : Nat → Value, t = fun i => T.getD i (.tuple #[]) := ⟨_, rfl⟩
 have hTl : T = #[t 0, t 1, t 2, t 3, t 4, t 5, t 6, t 7, t 8, t 9, t 10, t 11, t 12, t 13, t 14, t 15, t 16, t 17, t 18, t 19, t 20, t 21, t 22, t 23, t 24, t 25, t 26, t 27, t 28, t 29, t 30, t 31, t 32, t 33, t 34, t 35, t 36, t 37, t 38, t 39, t 40, t 41, t 42, t 43, t 44, t 45, t 46, t 47, t 48, t 49, t 50] := by rw [ht]; exact Fq.ls_is hT
 rw [(congrFun ht 3).trans (Fq.gd s3), (congrFun ht 7).trans (Fq.gd s7), (congrFun ht 9).trans (Fq.gd s9)] at hTl
 clear ht hT s3 s7 s9
 refine Fq.fr hTl ?_
 have HTL := hide hTl
 clear hTl
 have HF := hide hF
 have H1 := hide h1
 have H2 := hide h2
 have q0 : (0 : Int) ≤ (q : Int) := by omega
 have q1 : (q : Int) < (ql : Int) := by omega
 obtain ⟨y0, y1⟩ := hF w (Below.refl _ _)
 clear hF h1 h2
 go_region_law (first
  | (go_simp; go_at_call 40; refine (unhide H1).mono ?_; rintro r5 w5 ⟨rfl, hb5⟩; have HB5 := hide (show Below w.heap.size w w5 from ((Below.refl w.heap.size w).drew).trans (hb5.mono (Nat.le_refl _))); obtain ⟨z0, z1⟩ := (unhide HF) _ (unhide HB5); clear hb5)
  | (go_simp; go_at_call 39; refine ((unhide H2) _ (unhide HB5)).mono ?_; rintro r6 w6 ⟨rfl, hb6⟩; have HB := hide hb6; clear hb6))
 all_goals exact ⟨rfl, ⟨by rw [unhide HTL]; rfl, fun k hk => by rw [unhide HTL]; rcases (show k = 0 ∨ k = 1 ∨ k = 2 ∨ k = 3 ∨ k = 4 ∨ k = 5 ∨ k = 6 ∨ k = 7 ∨ k = 8 ∨ k = 9 by omega) with rfl | rfl | rfl | rfl | rfl | rfl | rfl | rfl | rfl | rfl <;> rfl⟩, unhide HB⟩
theorem mt_r5 {bb vl vc tn tc : Nat} {va ta : Option Addr} {num fn at_ : Int} (hT : T.size = 51) (s8 : T[8]? = some (.pointer (some ⟨bm, 0, none⟩))) (s9 : T[9]? = some (.pointer (some ⟨bb, 0, none⟩))) {B : Nat} (h6 : w.cell? ⟨bm, 6, none⟩ = some (.slice none 0 0)) (hf : w.frozen? ⟨bm, 6, none⟩ = false) (y0 : w.cell? ⟨bb, 0, none⟩ = some (.int .i64 num)) (y1 : w.cell? ⟨bb, 1, none⟩ = some (.int .i64 fn)) (y2 : w.cell? ⟨bb, 2, none⟩ = some (.int .i64 at_)) (y3 : w.cell? ⟨bb, 3, none⟩ = some (.slice va vl vc)) (y4 : w.cell? ⟨bb, 4, none⟩ = some (.slice ta tn tc)) (hB : B ≤ w.heap.size)
  (hQ : ∀ T' w', (Fq.Kp 10 T T' ∧ ∃ gA cA w6, w' = w6.setCell ⟨bm, 6, none⟩ (.slice (some ⟨gA, 0, none⟩) 1 cA) ∧ w.grownBy w6 (Value.slice none 0 0).ownBlock ∧ w6.ownsRow B 85 5 (.slice (some ⟨gA, 0, none⟩) 1 cA) 1 [.int .i64 num, .int .i64 fn, .int .i64 at_, .slice va vl vc, .slice ta tn tc] ∧ ((Value.slice none 0 0).ownBlock = some gA ∨ w.heap.size ≤ gA)) → Q .normal ⟨T', []⟩ w') : (Fq.reg Try.f14 5).wp Try.prog Q ⟨T, []⟩ w := by
 have HQ := hide hQ
 clear hQ
 conv => arg 2; whnf
 refine Fq.norm (fun T' w' => Fq.Kp 10 T T' ∧ ∃ gA cA w6, w' = w6.setCell ⟨bm, 6, none⟩ (.slice (some ⟨gA, 0, none⟩) 1 cA) ∧ w.grownBy w6 (Value.slice none 0 0).ownBlock ∧ w6.ownsRow B 85 5 (.slice (some ⟨gA, 0, none⟩) 1 cA) 1 [.int .i64 num, .int .i64 fn, .int .i64 at_, .slice va vl vc, .slice ta tn tc] ∧ ((Value.slice none 0 0).ownBlock = some gA ∨ w.heap.size ≤ gA)) (fun T' w' h => (unhide HQ) T' w' h) ?_
 obtain ⟨t, ht⟩ : ∃ t : Nat → Value, t = fun i => T.getD i (.tuple #[]) := ⟨_, rfl⟩
 have hTl : T = #[t 0, t 1, t 2, t 3, t 4, t 5, t 6, t 7, t 8, t 9, t 10, t 11, t 12, t 13, t 14, t 15, t 16, t 17, t 18, t 19, t 20, t 21, t 22, t 23, t 24, t 25, t 26, t 27, t 28, t 29, t 30, t 31, t 32, t 33, t 34, t 35, t 36, t 37, t 38, t 39, t 40, t 41, t 42, t 43, t 44, t 45, t 46, t 47, t 48, t 49, t 50] := by rw [ht]; exact Fq.ls_is hT
 rw [(congrFun ht 8).trans (Fq.gd s8), (congrFun ht 9).trans (Fq.gd s9)] at hTl
 clear ht hT s8 s9
 refine Fq.fr hTl ?_
 have HTL := hide hTl
 clear hTl
 obtain ⟨i0, hi0, hz0, hz1', hz2⟩ := info_of Try.infoFr
 have HI := hide hi0
 have HZ0 := hide hz0
 have HZ1 := hide hz1'
 have HZ2 := hide hz2
 have hbm := World.block_lt_of_cell? w _ h6
 clear hi0 hz0 hz1' hz2
 have HBK := hide (heap_alloc_new w (Obj.cells #[.int .i64 num, .int .i64 fn, .int .i64 at_, .slice va vl vc, .slice ta tn tc] 85))
 have HBD := hide (show Below w.heap.size w (w.alloc (Obj.cells #[.int .i64 num, .int .i64 fn, .int .i64 at_, .slice va vl vc, .slice ta tn tc] 85)) from (Below.refl w.heap.size w).alloc (Nat.le_refl _) _)
 have h6b : (w.alloc (Obj.cells #[.int .i64 num, .int .i64 fn, .int .i64 at_, .slice va vl vc, .slice ta tn tc] 85)).cell? ⟨bm, 6, none⟩ = some (.slice none 0 0) := (((Below.refl w.heap.size w).alloc (Nat.le_refl _) _).cell (p := ⟨bm, 6, none⟩) hbm).trans h6
 go_wp2_with (at_builtin; refine wpList_append_lies _ (by rfl) _ _ _ (by rfl) B 85 i0 _ 5 72 Try.underlying72 (unhide HI) (unhide HZ0) (unhide HZ1) (unhide HZ2) rfl (by omega) (.slice none 0 0) 0 [] (by rfl) (⟨rfl, .inl ⟨rfl, rfl⟩⟩) ⟨w.heap.size, 0, none⟩ 1 1 [.int .i64 num, .int .i64 fn, .int .i64 at_, .slice va vl vc, .slice ta tn tc] (by rfl) (by rfl) (World.news_of_block (unhide HBK)) (by simp [Value.oneCell']) (by omega) (by unfold maxLen; omega) (by omega) (by simp; omega) (w.heap.size + 1) (by simp) ?_; intro gA cA w6 hoA hgA hatA hltA; have HOA := hide hoA; have HGA := hide (show w.grownBy w6 (Value.slice none 0 0).ownBlock from ⟨hgA.os.trans (unhide HBD).os, hgA.tape.trans (unhide HBD).tape, hgA.output.trans (unhide HBD).output, Nat.le_trans (unhide HBD).size hgA.size, fun q h1 h2 => (hgA.block q (Nat.lt_of_lt_of_le h1 (unhide HBD).size) h2).trans ((unhide HBD).block q h1)⟩); have HAT := hide (show (Value.slice none 0 0).ownBlock = some gA ∨ w.heap.size ≤ gA from hatA.imp id (fun e => by rw [e]; exact Nat.le_succ _)); have hbb := (unhide HGA).block bm hbm (fun e => by have e2 : some bm = none := e; cases e2); have z4 := (Xr.cell_kept hbb 6).trans h6; have z5 := (Xr.frz_kept hbb 6).trans hf; clear hatA hltA hoA hgA hbb)
 have HB := hide (show ∃ gA cA w6, _ = w6.setCell ⟨bm, 6, none⟩ (.slice (some ⟨gA, 0, none⟩) 1 cA) ∧ w.grownBy w6 (Value.slice none 0 0).ownBlock ∧ w6.ownsRow B 85 5 (.slice (some ⟨gA, 0, none⟩) 1 cA) 1 [.int .i64 num, .int .i64 fn, .int .i64 at_, .slice va vl vc, .slice ta tn tc] ∧ ((Value.slice none 0 0).ownBlock = some gA ∨ w.heap.size ≤ gA) from ⟨gA, cA, w6, rfl, unhide HGA, unhide HOA, unhide HAT⟩)
 exact ⟨rfl, ⟨by rw [unhide HTL]; rfl, fun k hk => by rw [unhide HTL]; rcases (show k = 0 ∨ k = 1 ∨ k = 2 ∨ k = 3 ∨ k = 4 ∨ k = 5 ∨ k = 6 ∨ k = 7 ∨ k = 8 ∨ k = 9 by omega) with rfl | rfl | rfl | rfl | rfl | rfl | rfl | rfl | rfl | rfl <;> rfl⟩, unhide HB⟩
theorem mt_r6 {ov : Bool} (hT : T.size = 51) (s8 : T[8]? = some (.pointer (some ⟨bm, 0, none⟩))) (h8 : w.cell? ⟨bm, 8, none⟩ = some (.bool ov))
  (hQ : ∀ T', (Fq.Kp 10 T T' ∧ T'[47]? = some (.bool (!ov))) → Q .normal ⟨T', []⟩ (w)) : (Fq.reg Try.f14 6).wp Try.prog Q ⟨T, []⟩ w := by
 have a8 := fun h => Fq.el s8 h
 have d8 := Fq.gd s8
 have hu : undef = Value.tuple #[] := rfl
 have HQ := hide hQ
 clear hQ
 conv => arg 2; whnf
 go_wp2_with fail
 exact (unhide HQ) _ ⟨(by (repeat (with_reducible refine Fq.Kp.set ?_ (by decide) _)); with_reducible exact Fq.Kp.refl _ _), Fq.set_at _ (by simp [hT]) _⟩
theorem mt_r7 (hT : T.size = 51) (s8 : T[8]? = some (.pointer (some ⟨bm, 0, none⟩))) {R : World → Prop} (hc : Calls Try.prog 41 #[.pointer (some ⟨bm, 0, none⟩)] w fun r w' => r = .returned (.tuple #[]) ∧ R w')
  (hQ : ∀ T' w', (Fq.Kp 10 T T' ∧ R w') → Q .normal ⟨T', []⟩ w') : (Fq.reg Try.f14 7).wp Try.prog Q ⟨T, []⟩ w := by
 have a8 := fun h => Fq.el s8 h
 have d8 := Fq.gd s8
 have hu : undef = Value.tuple #[] := rfl
 have HQ := hide hQ
 clear hQ
 conv => arg 2; whnf
 have HC := hide hc
 clear hc
 go_wp2_with (with_reducible refine (Calls.mono (unhide HC) ?_); rintro r w2 ⟨rfl, hb2⟩; have HB := hide hb2; clear hb2)
 exact (unhide HQ) _ _ ⟨(by (repeat (with_reducible refine Fq.Kp.set ?_ (by decide) _)); with_reducible exact Fq.Kp.refl _ _), unhide HB⟩
theorem mt_r8 {ea : Option Addr} {el ec : Nat} (hT : T.size = 51) (s8 : T[8]? = some (.pointer (some ⟨bm, 0, none⟩))) (h7 : w.cell? ⟨bm, 7, none⟩ = some (.slice ea el ec))
  (hQ : ∀ T', (Fq.Kp 6 T T' ∧ T'[6]? = some (.slice ea el ec)) → Q .normal ⟨T', []⟩ (w)) : (Fq.reg Try.f14 8).wp Try.prog Q ⟨T, []⟩ w := by
 have a8 := fun h => Fq.el s8 h
 have d8 := Fq.gd s8
 have hu : undef = Value.tuple #[] := rfl
 have HQ := hide hQ
 clear hQ
 conv => arg 2; whnf
 go_wp2_with fail
 exact (unhide HQ) _ ⟨(by (repeat (with_reducible refine Fq.Kp.set ?_ (by decide) _)); with_reducible exact Fq.Kp.refl _ _), Fq.set_at _ (by simp [hT]) _⟩
end
end Go.Proofs.Ytcalcikclcmkaaa
namespace Go.Proofs.Ytcalcikclcmkaaa
open Go.RowKit
set_option linter.unusedVariables false
section
variable {m n : Nat}
theorem Mc.ln_tell (s : Xr.S) (e : Ev) : (Xr.tell s e).evs.length ≤ s.evs.length + 1 := by
 unfold Xr.tell
 split
 · omega
 · show (s.evs ++ [e]).length ≤ _
   rw [List.length_append]
   exact Nat.le_refl _
theorem Mc.ln_fin (s : Xr.S) (f : Xr.F) (a how : Int) : (Xr.fin s f a how).evs.length ≤ s.evs.length + 1 := Mc.ln_tell s _
theorem Mc.ln_val {k : Nat} (s : Xr.S) (f : Xr.F) (y : Pg.XT k) : (Xr.valS s f y).evs.length ≤ s.evs.length + 1 := by
 unfold Xr.valS
 split
 · omega
 split
 · omega
 · exact Mc.ln_fin _ _ _ _
theorem Mc.ln_arg {k : Nat} (f : Xr.F) : ∀ (l : List (Pg.XT k)) (s : Xr.S), (Xr.argS f l s).evs.length ≤ s.evs.length + l.length
 | [], s => Nat.le_refl _
 | y :: r, s => by
  have h1 := Mc.ln_arg f r (Xr.valS s f y)
  have h2 := Mc.ln_val s f y
  show (Xr.argS f r (Xr.valS s f y)).evs.length ≤ _
  rw [List.length_cons]
  omega
theorem Mc.ln_argV {k : Nat} (f : Xr.F) : ∀ (l : List (Pg.XT k)) (s : Xr.S), (Xr.argV f l s).length = l.length
 | [], s => rfl
 | y :: r, s => by
  show (Xr.argV f r _).length + 1 = _
  rw [Mc.ln_argV f r, List.length_cons]
theorem Mc.ln_par (g : Xr.F) (a : Int) : ∀ (zs : List Int) (i : Nat) (s : Xr.S), (Xr.parS g a i zs s).evs.length ≤ s.evs.length + zs.length
 | [], i, s => Nat.le_refl _
 | z :: r, i, s => by
  have h1 := Mc.ln_par g a r (i + 1) (Xr.wrS s g a (i : Nat) 0 z)
  have h2 := Mc.ln_tell s ⟨2, g.num, a, (i : Nat), 0, z⟩
  have h3 : (Xr.wrS s g a (i : Nat) 0 z).evs.length ≤ s.evs.length + 1 := h2
  show (Xr.parS g a (i + 1) r (Xr.wrS s g a (i : Nat) 0 z)).evs.length ≤ _
  rw [List.length_cons]
  omega
theorem Mc.ln_put {k : Nat} (s : Xr.S) (f : Xr.F) (v : Int) (ix ex : Pg.XT k) : (Xr.putS s f v ix ex).evs.length ≤ s.evs.length + 3 := by
 have h1 := Mc.ln_val s f ix
 have h2 := Mc.ln_val (Xr.valS s f ix) f ex
 unfold Xr.putS
 split
 · refine Nat.le_trans (Mc.ln_tell _ _) ?_
   omega
 · refine Nat.le_trans (Mc.ln_tell _ _) ?_
   omega
theorem Mc.md_tell (s : Xr.S) (e : Ev) : (Xr.tell s e).made = s.made := by unfold Xr.tell; split <;> rfl
theorem Mc.md_val {k : Nat} (s : Xr.S) (f : Xr.F) (y : Pg.XT k) : (Xr.valS s f y).made = s.made := by
 unfold Xr.valS
 split
 · rfl
 split
 · rfl
 · exact Mc.md_tell _ _
theorem Mc.md_arg {k : Nat} (f : Xr.F) : ∀ (l : List (Pg.XT k)) (s : Xr.S), (Xr.argS f l s).made = s.made
 | [], s => rfl
 | y :: r, s => (Mc.md_arg f r _).trans (Mc.md_val s f y)
theorem Mc.md_par (g : Xr.F) (a : Int) : ∀ (zs : List Int) (i : Nat) (s : Xr.S), (Xr.parS g a i zs s).made = s.made
 | [], i, s => rfl
 | z :: r, i, s => (Mc.md_par g a r (i + 1) _).trans (Mc.md_tell _ _)
theorem Mc.md_put {k : Nat} (s : Xr.S) (f : Xr.F) (v : Int) (ix ex : Pg.XT k) : (Xr.putS s f v ix ex).made = s.made := by
 unfold Xr.putS
 split
 · exact (Mc.md_tell _ _).trans ((Mc.md_val _ _ _).trans (Mc.md_val _ _ _))
 · exact (Mc.md_tell _ _).trans ((Mc.md_val _ _ _).trans (Mc.md_val _ _ _))
structure Mc.Bd (t : Mc.St m) : Prop where
 len : t.s.evs.length + 12 * t.s.fuel + 3 * t.fs.length ≤ 6100
 made : t.s.made + t.s.fuel ≤ 600
theorem Mc.ended_tell (s : Xr.S) (e : Ev) : (Xr.tell s e).ended = s.ended := by
 unfold Xr.tell
 split <;> simp_all
theorem Mc.do_bd {p : List (Pg.FT m n)} (hok : ∀ (i : Nat) (x : Pg.FT m n), p[i]? = some x → Pg.wfn p i x = 0) {t : Mc.St m} (h : Mc.Ok p t) (he : t.s.ended = false) (he2 : (Mc.do1 p t).s.ended = false) (hb : Mc.Bd t) : Mc.Bd (Mc.do1 p t) ∧ t.s.evs.length + 1 ≤ (Mc.do1 p t).s.evs.length := by
 obtain ⟨s, fs⟩ := t
 cases fs with
 | nil => exact absurd rfl h.ne
 | cons f r =>
  have hf := h.all f List.mem_cons_self
  obtain ⟨x, hx, hsh, htk⟩ := hf.ex
  obtain ⟨hb1, hb2⟩ := hb
  obtain ⟨fr, fn, ks⟩ := f
  dsimp only at *
  rw [List.length_cons] at hb1
  cases ks with
  | nil =>
   obtain ⟨l, hl⟩ := hf.last
   exact absurd hl (by simp)
  | cons k ks =>
   cases k with
   | none =>
    have hd : Mc.do1 p ⟨s, ⟨fr, fn, none :: ks⟩ :: r⟩ = Mc.back p s ⟨fr, fn, none :: ks⟩ r := rfl
    rw [hd] at he2 ⊢
    cases r with
    | nil => exact absurd he2 (by simp [Mc.back, Xr.fin])
    | cons g r2 =>
     unfold Mc.back at he2 ⊢
     dsimp only at he2 ⊢
     rw [hx] at he2 ⊢
     dsimp only at he2 ⊢
     rw [List.length_cons] at hb1
     have hfe : (Xr.wrS (Xr.tell (Xr.valS s fr x.res) ⟨6, fr.num, g.fr.at_, 0, 0, Xr.valV s fr x.res⟩) g.fr g.fr.at_ (Mc.var g.ks) 0 (Xr.valV s fr x.res)).fuel = s.fuel := (Mc.fuel_tell _ _).trans ((Mc.fuel_tell _ _).trans (Mc.fuel_val _ _ _))
     have hme : (Xr.wrS (Xr.tell (Xr.valS s fr x.res) ⟨6, fr.num, g.fr.at_, 0, 0, Xr.valV s fr x.res⟩) g.fr g.fr.at_ (Mc.var g.ks) 0 (Xr.valV s fr x.res)).made = s.made := (Mc.md_tell _ _).trans ((Mc.md_tell _ _).trans (Mc.md_val _ _ _))
     have l1 := Mc.ln_val s fr x.res
     have l2 := Mc.ln_tell (Xr.valS s fr x.res) ⟨6, fr.num, g.fr.at_, 0, 0, Xr.valV s fr x.res⟩
     have l3 : (Xr.wrS (Xr.tell (Xr.valS s fr x.res) ⟨6, fr.num, g.fr.at_, 0, 0, Xr.valV s fr x.res⟩) g.fr g.fr.at_ (Mc.var g.ks) 0 (Xr.valV s fr x.res)).evs.length ≤ _ := Mc.ln_tell (Xr.tell (Xr.valS s fr x.res) ⟨6, fr.num, g.fr.at_, 0, 0, Xr.valV s fr x.res⟩) _
     have hv0 : (Xr.valS s fr x.res).ended = false := by
      have h1 : (Xr.tell (Xr.tell (Xr.valS s fr x.res) ⟨6, fr.num, g.fr.at_, 0, 0, Xr.valV s fr x.res⟩) _).ended = false := he2
      rw [Mc.ended_tell, Mc.ended_tell] at h1
      exact h1
     have g1 := ((Xr.cl_grows s.evs).val s fr x.res (List.prefix_refl _)).length_le
     have g2 : (Xr.tell (Xr.valS s fr x.res) ⟨6, fr.num, g.fr.at_, 0, 0, Xr.valV s fr x.res⟩).evs.length = (Xr.valS s fr x.res).evs.length + 1 := by
      rw [Xr.tell_no hv0]
      exact List.length_append
     have g3 := ((Xr.cl_grows (Xr.tell (Xr.valS s fr x.res) ⟨6, fr.num, g.fr.at_, 0, 0, Xr.valV s fr x.res⟩).evs).wr _ g.fr g.fr.at_ (Mc.var g.ks) 0 (Xr.valV s fr x.res) (List.prefix_refl _)).length_le
     refine ⟨⟨?_, ?_⟩, ?_⟩
     · show (Xr.wrS (Xr.tell (Xr.valS s fr x.res) ⟨6, fr.num, g.fr.at_, 0, 0, Xr.valV s fr x.res⟩) g.fr g.fr.at_ (Mc.var g.ks) 0 (Xr.valV s fr x.res)).evs.length + 12 * (Xr.wrS (Xr.tell (Xr.valS s fr x.res) ⟨6, fr.num, g.fr.at_, 0, 0, Xr.valV s fr x.res⟩) g.fr g.fr.at_ (Mc.var g.ks) 0 (Xr.valV s fr x.res)).fuel + 3 * (_ :: r2).length ≤ 6100
       rw [hfe, List.length_cons]
       omega
     · show (Xr.wrS (Xr.tell (Xr.valS s fr x.res) ⟨6, fr.num, g.fr.at_, 0, 0, Xr.valV s fr x.res⟩) g.fr g.fr.at_ (Mc.var g.ks) 0 (Xr.valV s fr x.res)).made + (Xr.wrS (Xr.tell (Xr.valS s fr x.res) ⟨6, fr.num, g.fr.at_, 0, 0, Xr.valV s fr x.res⟩) g.fr g.fr.at_ (Mc.var g.ks) 0 (Xr.valV s fr x.res)).fuel ≤ 600
       rw [hfe, hme]
       exact hb2
     · omega
   | some q =>
    obtain ⟨j, c, a⟩ := q
    have hd : Mc.do1 p ⟨s, ⟨fr, fn, some ⟨j, c, a⟩ :: ks⟩ :: r⟩ = if s.fuel = 0 then ⟨Xr.fin s fr a 1, []⟩ else Mc.cmd p j c a (Xr.stepS s fr a) (Xr.stepF s fr a) fn ks r := rfl
    rw [hd] at he2 ⊢
    by_cases h0 : s.fuel = 0
    · rw [if_pos h0] at he2
      exact absurd he2 (by simp [Xr.fin])
    · rw [if_neg h0] at he2 ⊢
      have hs1 : Xr.stepS s fr a = { s with fuel := s.fuel - 1, evs := s.evs ++ [⟨1, fr.num, (a : Nat), 0, 0, 0⟩] } := by
       unfold Xr.stepS
       rw [if_neg h0, Xr.tell_no (by exact he)]
      have e1 : (Xr.stepS s fr a).evs.length = s.evs.length + 1 := by rw [hs1]; exact List.length_append
      have e2 : (Xr.stepS s fr a).fuel + 1 = s.fuel := by rw [hs1]; show s.fuel - 1 + 1 = _; omega
      have e3 : (Xr.stepS s fr a).made = s.made := by rw [hs1]
      have hk0 : Mc.TOk p fn x (some ⟨j, c, a⟩) := htk _ List.mem_cons_self
      obtain ⟨⟨w1, w2, w3⟩, w4⟩ := hk0
      clear hs1
      generalize Xr.stepS s fr a = s1 at *
      generalize Xr.stepF s fr a = f1 at *
      have fin : ∀ (s2 : Xr.S) (f2 : Mc.F m), s2.fuel = s1.fuel → s2.made = s1.made → s2.evs.length ≤ s1.evs.length + 4 → s1.evs <+: s2.evs → Mc.Bd (⟨s2, f2 :: r⟩ : Mc.St m) ∧ s.evs.length + 1 ≤ s2.evs.length := fun s2 f2 q1 q2 q3 q4 => by
       have q5 := q4.length_le
       refine ⟨⟨?_, ?_⟩, by omega⟩
       · show s2.evs.length + 12 * s2.fuel + 3 * (f2 :: r).length ≤ 6100
         rw [List.length_cons]
         omega
       · show s2.made + s2.fuel ≤ 600
         omega
      have pr : s1.evs <+: s1.evs := List.prefix_refl _
      have cg := Xr.cl_grows s1.evs
      have lv := Mc.ln_val s1 f1 c.2.1.2.1
      unfold Mc.cmd at he2 ⊢
      by_cases c1 : c.1.1 = 1
      · rw [if_pos c1]
        exact fin _ _ ((Mc.fuel_tell _ _).trans (Mc.fuel_val _ _ _)) ((Mc.md_tell _ _).trans (Mc.md_val _ _ _)) (Nat.le_trans (Mc.ln_tell _ _) (by omega)) (cg.wr _ _ _ _ _ _ (cg.val _ _ _ pr))
      rw [if_neg c1] at he2 ⊢
      by_cases c2 : c.1.1 = 2
      · rw [if_pos c2]
        exact fin _ _ (Mc.fuel_put _ _ _ _ _) (Mc.md_put _ _ _ _ _) (Nat.le_trans (Mc.ln_put _ _ _ _ _) (by omega)) (cg.put _ _ _ _ _ pr)
      rw [if_neg c2] at he2 ⊢
      by_cases c3 : c.1.1 = 3
      · rw [if_pos c3] at he2 ⊢
        unfold Mc.call at he2 ⊢
        by_cases h5 : r.length = 5
        · rw [if_pos h5] at he2
          exact absurd he2 (by simp [Xr.fin])
        · rw [if_neg h5] at he2 ⊢
          cases hq : p[c.1.2.2.toNat]? with
          | none => exact fin _ _ rfl rfl (by omega) pr
          | some xq =>
           dsimp only
           have hal : c.2.1.2.2.length ≤ 3 := by
            obtain ⟨_, _, hmy, _, _, _⟩ := Xr.wc_ok (show Pg.wc c.1.1 (Pg.at? x.sizes c.1.2.1) (Pg.may fn p.length c.1.2.2) _ (decide ((c.2.1.2.2.length : Int) = Pg.parOf p c.1.2.2)) _ _ _ = 0 from w1)
            have h1 : (c.2.1.2.2.length : Int) = Pg.parOf p c.1.2.2 := of_decide_eq_true (hmy c3).2
            have h2 : Pg.parOf p c.1.2.2 = xq.params := by unfold Pg.parOf; rw [hq]; rfl
            have hwh : Pg.whead (decide (c.1.2.2.toNat + 1 = p.length)) xq.params xq.sizes = 0 := (Pg.orW_zero (show Pg.orW _ (Pg.orW _ _) = 0 from hok _ xq hq)).1
            unfold Pg.whead at hwh
            split at hwh
            · cases hwh
            split at hwh
            · cases hwh
            rename_i h8
            omega
           obtain ⟨sA, hsA⟩ : ∃ sA, sA = Xr.argS f1 c.2.1.2.2 s1 := ⟨_, rfl⟩
           obtain ⟨vA, hvA⟩ : ∃ vA, vA = Xr.argV f1 c.2.1.2.2 s1 := ⟨_, rfl⟩
           have a1 : sA.evs.length ≤ s1.evs.length + 3 := by have := Mc.ln_arg f1 c.2.1.2.2 s1; rw [hsA]; omega
           have a2 : vA.length ≤ 3 := by rw [hvA, Mc.ln_argV]; exact hal
           have a3 : sA.fuel = s1.fuel := by rw [hsA]; exact Mc.fuel_arg _ _ _
           have a4 : sA.made = s1.made := by rw [hsA]; exact Mc.md_arg _ _ _
           have a5 : s1.evs <+: sA.evs := by rw [hsA]; exact cg.arg _ _ _ pr
           rw [← hsA, ← hvA] at he2 ⊢
           have b1 : (Xr.beg sA f1 (c.1.2.2.toNat : Nat)).fuel = s1.fuel := (Mc.fuel_tell _ _).trans a3
           have b2 : (Xr.beg sA f1 (c.1.2.2.toNat : Nat)).made = s1.made + 1 := (Mc.md_tell _ _).trans (by show sA.made + 1 = _; rw [a4])
           have b3 : (Xr.beg sA f1 (c.1.2.2.toNat : Nat)).evs.length ≤ sA.evs.length + 1 := Mc.ln_tell _ _
           have b4 : s1.evs <+: (Xr.beg sA f1 (c.1.2.2.toNat : Nat)).evs := cg.call _ _ _ a5
           have d1 := Mc.ln_par (Xr.newF (sA.made + 1) (f1.deep + 1) xq.sizes) f1.at_ vA 0 (Xr.beg sA f1 (c.1.2.2.toNat : Nat))
           have d2 := (cg.par (Xr.newF (sA.made + 1) (f1.deep + 1) xq.sizes) f1.at_ vA 0 _ b4).length_le
           have d3 := (Mc.fuel_par (Xr.newF (sA.made + 1) (f1.deep + 1) xq.sizes) f1.at_ vA 0 (Xr.beg sA f1 (c.1.2.2.toNat : Nat))).trans b1
           have d4 := (Mc.md_par (Xr.newF (sA.made + 1) (f1.deep + 1) xq.sizes) f1.at_ vA 0 (Xr.beg sA f1 (c.1.2.2.toNat : Nat))).trans b2
           refine ⟨⟨?_, ?_⟩, ?_⟩
           · show (Xr.parS (Xr.newF (sA.made + 1) (f1.deep + 1) xq.sizes) f1.at_ 0 vA (Xr.beg sA f1 (c.1.2.2.toNat : Nat))).evs.length + 12 * (Xr.parS (Xr.newF (sA.made + 1) (f1.deep + 1) xq.sizes) f1.at_ 0 vA (Xr.beg sA f1 (c.1.2.2.toNat : Nat))).fuel + 3 * (_ :: _ :: r).length ≤ 6100
             rw [List.length_cons, List.length_cons]
             omega
           · show (Xr.parS (Xr.newF (sA.made + 1) (f1.deep + 1) xq.sizes) f1.at_ 0 vA (Xr.beg sA f1 (c.1.2.2.toNat : Nat))).made + (Xr.parS (Xr.newF (sA.made + 1) (f1.deep + 1) xq.sizes) f1.at_ 0 vA (Xr.beg sA f1 (c.1.2.2.toNat : Nat))).fuel ≤ 600
             omega
           · show s.evs.length + 1 ≤ (Xr.parS (Xr.newF (sA.made + 1) (f1.deep + 1) xq.sizes) f1.at_ 0 vA (Xr.beg sA f1 (c.1.2.2.toNat : Nat))).evs.length
             omega
      rw [if_neg c3] at he2 ⊢
      by_cases c4 : c.1.1 = 4
      · rw [if_pos c4]
        refine fin _ _ ((Mc.fuel_tell _ _).trans (Mc.fuel_tell _ _)) ((Mc.md_tell _ _).trans (Mc.md_tell _ _)) (Nat.le_trans (Mc.ln_tell _ _) ?_) (cg.rd _ _ _ pr)
        have h1 : (Xr.rdS s1 f1).evs.length ≤ s1.evs.length + 1 := Mc.ln_tell _ _
        exact Nat.le_trans (Nat.add_le_add_right h1 1) (by omega)
      rw [if_neg c4] at he2 ⊢
      by_cases c5 : c.1.1 = 5
      · rw [if_pos c5]
        exact fin _ _ ((Mc.fuel_tell _ _).trans (Mc.fuel_val _ _ _)) ((Mc.md_tell _ _).trans (Mc.md_val _ _ _)) (Nat.le_trans (Mc.ln_tell _ _) (by omega)) (cg.tell _ _ (Or.inr (Or.inl rfl)) (cg.val _ _ _ pr))
      rw [if_neg c5] at he2 ⊢
      by_cases c6 : c.1.1 = 6
      · rw [if_pos c6]
        exact fin _ _ (Mc.fuel_val _ _ _) (Mc.md_val _ _ _) (by omega) (cg.val _ _ _ pr)
      · rw [if_neg c6]
        exact fin _ _ (Mc.fuel_val _ _ _) (Mc.md_val _ _ _) (by omega) (cg.val _ _ _ pr)
end
end Go.Proofs.Ytcalcikclcmkaaa
namespace Go.Proofs.Ytcalcikclcmkaaa
open Go.RowKit
set_option linter.unusedVariables false
section
variable {m n : Nat}
theorem Mc.ini_ok {p : List (Pg.FT m n)} (hok : ∀ (i : Nat) (x : Pg.FT m n), p[i]? = some x → Pg.wfn p i x = 0) (hc : (p.map (fun f => Pg.cnts f.cmds)).sum ≤ 40) {x : Pg.FT m n} (hx : p[p.length - 1]? = some x) (inp : List Int) {fuel : Nat} (hf : fuel ≤ 500) : Mc.Ok p (Mc.ini p x inp fuel) :=
 ⟨by simp [Mc.ini], by show 1 ≤ 6; omega, fun f hf2 => by
  rcases List.mem_cons.1 (show f ∈ [_] from hf2) with rfl | h
  · exact Mc.new_ok hok hc hx _ (Xr.Sh.new _ _ _) hf
  · exact absurd h (List.not_mem_nil), fun f hf2 => (absurd hf2 List.not_mem_nil), hf, fun f hf2 => (absurd hf2 List.not_mem_nil)⟩
theorem Mc.ini_bd {p : List (Pg.FT m n)} {x : Pg.FT m n} (inp : List Int) {fuel : Nat} (hf : fuel ≤ 500) : Mc.Bd (Mc.ini p x inp fuel) := ⟨by show 0 + 12 * fuel + 3 * 1 ≤ 6100; omega, by show 0 + fuel ≤ 600; omega⟩
theorem Mc.fz_of {W : World} {b : Nat} {c : Array Value} {e : TypeId} (h : W.heap[b]? = some (Obj.cells c e)) (i : Nat) : W.frozen? ⟨b, i, none⟩ = false := by simp [World.frozen?, h]
theorem Mc.go_succ {p : List (Pg.FT m n)} {t : Mc.St m} (h : t.s.ended = false) (k : Nat) : Mc.go p (k + 1) t = Mc.go p k (Mc.do1 p t) := by
 show (if t.s.ended then t else _) = _
 rw [if_neg (by simp [h])]
theorem TraceOf_any (fs : Pg.Sl) (p : List (Pg.FT m n)) (ts : Pg.Sl) (inp : List Int) (fuel : Nat) (hf5 : fuel ≤ 500) (w : World) (hpp : Xr.PP w fs p) (hp0 : 0 < p.length) (hin : Pg.RN w ts inp) :
  Calls Try.prog 14 #[.agg #[.slice fs.ad fs.len fs.cap], .slice ts.ad ts.len ts.cap, .int .i64 (fuel : Nat)] w fun r w' => ∃ a c, r = .returned (.slice a (Xr.main p inp fuel).length c) ∧ w'.ownsRow w.heap.size 50 6 (.slice a (Xr.main p inp fuel).length c) (Xr.main p inp fuel).length (Xr.evC (Xr.main p inp fuel)) ∧ Below w.heap.size w w' := by
 have hfew := hpp.few
 have hcnt := hpp.cnt
 obtain ⟨q, hq⟩ : ∃ q, q = p.length - 1 := ⟨_, rfl⟩
 obtain ⟨x, hx0⟩ : ∃ x, p[p.length - 1]? = some x := ⟨_, List.getElem?_eq_getElem (by omega)⟩
 obtain ⟨K, hK1, hK2⟩ := Mc.main_go hx0 inp fuel
 have hok0 := Mc.ini_ok hpp.ok hcnt hx0 inp hf5
 have hxq : p[q]? = some x := by rw [hq]; exact hx0
 obtain ⟨hwh, hwc, hwr⟩ := hpp.parts hxq
 obtain ⟨hd0, hd1, hd2, hd3⟩ := Xr.head_ok hwh
 obtain ⟨qa, ql, qc⟩ := fs
 have hrp : Pg.RP w m n ⟨qa, ql, qc⟩ p := hpp.rp
 obtain ⟨b, o, ff, hqa, hqlt, hrf, hlf⟩ := Mc.fn_at hrp hxq
 subst hqa
 have hqe : ql = q + 1 := by have h5 : ql = p.length := hrp.len; omega
 subst hqe
 have hfirst : Xr.firstOf p q + Pg.cnts x.cmds ≤ 500 := by have := Mc.first_le hcnt hxq; omega
 obtain ⟨ia, il, ic⟩ := ts
 dsimp only
 clear hwh hwc hwr
 refine calls_of_wp Try.func14 rfl ?_
 rw [show Try.f14.ntmps - (#[.agg #[.slice (some ⟨b, o, none⟩) (q + 1) qc], .slice ia il ic, .int .i64 (fuel : Nat)] : Array Value).size = 48 by rw [Try.ntmps14]; rfl]
 obtain ⟨T0, hT0⟩ : ∃ T0 : Array Value, T0 = (#[Value.agg #[Value.slice (some ⟨b, o, none⟩) (q + 1) qc], Value.slice ia il ic, Value.int .i64 ((fuel : Nat) : Int)] : Array Value) ++ Array.replicate 48 undef := ⟨_, rfl⟩
 have hT : T0.size = 51 := by rw [hT0, Array.size_append, Array.size_replicate]; rfl
 have s0 : T0[0]? = some (.agg #[.slice (some ⟨b, o, none⟩) (q + 1) qc]) := by rw [hT0]; simp
 have s1 : T0[1]? = some (.slice ia il ic) := by rw [hT0]; simp
 have s2 : T0[2]? = some (.int .i64 (fuel : Nat)) := by rw [hT0]; simp
 rw [← hT0]
 clear hT0
 refine wp_seq ?_
 refine Fq.at_ Try.f14 0 (by kernel_rfl) ?_
 refine mt_r0 hT s0 (fun U1 ⟨k1, u3, u6⟩ => ?_)
 have z1 := k1.size.trans hT
 have u1 := (k1.at_ 1 (by omega)).trans s1
 have u2 := (k1.at_ 2 (by omega)).trans s2
 refine Fq.ok ?_
 have hb1 := (Below.refl w.heap.size w).alloc (Nat.le_refl _) (Obj.cells #[.slice (some ⟨b, o, none⟩) (q + 1) qc] 36)
 have hp1 := heap_alloc_new w (Obj.cells #[.slice (some ⟨b, o, none⟩) (q + 1) qc] 36)
 have hz1 : (w.alloc (Obj.cells #[.slice (some ⟨b, o, none⟩) (q + 1) qc] 36)).heap.size = w.heap.size + 1 := by simp
 obtain ⟨bp, hbp⟩ : ∃ bp, bp = w.heap.size := ⟨_, rfl⟩
 rw [← hbp] at u3 hp1
 generalize w.alloc (Obj.cells #[.slice (some ⟨b, o, none⟩) (q + 1) qc] 36) = w1 at *
 refine wp_seq ?_
 refine Fq.at_ Try.f14 1 (by kernel_rfl) ?_
 refine mt_r1 (k := q) z1 u3 ((cell_of_row w1 bp 0 _ _ _ hp1).trans rfl) (by omega) (fun U2 ⟨k2, u7⟩ => ?_)
 have z2 := k2.size.trans z1
 have v1 := (k2.at_ 1 (by omega)).trans u1
 have v2 := (k2.at_ 2 (by omega)).trans u2
 have v3 := (k2.at_ 3 (by omega)).trans u3
 refine Fq.ok ?_
 refine wp_seq ?_
 refine Fq.at_ Try.f14 2 (by kernel_rfl) ?_
 refine mt_r2 z2 v1 v2 v3 ((cell_of_row w1 bp 0 _ _ _ hp1).trans rfl) (fun U3 ⟨k3, u8⟩ => ?_)
 have z3 := k3.size.trans z2
 have w3' := (k3.at_ 3 (by omega)).trans v3
 have w7 := (k3.at_ 7 (by omega)).trans u7
 refine Fq.ok ?_
 have hj0 : Mc.J (m := m) w (w1.alloc (Obj.cells #[.slice (some ⟨b, o, none⟩) (q + 1) qc, .slice ia il ic, .int .i64 0, .int .i64 (fuel : Nat), .int .i64 0, .int .i64 1, .slice none 0 0, .slice none 0 0, .bool false] 74)) [(bp, Obj.cells #[.slice (some ⟨b, o, none⟩) (q + 1) qc] 36)] (fun k => if k = w1.heap.size then 0 else if k = bp then 3 else 4) w1.heap.size ⟨some ⟨b, o, none⟩, q + 1, qc⟩ ⟨ia, il, ic⟩ inp fuel 0 ⟨inp, fuel, 0, [], false⟩ [] (.slice none 0 0) (.slice none 0 0) := by
  have hn := heap_alloc_new w1 (Obj.cells #[.slice (some ⟨b, o, none⟩) (q + 1) qc, .slice ia il ic, .int .i64 0, .int .i64 (fuel : Nat), .int .i64 0, .int .i64 1, .slice none 0 0, .slice none 0 0, .bool false] 74)
  have hc : ∀ i, (w1.alloc (Obj.cells #[.slice (some ⟨b, o, none⟩) (q + 1) qc, .slice ia il ic, .int .i64 0, .int .i64 (fuel : Nat), .int .i64 0, .int .i64 1, .slice none 0 0, .slice none 0 0, .bool false] 74)).cell? ⟨w1.heap.size, i, none⟩ = (#[.slice (some ⟨b, o, none⟩) (q + 1) qc, .slice ia il ic, .int .i64 0, .int .i64 (fuel : Nat), .int .i64 0, .int .i64 1, .slice none 0 0, .slice none 0 0, .bool false] : Array Value)[i]? := fun i => cell_of_row _ _ i _ _ _ hn
  have hb2 := hb1.alloc hb1.size (Obj.cells #[.slice (some ⟨b, o, none⟩) (q + 1) qc, .slice ia il ic, .int .i64 0, .int .i64 (fuel : Nat), .int .i64 0, .int .i64 1, .slice none 0 0, .slice none 0 0, .bool false] 74)
  refine ⟨hb2, fun k hk => ?_, hb1.size, if_pos rfl, ⟨hc 0, hc 1, ⟨0, hc 2, rfl, Nat.le_refl _⟩, hc 3, ⟨0, hc 4, Nat.zero_add _⟩, hc 5, hc 6, hc 7, hc 8, fun i => Mc.fz_of hn i⟩, ⟨rfl, .inl ⟨rfl, rfl⟩⟩, fun k hk => ?_, ⟨rfl, .inl ⟨rfl, rfl⟩⟩, fun k hk => ?_, trivial, fun y hy => ?_⟩
  · show (if k = w1.heap.size then 0 else if k = bp then 3 else 4) = 4
    rw [if_neg (by omega), if_neg (by omega)]
  · have e2 : none = some k := hk
    cases e2
  · have e2 : none = some k := hk
    cases e2
  · rcases List.mem_cons.1 hy with rfl | hy
    · refine ⟨(Mc.new_old1 w1 _ (by show bp < w1.heap.size; omega)).trans hp1, ?_⟩
      show (if bp = w1.heap.size then 0 else if bp = bp then 3 else 4) = 3
      rw [if_neg (by omega), if_pos rfl]
    · cases hy
 generalize hbm : w1.heap.size = bm at *
 generalize hw2 : w1.alloc (Obj.cells #[.slice (some ⟨b, o, none⟩) (q + 1) qc, .slice ia il ic, .int .i64 0, .int .i64 (fuel : Nat), .int .i64 0, .int .i64 1, .slice none 0 0, .slice none 0 0, .bool false] 74) = w2 at *
 generalize (fun k => if k = bm then 0 else if k = bp then 3 else 4 : Nat → Nat) = tg at *
 have hmp : (bp, Obj.cells #[.slice (some ⟨b, o, none⟩) (q + 1) qc] 36) ∈ [(bp, Obj.cells #[.slice (some ⟨b, o, none⟩) (q + 1) qc] 36)] := List.mem_cons_self
 have hpc : ∀ V : World, Below w2.heap.size w2 V → V.cell? ⟨bp, 0, none⟩ = some (.slice (some ⟨b, o, none⟩) (q + 1) qc) := fun V hV => (cell_of_row V bp 0 _ _ _ ((hj0.below hV).kp _ hmp).1).trans rfl
 clear hw2 hbm hp1 hb1
 refine wp_seq ?_
 refine Fq.at_ Try.f14 3 (by kernel_rfl) ?_
 refine mt_r3 (q := q) (zs := Xr.zeros x.sizes) (zl := x.sizes.length) z3 w3' w7 (hpc w2 (Below.refl _ _)) (by omega) (by omega) (hlf w2 hj0.bel).c1 (ZeroVars_any ff.sizes.ad ff.sizes.len ff.sizes.cap x.sizes w2 (hrf.sizes.later hj0.bel (Nat.le_refl _)) (by omega) (fun z hz => ⟨(hd3 z hz).1, by have := (hd3 z hz).2; omega⟩)) (fun U4 w3 ⟨k4, gv, vb, cz, w5, u9, hw3, hzf0, hb5⟩ => ?_)
 have z4 := k4.size.trans z3
 have x3 := (k4.at_ 3 (by omega)).trans w3'
 have x7 := (k4.at_ 7 (by omega)).trans w7
 have x8 := (k4.at_ 8 (by omega)).trans u8
 have hbt : w3.heap[w5.heap.size]? = some (Obj.cells #[.int .i64 0, .int .i64 0, .int .i64 0, .int .i64 0, .int .i64 0, .slice none 0 0, .int .i64 0, .int .i64 0, .slice none 0 0, .slice none 0 0, .slice none 0 0, .slice none 0 0, .int .i64 0, .bool false, .bool true] 82) := by rw [hw3]; exact Mc.new1 _ _ _
 have hbb : w3.heap[w5.heap.size + 1]? = some (Obj.cells #[.int .i64 0, .int .i64 (q : Nat), .int .i64 (-1), .slice (gv.map fun g => ⟨g, 0, none⟩) x.sizes.length cz, .slice (some ⟨w5.heap.size, 0, none⟩) 1 1] 85) := by rw [hw3]; exact Mc.new2 _ _ _
 have hb23 : Below w2.heap.size w2 w3 := by rw [hw3]; exact Mc.bl_al (Mc.bl_al hb5 _) _
 have hzf : Xr.Zf w3 w2.heap.size gv vb cz (Xr.zeros x.sizes) := by
  rw [hw3]
  exact hzf0.kept (Mc.new_le _ _ _) (fun k hk => Mc.new_old _ _ _ (hzf0.ge k hk).2)
 have hnb : w5.heap.size + 1 ∉ gv.toList ++ vb := fun hk => by have := (hzf0.ge _ hk).2; omega
 have hnt : w5.heap.size ∉ gv.toList ++ vb := fun hk => by have := (hzf0.ge _ hk).2; omega
 have hgt := hb5.size
 obtain ⟨bt, hbtd⟩ : ∃ bt, bt = w5.heap.size := ⟨_, rfl⟩
 obtain ⟨bb, hbbd⟩ : ∃ bb, bb = w5.heap.size + 1 := ⟨_, rfl⟩
 rw [← hbbd] at hbb hnb u9
 rw [← hbtd] at hbt hnt hgt hbb
 have hgb : w2.heap.size ≤ bb := by omega
 have hbbt : bb ≠ bt := by omega
 clear hw3 hzf0 hb5 hbtd hbbd
 refine Fq.ok ?_
 refine wp_seq ?_
 refine Fq.at_ Try.f14 4 (by kernel_rfl) ?_
 refine mt_r4 (R := fun w' => ∃ (V : World) (tv' : Value) (ccs : List Pg.C), Below w3.heap.size w3 V ∧ Mc.Gr w2.heap.size V w' bb 4 (.slice (some ⟨bt, 0, none⟩) 1 1) tv' (Mc.push n x.cmds (Xr.firstOf p q) ++ [none]) (ccs ++ [Mc.c0]) ∧ Mc.RKs w (Mc.push n x.cmds (Xr.firstOf p q)) ccs) z4 x3 x7 u9 (fun V hV => ⟨hpc V (hb23.trans (hV.mono hb23.size)), (hlf V ((hj0.below hb23).below hV).bel).c2⟩) (by omega) (by omega) (FirstCmd_any _ (q + 1) qc p w3.drew (hrp.later ((hj0.below hb23).below ((Below.refl _ _).drew)).bel (Nat.le_refl _)) q (by omega) (by omega)) (fun V hV => by
  have hjV := (hj0.below hb23).below hV
  obtain ⟨ccs, A, hA0, hpu, hrks2⟩ := Mc.Pu.of hjV.bel n ff.cmds x.cmds (Xr.firstOf p q) hrf.cmds hfirst
  have hbbV := (hV.block bb (Array.getElem?_eq_some_iff.1 hbb).1).trans hbb
  have hbtV := (hV.block bt (Array.getElem?_eq_some_iff.1 hbt).1).trans hbt
  refine (Push_any V w2.heap.size (Nat.le_trans hb23.size hV.size) bb 0 ff.cmds.ad ff.cmds.len ff.cmds.cap (Xr.firstOf p q) _ ccs A hA0 hpu (.slice (some ⟨bt, 0, none⟩) 1 1) [none] [Mc.c0] (by show 1 ≤ _; omega) ((cell_of_row V bb 4 _ _ _ hbbV).trans rfl) (by simp [World.frozen?, hbbV]) (Mc.own_one hgt hbtV) (fun e => hbbt (by cases e; rfl))).mono ?_
  rintro r9 w9' ⟨rfl, tv9, hgr⟩
  exact ⟨rfl, V, tv9, ccs, hV, hgr, hrks2⟩) (fun U5 w6 ⟨k5, V, tv', ccs, hVb, hgr, hrks⟩ => ?_)
 have z5 := k5.size.trans z4
 have y8 := (k5.at_ 8 (by omega)).trans x8
 have y9 := (k5.at_ 9 (by omega)).trans u9
 have hb26 := Mc.gr_below hb23 hVb hgr hgb hgt
 have hj6 := hj0.below hb26
 have hblt := hj0.lt
 have hlen1 : (Mc.push n x.cmds (Xr.firstOf p q) ++ [none] : List (Mc.K m)).length ≠ 0 := by rw [List.length_append]; simp
 obtain ⟨gt', tc', htv'⟩ : ∃ gt' tc', tv' = .slice (some ⟨gt', 0, none⟩) (Mc.push n x.cmds (Xr.firstOf p q) ++ [none] : List (Mc.K m)).length tc' := by
  rcases hgr.row.2 with ⟨q1, q2⟩ | ⟨gq, cap, cur, hv, _⟩
  · exact absurd q2 hlen1
  · exact ⟨gq, cap, hv⟩
 have hbbV := (hVb.block bb (Array.getElem?_eq_some_iff.1 hbb).1).trans hbb
 have hbb6 : w6.heap[bb]? = some (Obj.cells #[.int .i64 0, .int .i64 (q : Nat), .int .i64 (-1), .slice (gv.map fun g => ⟨g, 0, none⟩) x.sizes.length cz, tv'] 85) := hgr.bfb.trans (heap_setCell_same V bb 4 _ _ tv' hbbV)
 have hzf6 : Xr.Zf w6 w2.heap.size gv vb cz (Xr.zeros x.sizes) := hzf.kept (Nat.le_trans hVb.size hgr.size) (fun k hk => by
  have hk1 := hzf.ge k hk
  exact (hgr.blk k (Nat.lt_of_lt_of_le hk1.2 hVb.size) (fun e => hnb (e ▸ hk)) (fun e => hnt (by cases e; exact hk))).trans (hVb.block k hk1.2))
 have hap6 : ∀ k, tv'.ownBlock = some k → k ∉ gv.toList ++ vb := fun k hk hk2 => by
  rcases hgr.at_ with e | e
  · rw [e] at hk
    cases hk
    exact hnt hk2
  · have h1 := e k hk
    have h2 := (hzf.ge k hk2).2
    have h3 := hVb.size
    omega
 have hrk6 : Mc.RKs w (Mc.push n x.cmds (Xr.firstOf p q) ++ [none]) (ccs ++ [Mc.c0]) := Mc.rks_app _ _ _ _ hrks ⟨trivial, trivial⟩
 refine Fq.ok ?_
 refine wp_seq ?_
 refine Fq.at_ Try.f14 5 (by kernel_rfl) ?_
 refine mt_r5 (B := w.heap.size) (ta := some ⟨gt', 0, none⟩) (tn := (Mc.push n x.cmds (Xr.firstOf p q) ++ [none] : List (Mc.K m)).length) (tc := tc') z5 y8 y9 hj6.box.c6 (hj6.box.fz 6) ((cell_of_row w6 bb 0 _ _ _ hbb6).trans rfl) ((cell_of_row w6 bb 1 _ _ _ hbb6).trans rfl) ((cell_of_row w6 bb 2 _ _ _ hbb6).trans rfl) ((cell_of_row w6 bb 3 _ _ _ hbb6).trans rfl) ((cell_of_row w6 bb 4 _ _ _ hbb6).trans (show some tv' = some _ from congrArg some htv')) hj6.bel.size (fun U6 w8 ⟨k6, gA, cA, w9, hw8, hgA, hoA, hatA⟩ => ?_)
 have z6 := k6.size.trans z5
 have a8 := (k6.at_ 8 (by omega)).trans y8
 obtain ⟨tg8, hj8⟩ := hj0.pushF (Mc.Ag.below hb26) (s' := ⟨inp, fuel, 0, [], false⟩) rfl hj6.box (⟨Xr.newF 0 0 x.sizes, q, Mc.push n x.cmds (Xr.firstOf p q) ++ [none]⟩, ⟨gv, vb, cz, tv', ccs ++ [Mc.c0]⟩) hzf6 hgr.row hap6 hrk6 hgA gA cA (by
  have h1 := hoA
  rw [← htv'] at h1
  show w9.ownsRow _ _ _ _ _ ([] ++ [_, _, _, Value.slice _ (Xr.newF 0 0 x.sizes).vs.length cz, _])
  rw [Mc.newF_len]
  exact h1) hatA
 rw [List.length_nil, Nat.zero_add, ← hw8] at hj8
 have hj9 := hj8.sub (hs' := []) (fun y hy => by cases hy)
 clear hj8 hj6 hj0 hzf6 hap6 hrk6 hgA hoA hatA hw8 hbb6 hbbV hgr hrks hVb hb26 hzf hb23 hbb hbt hpc hmp
 have hpo : Mc.Post w [] bm ⟨some ⟨b, o, none⟩, q + 1, qc⟩ ⟨ia, il, ic⟩ inp fuel 0 (Mc.ini p x inp fuel) w8 := Mc.Post.on rfl hj9 (by unfold Mc.ini; rw [← hq]; rfl)
 have hbd0 := Mc.ini_bd (p := p) (x := x) inp hf5
 generalize Mc.ini p x inp fuel = t0 at *
 refine Fq.ok ?_
 refine wp_seq (wp_block ?_)
 refine wp_loop_ghost (fun d aa v => ∃ (U' : Array Value) (t : Mc.St m) (bnd : Nat), aa = ⟨U', []⟩ ∧ U'.size = 51 ∧ U'[8]? = some (.pointer (some ⟨bm, 0, none⟩)) ∧ Mc.Post w [] bm ⟨some ⟨b, o, none⟩, q + 1, qc⟩ ⟨ia, il, ic⟩ inp fuel bnd t v ∧ (Mc.go p d t).s.ended = true ∧ (Mc.go p d t).s.evs = Xr.main p inp fuel ∧ (t.s.ended = false → Mc.Ok p t ∧ Mc.Bd t ∧ bnd ≤ t.s.evs.length)) K ⟨U6, t0, 0, rfl, z6, a8, hpo, hK1, hK2, fun _ => ⟨hok0, hbd0, Nat.zero_le _⟩⟩ ?_
 clear hpo hbd0 hok0 hK1 hK2 a8 z6 hj9
 rintro d aa v ⟨Ua, t, bnd, rfl, za, a8, hpo, hg1, hg2, hrest⟩
 refine wp_seq (wp_seq ?_)
 refine Fq.at_ Try.f14 6 (by kernel_rfl) ?_
 cases hte : t.s.ended with
 | true =>
  have ho : ∃ ev, Mc.O w v bm t.s.evs ev := by
   unfold Mc.Post at hpo
   rw [if_pos hte] at hpo
   exact hpo
  obtain ⟨ev, ho⟩ := ho
  rw [Mc.go_ended hte] at hg2
  refine mt_r6 za a8 ho.c8 (fun Ub ⟨kb, h47⟩ => ?_)
  refine Fq.ok ?_
  refine Fq.cond_false (h47.trans (by rfl)) ?_
  refine wp_exit (Fq.thX (Fq.thX (Fq.blX (Fq.ok ?_))))
  rw [hg2] at ho
  obtain ⟨ea, ec, hev⟩ : ∃ ea ec, ev = .slice ea (Xr.main p inp fuel).length ec := by
   rcases ho.evr.2 with ⟨h1, h2⟩ | ⟨g, cap, cur, hv, _⟩
   · exact ⟨none, 0, by rw [h2]; exact h1⟩
   · exact ⟨_, _, hv⟩
  subst hev
  refine wp_seq ?_
  refine Fq.at_ Try.f14 8 (by kernel_rfl) ?_
  refine mt_r8 (kb.size.trans za) ((kb.at_ 8 (by omega)).trans a8) ho.c7 (fun Uc ⟨kc, c6⟩ => ?_)
  refine Fq.ok (wp_ret ?_)
  repeat (first | with_reducible refine Fq.thR ?_ | with_reducible refine Fq.blR ?_)
  exact Fq.ret rfl c6 ⟨ea, ec, rfl, ho.evr, ho.bel⟩
 | false =>
  have hj : ∃ tg ms rf ev, Mc.J w v [] tg bm ⟨some ⟨b, o, none⟩, q + 1, qc⟩ ⟨ia, il, ic⟩ inp fuel bnd t.s ms rf ev ∧ ms.map Prod.fst = t.fs := by
   unfold Mc.Post at hpo
   rw [if_neg (by simp [hte])] at hpo
   exact hpo
  obtain ⟨tg1, ms, rf, ev, hj, hms⟩ := hj
  obtain ⟨hok, hbd, hbn⟩ := hrest hte
  have hc8 := hj.box.c8
  rw [hte] at hc8
  refine mt_r6 za a8 hc8 (fun Ub ⟨kb, h47⟩ => ?_)
  have zb := kb.size.trans za
  refine Fq.ok ?_
  refine Fq.cond_true (h47.trans (by rfl)) ?_
  refine Fq.skip (Fq.ok ?_)
  refine wp_block ?_
  refine Fq.at_ Try.f14 7 (by kernel_rfl) ?_
  cases ms with
  | nil => exact absurd hms.symm hok.ne
  | cons y ms =>
   obtain ⟨s, tfs⟩ := t
   have hms2 : y.1 :: ms.map Prod.fst = tfs := hms
   subst hms2
   have hl1 := hbd.len
   have hl2 := hbd.made
   dsimp only at hl1 hl2 hbn hte hj
   refine mt_r7 zb ((kb.at_ 8 (by omega)).trans a8) (Do_any hpp (Call_any hpp) hin v y ms hj hte hok (by omega) hf5 (by omega) (by omega)) (fun Uc w10 ⟨kc, hpo2⟩ => ?_)
   refine Fq.blN ?_
   cases d with
   | zero => exact absurd hg1 (by show ¬ s.ended = true; rw [hte]; simp)
   | succ d =>
    rw [Mc.go_succ hte] at hg1 hg2
    refine ⟨d, Nat.lt_succ_self _, Uc, _, bnd + 1, rfl, kc.size.trans zb, (kc.at_ 8 (by omega)).trans ((kb.at_ 8 (by omega)).trans a8), hpo2, hg1, hg2, fun he2 => ?_⟩
    have h1 := Mc.do_bd hpp.ok hok hte he2 hbd
    exact ⟨Mc.do_ok hpp.ok hcnt hok hte he2, h1.1, Nat.le_trans (Nat.succ_le_succ hbn) h1.2⟩
end
end Go.Proofs.Ytcalcikclcmkaaa
