/-
  The document's runner: Call. By the verifier; written by mkrcall.py.
-/
import Derived.Test.YtpfogjplnodacaaGreatRCa
import Derived.Test.YtpfogjplnodacaaGreatR2
import Derived.Test.YtpfogjplnodacaaGreatLJ
set_option maxRecDepth 100000
set_option maxHeartbeats 6400000
namespace Go.Proofs.YtpfogjplnodacaaGreat
open Go.RowKit Go.Maps
set_option linter.unusedVariables false
def Rm.Post (w0 : World) (bm : Nat) (c : Vm.Cx) (fuel : Nat) (T : Vd.St) (W : World) : Prop :=
 ∃ (tg : Nat → Nat) (t : Pg.Sl) (s : Xr.S) (lo : Bool) (ms : List Rm.X) (rf ev : Value), Rm.J w0 W tg bm c t fuel s lo ms rf ev ∧ lo = T.lost ∧ (T.lost = false → s = T.s ∧ (s.ended = false → ms.map Prod.fst = T.fs))
def Rm.Own (V : World) (tg : Nat → Nat) (b : Nat) (O : Obj) : Prop := V.heap[b]? = some O ∧ tg b = 3
def Rm.OwnRow (V : World) (tg : Nat → Nat) (B : Nat) (v : Value) (n : Nat) (xs : List Value) : Prop := V.ownsRow B 3 1 v n xs ∧ ∀ q, v.ownBlock = some q → tg q = 3
theorem Rm.Own.keep {V V' : World} {tg tg' : Nat → Nat} {b : Nat} {O : Obj} (h : Rm.Own V tg b O) (k : Vm.K Rm.C tg tg' V V') : Rm.Own V' tg' b O := by
 have hlt := (Array.getElem?_eq_some_iff.1 h.1).1
 exact ⟨(k.blk b hlt (by rw [h.2]; unfold Rm.C; omega)).trans h.1, (k.tgk b hlt).trans h.2⟩
theorem Rm.OwnRow.keep {V V' : World} {tg tg' : Nat → Nat} {B n : Nat} {v : Value} {xs : List Value} (h : Rm.OwnRow V tg B v n xs) (k : Vm.K Rm.C tg tg' V V') : Rm.OwnRow V' tg' B v n xs :=
 ⟨Xr.ow_kept h.1 (fun q hq => k.blk q (h.1.lt q hq).2 (by rw [h.2 q hq]; unfold Rm.C; omega)), fun q hq => (k.tgk q (h.1.lt q hq).2).trans (h.2 q hq)⟩
theorem Rm.ow_mono {w : World} {base base' : Nat} {e : TypeId} {size : Nat} {v : Value} {n : Nat} {xs : List Value} (h : w.ownsRow base e size v n xs) (hb : base' ≤ base) : w.ownsRow base' e size v n xs := by
 obtain ⟨h1, h2⟩ := h
 refine ⟨h1, ?_⟩
 rcases h2 with h2 | ⟨g, cap, cur, a, b, r⟩
 · exact .inl h2
 · exact .inr ⟨g, cap, cur, a, Nat.le_trans hb b, r⟩
section
variable {w0 : World} {tg : Nat → Nat} {bm : Nat} {c : Vm.Cx} {t : Pg.Sl} {fuel : Nat} {s : Xr.S} {lo : Bool} {rf ev : Value}
theorem Rm.J.ownRow {W W' : World} {ms : List Rm.X} (h : Rm.J w0 W tg bm c t fuel s lo ms rf ev) (hb : Below W.heap.size W W') {v : Value} {n : Nat} {xs : List Value} (ho : W'.ownsRow W.heap.size 3 1 v n xs) :
  ∃ tg', Rm.J w0 W' tg' bm c t fuel s lo ms rf ev ∧ Vm.K Rm.C tg tg' W W' ∧ Rm.OwnRow W' tg' w0.heap.size v n xs := by
 have k : ∀ D : Nat → Prop, Vm.K D tg (fun q => if v.ownBlock = some q then 3 else tg q) W W' := fun D => (Vm.K.below hb).re (fun q hq => if_neg (fun e => by have := (ho.lt q e).1; omega))
 exact ⟨_, h.keep (k (fun _ => False)) (fun _ => id), k _, Rm.ow_mono ho h.bel.size, fun q hq => if_pos hq⟩
theorem Rm.OwnRow.ints {V : World} {tg : Nat → Nat} {B k rc : Nat} {ra : Option Addr} {zs : List Int} (h : Rm.OwnRow V tg B (.slice ra k rc) k (zs.map (Value.int .i64))) {i : Nat} {z : Int} (hz : zs[i]? = some z) : ∃ gl, ra = some ⟨gl, 0, none⟩ ∧ V.cell? ⟨gl, i, none⟩ = some (.int .i64 z) := by
 have hl : zs.length = k := by have := h.1.1; rw [List.length_map] at this; omega
 have hi : i < zs.length := (List.getElem?_eq_some_iff.1 hz).1
 rcases h.1.2 with ⟨_, h2⟩ | ⟨g, cap, cur, hv, _⟩
 · omega
 · have hv2 : ra = some ⟨g, 0, none⟩ := by cases hv; rfl
   subst hv2
   refine ⟨g, rfl, ?_⟩
   rw [h.1.cellAt i (by omega), List.getElem?_map, hz]
   rfl
theorem Rm.drop_tail (l : List Int) (i : Nat) : (l.drop i).tail = l.drop (i + 1) := by rw [List.tail_drop]
theorem Rm.drop_head (l : List Int) (i : Nat) (h : i + 1 ≤ l.length) : (l.drop i).headD 0 :: (l.take i).reverse = (l.take (i + 1)).reverse := by
 have h1 : i < l.length := by omega
 have e : (l.drop i).headD 0 = l[i] := by rw [List.drop_eq_getElem_cons h1]; rfl
 rw [e, List.take_add_one, List.getElem?_eq_getElem h1, List.reverse_append]
 rfl
theorem Rm.drop_lost (l : List Int) (i : Nat) : (!decide (i ≤ l.length) || (l.drop i).isEmpty) = !decide (i + 1 ≤ l.length) := by
 rw [Bool.eq_iff_iff]
 simp
 omega
theorem Rm.all_zero {sz : List Int} {k : Nat} (hk : k ≤ sz.length) (h : ∀ j, j < k → sz[j]? = some 0) : (sz.take k).all (· == 0) = true := by
 rw [List.all_eq_true]
 intro y hy
 obtain ⟨j, hj, rfl⟩ := List.mem_take_iff_getElem.1 hy
 have h1 := h j (by omega)
 rw [List.getElem?_eq_getElem (by omega)] at h1
 simpa using h1
theorem Rm.not_all {sz : List Int} {k j : Nat} {z : Int} (hj : j < k) (hz : sz[j]? = some z) (h0 : 0 < z) : ¬ (sz.take k).all (· == 0) = true := by
 intro h
 rw [List.all_eq_true] at h
 obtain ⟨h1, h4⟩ := List.getElem?_eq_some_iff.1 hz
 have h2 := h z (by rw [List.mem_take_iff_getElem]; exact ⟨j, by omega, h4⟩)
 have h3 : z = 0 := by simpa using h2
 omega
theorem rCall_any {li : List Kd.I} {fs : List Int} {ss : List (List Int)} (hco : Kd.RCo w0 c.si c.sf c.sz li fs ss) (hc : Vd.Cd li fs ss) (hss : ∀ sz ∈ ss, sz.length ≤ 2000000) (W : World) {f : Vd.F} {z : Rm.Z} {ms : List Rm.X} (h : Rm.J w0 W tg bm c t fuel s false ((f, z) :: ms) rf ev) (he : s.ended = false) (hl : s.evs.length ≤ 900000) (hmd : s.made ≤ 500000) (hms : ms.length ≤ 5) (hfo : Vd.FOk li ss f) (q nb : Nat) (hq : q < ss.length) (hnb : nb ≤ 3) :
  Calls Tryz.prog 49 #[.pointer (some ⟨bm, 0, none⟩), .agg #[.int .i64 12, .int .i64 (q : Nat), .int .i64 (nb : Nat)]] W fun r W' => r = .returned (.tuple #[]) ∧ Rm.Post w0 bm c fuel (Vd.does fs ss ⟨12, (q : Nat), (nb : Nat)⟩ s f (ms.map Prod.fst)) W' := by
 obtain ⟨g, gc, rfl⟩ := h.rfForm
 have htop := hfo.top
 obtain ⟨sz, hsz⟩ : ∃ sz, ss[q]? = some sz := ⟨_, List.getElem?_eq_getElem hq⟩
 have hszm := List.mem_of_getElem? hsz
 have hszl := hss sz hszm
 have hsz8 := hc.siz sz hszm
 obtain ⟨bs, os, st, hsad, hsb, hscell, hsrn⟩ := hco.szs.at_ q sz hsz
 have hstl : st.len = sz.length := hsrn.len
 have hslen : c.sz.len = ss.length := hco.szs.len
 have hsfew := hco.szs.few
 have hqf : q < fs.length := by rw [hc.len]; exact hq
 obtain ⟨pz, hpz⟩ : ∃ pz, fs[q]? = some pz := ⟨_, List.getElem?_eq_getElem hqf⟩
 have hpz0 := (hc.fst pz (List.mem_of_getElem? hpz)).1
 obtain ⟨bf, of_, hfad, hfb, hfcell⟩ := hco.fst.at_ q pz hpz
 have hflen : c.sf.len = fs.length := hco.fst.len
 have hffew := hco.fst.few
 have hd : Vd.does fs ss ⟨12, (q : Nat), (nb : Nat)⟩ s f (ms.map Prod.fst) = if nb ≤ f.pile.length ∧ nb ≤ sz.length ∧ (sz.take nb).all (· == 0) then Vd.call fs sz q (f.pile.take nb).reverse s { f with pile := f.pile.drop nb } (ms.map Prod.fst) else Vd.astray s := by
  rw [Vd.d12, Int.toNat_natCast, Int.toNat_natCast, hsz]
  rfl
 rw [hd]
 have hlost : ∀ {V : World} {tgv : Nat → Nat} {tv : Pg.Sl} {sv : Xr.S} {msv : List Rm.X} {rfv evv : Value}, Rm.J w0 V tgv bm c tv fuel sv true msv rfv evv → ¬ (nb ≤ f.pile.length ∧ nb ≤ sz.length ∧ (sz.take nb).all (· == 0) = true) → Rm.Post w0 bm c fuel (if nb ≤ f.pile.length ∧ nb ≤ sz.length ∧ (sz.take nb).all (· == 0) then Vd.call fs sz q (f.pile.take nb).reverse s { f with pile := f.pile.drop nb } (ms.map Prod.fst) else Vd.astray s) V := fun hj hn => by
  rw [if_neg hn]
  exact ⟨_, _, _, true, _, _, _, hj, rfl, fun e => by cases e⟩
 refine calls_of_wp Tryz.func49 rfl ?_
 rw [show Tryz.f49.ntmps - (#[.pointer (some ⟨bm, 0, none⟩), .agg #[.int .i64 12, .int .i64 (q : Nat), .int .i64 (nb : Nat)]] : Array Value).size = 129 by rw [Tryz.ntmps49]; rfl]
 obtain ⟨T0, hT0⟩ : ∃ T0, T0 = (#[.pointer (some ⟨bm, 0, none⟩), .agg #[.int .i64 12, .int .i64 (q : Nat), .int .i64 (nb : Nat)]] : Array Value) ++ Array.replicate 129 undef := ⟨_, rfl⟩
 have hT : T0.size = 131 := by rw [hT0, Array.size_append, Array.size_replicate]; rfl
 have s0 : T0[0]? = some (.pointer (some ⟨bm, 0, none⟩)) := by rw [hT0]; simp
 have s1 : T0[1]? = some (.agg #[.int .i64 12, .int .i64 (q : Nat), .int .i64 (nb : Nat)]) := by rw [hT0]; simp
 rw [← hT0]
 clear hT0
 refine wp_seq ?_
 refine Fq.at_ Tryz.f49 0 (by kernel_rfl) ?_
 refine rc_r0 hT s1 (fun U1 ⟨k1, u3⟩ => ?_)
 have z1 := k1.size.trans hT
 have u0 := (k1.at_ 0 (by omega)).trans s0
 obtain ⟨hj1, hk1⟩ := h.alloc Rm.C (Obj.cells #[.int .i64 12, .int .i64 (q : Nat), .int .i64 (nb : Nat)] 54)
 have how1 : Rm.Own (W.alloc (Obj.cells #[.int .i64 12, .int .i64 (q : Nat), .int .i64 (nb : Nat)] 54)) (fun q => if q = W.heap.size then 3 else tg q) W.heap.size (Obj.cells #[.int .i64 12, .int .i64 (q : Nat), .int .i64 (nb : Nat)] 54) := ⟨heap_alloc_new W _, if_pos rfl⟩
 generalize hb3 : W.heap.size = b3 at *
 generalize hw1 : W.alloc (Obj.cells #[.int .i64 12, .int .i64 (q : Nat), .int .i64 (nb : Nat)] 54) = w1 at *
 generalize (fun q => if q = b3 then 3 else tg q) = tg1 at *
 clear hw1 h hk1
 refine Fq.ok ?_
 refine wp_seq ?_
 refine Fq.at_ Tryz.f49 1 (by kernel_rfl) ?_
 refine rc_r1 z1 (fun U2 ⟨k2, u4⟩ => ?_)
 refine Fq.ok ?_
 refine wp_seq (wp_seq ?_)
 refine Fq.at_ Tryz.f49 2 (by kernel_rfl) ?_
 refine rc_r2 (k2.size.trans z1) (fun U3 ⟨k3, u5⟩ => ?_)
 refine Fq.ok ?_
 refine wp_block ?_
 refine wp_loop_ghost (fun d aa v => ∃ (U' : Array Value) (i : Nat) (tg' : Nat → Nat) (z' : Rm.Z) (la : Option Addr) (lc : Nat) (zs : List Int), aa = ⟨U', []⟩ ∧ i ≤ nb ∧ d = nb - i ∧ U'.size = 131 ∧ U'[0]? = some (.pointer (some ⟨bm, 0, none⟩)) ∧ U'[3]? = some (.pointer (some ⟨b3, 0, none⟩)) ∧ U'[4]? = some (.slice la i lc) ∧ U'[5]? = some (.int .i64 (i : Nat)) ∧ Rm.J w0 v tg' bm c t fuel s (!decide (i ≤ f.pile.length)) (({ f with pile := f.pile.drop i }, z') :: ms) (.slice (some ⟨g, 0, none⟩) (ms.length + 1) gc) ev ∧ Rm.Own v tg' b3 (Obj.cells #[.int .i64 12, .int .i64 (q : Nat), .int .i64 (nb : Nat)] 54) ∧ Rm.OwnRow v tg' w0.heap.size (.slice la i lc) i (zs.map (Value.int .i64)) ∧ (i ≤ f.pile.length → zs = (f.pile.take i).reverse)) nb
  ⟨U3, 0, tg1, z, none, 0, [], rfl, Nat.zero_le _, rfl, k3.size.trans (k2.size.trans z1), (k3.at_ 0 (by omega)).trans ((k2.at_ 0 (by omega)).trans u0), (k3.at_ 3 (by omega)).trans ((k2.at_ 3 (by omega)).trans u3), (k3.at_ 4 (by omega)).trans u4, u5, hj1, how1, ⟨⟨rfl, .inl ⟨rfl, rfl⟩⟩, fun q hq => by cases hq⟩, fun _ => rfl⟩ ?_
 clear k1 k2 k3 u0 u3 u4 u5 z1 hT s0 s1 hj1 how1
 rintro d aa v ⟨Ua, i, tga, za', la, lc, zs, rfl, hi, rfl, za, a0, a3, a4, a5, hja, howa, hrow, hzs⟩
 have c32 : v.cell? ⟨b3, 2, none⟩ = some (.int .i64 (nb : Nat)) := (cell_of_row v b3 2 _ _ _ howa.1).trans rfl
 refine wp_seq (wp_seq ?_)
 refine Fq.at_ Tryz.f49 3 (by kernel_rfl) ?_
 refine rc_r3 za a3 a5 c32 rfl (fun Ub ⟨kb, h14⟩ => ?_)
 have zb := kb.size.trans za
 have b0 := (kb.at_ 0 (by omega)).trans a0
 have b3' := (kb.at_ 3 (by omega)).trans a3
 have b4 := (kb.at_ 4 (by omega)).trans a4
 have b5 := (kb.at_ 5 (by omega)).trans a5
 refine Fq.ok ?_
 by_cases hlt : i < nb
 · refine Fq.cond_true (h14.trans (by rw [decide_eq_true (by omega)])) ?_
   refine Fq.skip (Fq.ok ?_)
   refine wp_seq (wp_block ?_)
   refine wp_seq ?_
   refine Fq.at_ Tryz.f49 5 (by kernel_rfl) ?_
   have hpl : (f.pile.drop i).length ≤ 1000 := by rw [List.length_drop]; omega
   refine rc_r5 zb b0 (rPop_any v hja (by omega) hpl) (fun Uc w2 ⟨kc, c6, z2, hj2, hk2⟩ => ?_)
   have zc := kc.size.trans zb
   rw [Rm.drop_lost] at hj2
   have hj2' : Rm.J w0 w2 tga bm c t fuel s (!decide (i + 1 ≤ f.pile.length)) (({ f with pile := f.pile.drop (i + 1) }, z2) :: ms) (.slice (some ⟨g, 0, none⟩) (ms.length + 1) gc) ev := by
    have h1 := hj2
    unfold Rm.pp at h1
    dsimp only at h1
    rw [Rm.drop_tail] at h1
    exact h1
   have how2 := howa.keep hk2
   have hrow2 := hrow.keep hk2
   clear hj2
   refine Fq.ok ?_
   refine Fq.at_ Tryz.f49 6 (by kernel_rfl) ?_
   refine rc_r6 zc ((kc.at_ 4 (by omega)).trans b4) ((kc.at_ 5 (by omega)).trans b5) c6 zs hrow2.1 (by omega) (fun Ud w3 ⟨kd, d5, gA, cA, d4, hb23, hoA⟩ => ?_)
   have zd := kd.size.trans zc
   obtain ⟨tg3, hj3, hk3, hrow3⟩ := hj2'.ownRow hb23 hoA
   have how3 := how2.keep hk3
   refine Fq.blN (Fq.ok ?_)
   refine Fq.at_ Tryz.f49 4 (by kernel_rfl) ?_
   refine rc_r4 zd d5 (by omega) (fun Ue ⟨ke, e5⟩ => ?_)
   refine ⟨nb - (i + 1), by omega, Ue, i + 1, tg3, z2, some ⟨gA, 0, none⟩, cA, (f.pile.drop i).headD 0 :: zs, rfl, by omega, rfl, ke.size.trans zd, (ke.at_ 0 (by omega)).trans ((kd.at_ 0 (by omega)).trans ((kc.at_ 0 (by omega)).trans b0)), (ke.at_ 3 (by omega)).trans ((kd.at_ 3 (by omega)).trans ((kc.at_ 3 (by omega)).trans b3')), (ke.at_ 4 (by omega)).trans d4, e5, hj3, how3, hrow3, fun e => ?_⟩
   rw [hzs (by omega)]
   exact Rm.drop_head f.pile i e
 · have hie : i = nb := by omega
   refine Fq.cond_false (h14.trans (by rw [decide_eq_false (by omega)])) ?_
   refine wp_exit (Fq.thX (Fq.thX (Fq.blX (Fq.ok ?_))))
   subst hie
   clear hi hlt a0 a3 a4 a5 h14 b5 kb za c32
   have hbel := hja.bel
   refine wp_seq ?_
   refine Fq.at_ Tryz.f49 7 (by kernel_rfl) ?_
   refine rc_r7 (n := ss.length) (c := c.sz.cap) zb b0 b3' (by rw [← hsad, ← hslen]; exact hja.box.at_ 2 _ rfl) ((cell_of_row v b3 1 _ _ _ howa.1).trans rfl) hq hsfew ((hbel.cell (p := ⟨bs, os + q, none⟩) hsb).trans hscell) (fun Uc ⟨kc, c7⟩ => ?_)
   have zc := kc.size.trans zb
   have c0 := (kc.at_ 0 (by omega)).trans b0
   have c3 := (kc.at_ 3 (by omega)).trans b3'
   have c4 := (kc.at_ 4 (by omega)).trans b4
   have hk2 : Vm.K Rm.C tga tga v v.drew := Vm.K.below ((Below.refl _ _).drew)
   have hj2 := hja.below ((Below.refl v.heap.size v).drew)
   have how2 := howa.keep hk2
   have hrow2 := hrow.keep hk2
   generalize v.drew = w2 at *
   clear hja howa hrow hk2 hbel b0 b3' b4 zb kc
   refine Fq.ok ?_
   refine wp_seq (wp_seq ?_)
   refine Fq.at_ Tryz.f49 8 (by kernel_rfl) ?_
   refine rc_r8 (nb := i) zc c0 c3 c7 (hj2.box.at_ 10 _ rfl) ((cell_of_row w2 b3 2 _ _ _ how2.1).trans rfl) (by omega) rfl (fun Ud ⟨kd, h42⟩ => ?_)
   have zd := kd.size.trans zc
   have d0 := (kd.at_ 0 (by omega)).trans c0
   have d3 := (kd.at_ 3 (by omega)).trans c3
   have d4 := (kd.at_ 4 (by omega)).trans c4
   have d7 := (kd.at_ 7 (by omega)).trans c7
   refine Fq.ok ?_
   by_cases hgo : i ≤ f.pile.length ∧ i ≤ sz.length
   rotate_left
   · refine Fq.cond_true (h42.trans (by rw [show (!decide (i ≤ f.pile.length) || decide (st.len < i)) = true by rw [Bool.eq_iff_iff]; simp; omega])) ?_
     refine wp_seq ?_
     refine Fq.at_ Tryz.f49 9 (by kernel_rfl) ?_
     refine rc_r9 zd d0 (hj2.box.at_ 10 _ rfl) (hj2.box.fz 10) (fun Ue ke => ?_)
     refine Fq.ok (wp_ret ?_)
     repeat (first | with_reducible refine Fq.thR ?_ | with_reducible refine Fq.blR ?_)
     exact bodyPost_ret (results_none rfl _ _ _) rfl ⟨rfl, hlost (hj2.set 10 (.bool true) (t' := t) (s' := s) (lo' := true) rfl hj2.hf hj2.inp rfl).1 (fun e => hgo ⟨e.1, e.2.1⟩)⟩
   obtain ⟨hg1, hg2⟩ := hgo
   refine Fq.cond_false (h42.trans (by rw [show (!decide (i ≤ f.pile.length) || decide (st.len < i)) = false by rw [Bool.eq_false_iff]; simp; omega])) ?_
   refine Fq.skip (Fq.ok ?_)
   rw [decide_eq_true hg1] at hj2
   have hj2' : Rm.J w0 w2 tga bm c t fuel s false (({ f with pile := f.pile.drop i }, za') :: ms) (.slice (some ⟨g, 0, none⟩) (ms.length + 1) gc) ev := hj2
   have hzs2 := hzs hg1
   clear h42 c0 c3 c4 c7 zc kd hj2 hzs
   refine wp_seq (wp_seq ?_)
   refine Fq.at_ Tryz.f49 10 (by kernel_rfl) ?_
   refine rc_r10 zd (fun Ue ⟨ke, e8⟩ => ?_)
   refine Fq.ok ?_
   refine wp_block ?_
   have hsbel := (hj2'.bel.cell (p := ⟨bs, os + q, none⟩) hsb).trans hscell
   refine wp_loop_ghost (fun d aa vv => ∃ (U' : Array Value) (j : Nat), aa = ⟨U', []⟩ ∧ vv = w2 ∧ j ≤ i ∧ d = i - j ∧ U'.size = 131 ∧ U'[0]? = some (.pointer (some ⟨bm, 0, none⟩)) ∧ U'[3]? = some (.pointer (some ⟨b3, 0, none⟩)) ∧ U'[4]? = some (.slice la i lc) ∧ U'[7]? = some (.slice st.ad st.len st.cap) ∧ U'[8]? = some (.int .i64 (j : Nat)) ∧ ∀ k, k < j → sz[k]? = some 0) i
    ⟨Ue, 0, rfl, rfl, Nat.zero_le _, rfl, ke.size.trans zd, (ke.at_ 0 (by omega)).trans d0, (ke.at_ 3 (by omega)).trans d3, (ke.at_ 4 (by omega)).trans d4, (ke.at_ 7 (by omega)).trans d7, e8, fun k hk => by omega⟩ ?_
   clear ke e8 d0 d3 d4 d7 zd
   rintro d aa vv ⟨Uf, j, rfl, rfl, hj, rfl, zf, f0, f3, f4, f7, f8, hall⟩
   have c32 : vv.cell? ⟨b3, 2, none⟩ = some (.int .i64 (i : Nat)) := (cell_of_row vv b3 2 _ _ _ how2.1).trans rfl
   refine wp_seq (wp_seq ?_)
   refine Fq.at_ Tryz.f49 11 (by kernel_rfl) ?_
   refine rc_r11 zf f3 f8 c32 rfl (fun Ug ⟨kg, h49⟩ => ?_)
   have zg := kg.size.trans zf
   have g0 := (kg.at_ 0 (by omega)).trans f0
   have g3 := (kg.at_ 3 (by omega)).trans f3
   have g4 := (kg.at_ 4 (by omega)).trans f4
   have g7 := (kg.at_ 7 (by omega)).trans f7
   have g8 := (kg.at_ 8 (by omega)).trans f8
   refine Fq.ok ?_
   by_cases hlt : j < i
   · refine Fq.cond_true (h49.trans (by rw [decide_eq_true (by omega)])) ?_
     refine Fq.skip (Fq.ok ?_)
     obtain ⟨y, hy⟩ : ∃ y, sz[j]? = some y := ⟨_, List.getElem?_eq_getElem (by omega)⟩
     obtain ⟨b2, o2, had2, hb2, hc2⟩ := hsrn.at_ j y hy
     have hy0 := (hsz8 y (List.mem_of_getElem? hy)).1
     have hcy := (hj2'.bel.cell (p := ⟨b2, o2 + j, none⟩) hb2).trans hc2
     rw [had2] at g7
     refine wp_seq (wp_block ?_)
     refine wp_seq ?_
     refine Fq.at_ Tryz.f49 13 (by kernel_rfl) ?_
     refine rc_r13 zg g7 g8 (by omega) (by omega) hcy rfl (fun Uh ⟨kh, h56⟩ => ?_)
     have zh := kh.size.trans zg
     refine Fq.ok ?_
     by_cases hpos : 0 < y
     · refine Fq.cond_true (h56.trans (by rw [decide_eq_true hpos])) ?_
       refine wp_seq ?_
       refine Fq.at_ Tryz.f49 14 (by kernel_rfl) ?_
       refine rc_r14 zh ((kh.at_ 0 (by omega)).trans g0) (hj2'.box.at_ 10 _ rfl) (hj2'.box.fz 10) (fun Ui ki => ?_)
       refine Fq.ok (wp_ret ?_)
       repeat (first | with_reducible refine Fq.thR ?_ | with_reducible refine Fq.blR ?_)
       exact bodyPost_ret (results_none rfl _ _ _) rfl ⟨rfl, hlost (hj2'.set 10 (.bool true) (t' := t) (s' := s) (lo' := true) rfl hj2'.hf hj2'.inp rfl).1 (fun e => Rm.not_all hlt hy hpos e.2.2)⟩
     · have hyz : y = 0 := by omega
       refine Fq.cond_false (h56.trans (by rw [decide_eq_false hpos])) ?_
       refine Fq.skip (Fq.blN (Fq.ok ?_))
       refine Fq.at_ Tryz.f49 12 (by kernel_rfl) ?_
       refine rc_r12 zh ((kh.at_ 8 (by omega)).trans g8) (by omega) (fun Ui ⟨ki, i8⟩ => ?_)
       rw [← had2] at g7
       refine ⟨i - (j + 1), by omega, Ui, j + 1, rfl, rfl, by omega, rfl, ki.size.trans zh, (ki.at_ 0 (by omega)).trans ((kh.at_ 0 (by omega)).trans g0), (ki.at_ 3 (by omega)).trans ((kh.at_ 3 (by omega)).trans g3), (ki.at_ 4 (by omega)).trans ((kh.at_ 4 (by omega)).trans g4), (ki.at_ 7 (by omega)).trans ((kh.at_ 7 (by omega)).trans g7), i8, fun k hk => ?_⟩
       by_cases hkj : k = j
       · rw [hkj, hy, hyz]
       · exact hall k (by omega)
   · have hje : j = i := by omega
     subst hje
     refine Fq.cond_false (h49.trans (by rw [decide_eq_false (by omega)])) ?_
     refine wp_exit (Fq.thX (Fq.thX (Fq.blX (Fq.ok ?_))))
     have hz0 := Rm.all_zero hg2 hall
     rw [if_pos ⟨hg1, hg2, hz0⟩]
     clear hlost h49 f0 f3 f4 f7 f8 zf kg g8 hlt hj c32 hd
     refine wp_seq ?_
     refine Fq.at_ Tryz.f49 15 (by kernel_rfl) ?_
     refine rc_r15 zg g0 (rTop_any bm g ms.length gc vv (hj2'.box.at_ 7 _ rfl) (by omega)) (fun V hV => (hj2'.below hV).top 3 _ rfl) (fun Uh w3 ⟨kh, h9, hb3w⟩ => ?_)
     have zh := kh.size.trans zg
     have h0 := (kh.at_ 0 (by omega)).trans g0
     have h3 := (kh.at_ 3 (by omega)).trans g3
     have h4 := (kh.at_ 4 (by omega)).trans g4
     have h7 := (kh.at_ 7 (by omega)).trans g7
     have hk3 : Vm.K Rm.C tga tga vv w3 := Vm.K.below hb3w
     have hj3 := hj2'.below hb3w
     have how3 := how2.keep hk3
     have hrow3 := hrow2.keep hk3
     clear hj2' how2 hrow2 hk3 hb3w g0 g3 g4 g7 zg kh hsbel
     refine Fq.ok ?_
     refine wp_seq (wp_seq ?_)
     refine Fq.at_ Tryz.f49 16 (by kernel_rfl) ?_
     refine rc_r16 zh h0 (hj3.box.at_ 7 _ rfl) (by simp; omega) rfl (fun Ui ⟨ki, h70⟩ => ?_)
     have zi := ki.size.trans zh
     have i0 := (ki.at_ 0 (by omega)).trans h0
     have i3 := (ki.at_ 3 (by omega)).trans h3
     have i4 := (ki.at_ 4 (by omega)).trans h4
     have i7 := (ki.at_ 7 (by omega)).trans h7
     have i9 := (ki.at_ 9 (by omega)).trans h9
     refine Fq.ok ?_
     by_cases hm5 : ms.length = 5
     · refine Fq.cond_true (h70.trans (by rw [decide_eq_true (by omega)])) ?_
       refine wp_seq ?_
       refine Fq.at_ Tryz.f49 17 (by kernel_rfl) ?_
       refine rc_r17 zi i0 i9 (rEnd_any w3 hj3 (by omega) (by omega) he f.fr.at_ 4) (fun Uj w4 ⟨kj, tg4, ev4, hj4⟩ => ?_)
       refine Fq.ok (wp_ret ?_)
       repeat (first | with_reducible refine Fq.thR ?_ | with_reducible refine Fq.blR ?_)
       refine bodyPost_ret (results_none rfl _ _ _) rfl ⟨rfl, tg4, t, _, false, _, _, ev4, hj4, ?_, ?_⟩
       · unfold Vd.call
         rw [if_pos (by rw [List.length_map]; exact hm5)]
         rfl
       · intro _
         unfold Vd.call
         rw [if_pos (by rw [List.length_map]; exact hm5)]
         refine ⟨rfl, fun e => ?_⟩
         have e2 : (true : Bool) = false := e
         cases e2
     refine Fq.cond_false (h70.trans (by rw [decide_eq_false (by omega)])) ?_
     refine Fq.skip (Fq.ok ?_)
     have hcl : Vd.call fs sz q (f.pile.take j).reverse s { f with pile := f.pile.drop j } (ms.map Prod.fst) = ⟨Xr.parS (Xr.newF (s.made + 1) (f.fr.deep + 1) sz) f.fr.at_ 0 zs { s with made := s.made + 1, evs := s.evs ++ [⟨5, f.fr.num, f.fr.at_, (q : Nat), 0, ((s.made + 1 : Nat) : Int)⟩] }, ⟨Xr.parF 0 zs (Xr.newF (s.made + 1) (f.fr.deep + 1) sz), q, pz.toNat, []⟩ :: { f with pile := f.pile.drop j } :: ms.map Prod.fst, false⟩ := by
      unfold Vd.call
      rw [if_neg (by rw [List.length_map]; exact hm5), hpz, ← hzs2]
      dsimp only
      rw [Vd.tell_evs (by exact he)]
      rfl
     rw [hcl]
     have hznm : ∀ y ∈ zs, Vd.nm y := fun y hy => hfo.num y (by rw [hzs2] at hy; exact List.mem_of_mem_take (List.mem_reverse.1 hy))
     have hzl : zs.length = j := by rw [hzs2, List.length_reverse, List.length_take]; omega
     clear hcl h70 h0 h3 h4 h7 h9 zh ki hzs2
     refine wp_seq ?_
     refine Fq.at_ Tryz.f49 18 (by kernel_rfl) ?_
     have hj3d := hj3.below ((Below.refl w3.heap.size w3).drew)
     have hk3d : Vm.K Rm.C tga tga w3 w3.drew := Vm.K.below ((Below.refl _ _).drew)
     refine rc_r18 (mk := ((s.made + 1 : Nat) : Int)) zi i0 i3 i9 ((cell_of_row w3 b3 1 _ _ _ how3.1).trans rfl) (hj3.box.at_ 6 _ rfl) (rTell_any w3.drew hj3d (by omega) (by omega) 5 f.fr.at_ (q : Nat) 0 ((s.made + 1 : Nat) : Int)) (fun Uj w4 ⟨kj, tg4, ev4, hj4, hk4⟩ => ?_)
     have zj := kj.size.trans zi
     have j0 := (kj.at_ 0 (by omega)).trans i0
     have j3 := (kj.at_ 3 (by omega)).trans i3
     have j4 := (kj.at_ 4 (by omega)).trans i4
     have j7 := (kj.at_ 7 (by omega)).trans i7
     have j9 := (kj.at_ 9 (by omega)).trans i9
     have how4 := how3.keep (hk3d.trans hk4)
     have hrow4 := hrow3.keep (hk3d.trans hk4)
     clear hj3 hj3d hk3d hk4 how3 hrow3 i0 i3 i4 i7 i9 zi kj
     refine Fq.ok ?_
     refine wp_seq ?_
     refine Fq.at_ Tryz.f49 19 (by kernel_rfl) ?_
     have hbel4 := hj4.bel
     have htb4 := hj4.tb
     have hfr4 := hj4.trf
     have hlow4 := hj4.low
     refine rc_r19 (ra := some ⟨g, 0, none⟩) (n := ms.length + 1) (rc := gc) (mk := ((s.made + 1 : Nat) : Int)) (q := q) (z := ((pz.toNat : Nat) : Int)) (zl := sz.length) (zs := Rm.zeros sz) (b1 := bf) (o1 := of_) (fl := fs.length) (fc := c.sf.cap) (B := w0.heap.size) zj j0 j3 j7 (fun V hV => ?_) (hj4.box.fz 7) hqf hffew hj4.lt hj4.frr hbel4.size (by omega) (fun b hb => ?_) (fun V hV => rZeroVars_any st.ad st.len st.cap sz V (hsrn.later (hj4.below hV).bel (Nat.le_refl _)) hszl (fun y hy => ⟨(hsz8 y hy).1, by have := (hsz8 y hy).2; omega⟩)) (fun Uk w5 ⟨kk, hnf⟩ => ?_)
     · have hJV := hj4.below hV
       refine ⟨hJV.box.at_ 7 _ rfl, hJV.box.at_ 6 _ rfl, (cell_of_row V b3 1 _ _ _ ((hV.block b3 (Array.getElem?_eq_some_iff.1 how4.1).1).trans how4.1)).trans rfl, ?_, ?_⟩
       · rw [← hfad, ← hflen]
         exact hJV.box.at_ 1 _ rfl
       · rw [Int.toNat_of_nonneg hpz0]
         exact (hJV.bel.cell (p := ⟨bf, of_ + q, none⟩) hfb).trans hfcell
     · have hb2 := hfr4 b hb
       refine ⟨?_, ?_, ?_, (hj4.frr.lt b hb).2⟩
       · rintro rfl; omega
       · rintro rfl; have := how4.2; omega
       · rintro rfl; have := hlow4 _ hfb; omega
     have zk := kk.size.trans zj
     have kk0 := (kk.at_ 0 (by omega)).trans j0
     have kk3 := (kk.at_ 3 (by omega)).trans j3
     have kk4 := (kk.at_ 4 (by omega)).trans j4
     have kk9 := (kk.at_ 9 (by omega)).trans j9
     obtain ⟨gv, vb, cz, v5, v6, gA, cA, rfl, hzf, hb45, hg56, ho6, hat6⟩ := hnf
     obtain ⟨tg5, hj5, hk5⟩ := hj4.pushF hb45 ⟨Xr.newF (s.made + 1) (f.fr.deep + 1) sz, q, pz.toNat, []⟩ gv vb cz hzf rfl hg56 gA cA (by
      have h1 := ho6
      show v6.ownsRow _ _ _ _ _ (_ ++ [_, _, _, _, _, Value.slice _ (Xr.newF (s.made + 1) (f.fr.deep + 1) sz).vs.length cz])
      rw [show (Xr.newF (s.made + 1) (f.fr.deep + 1) sz).vs.length = sz.length from List.length_map _]
      exact h1) hat6
     have how5 := how4.keep hk5
     have hrow5 := hrow4.keep hk5
     generalize v6.setCell ⟨bm, 7, none⟩ (.slice (some ⟨gA, 0, none⟩) (ms.length + 1 + 1) cA) = w6 at *
     clear hj4 hk5 hbel4 htb4 hfr4 hlow4 how4 hrow4 hzf hb45 hg56 ho6 hat6 j0 j3 j4 j7 j9 zj kk
     refine Fq.ok ?_
     refine wp_seq ?_
     refine Fq.at_ Tryz.f49 20 (by kernel_rfl) ?_
     refine rc_r20 (k := s.made + 1) zk kk0 (hj5.box.at_ 6 _ rfl) (hj5.box.fz 6) (by omega) (fun Ul kl => ?_)
     have zl := kl.size.trans zk
     have l0 := (kl.at_ 0 (by omega)).trans kk0
     have l3 := (kl.at_ 3 (by omega)).trans kk3
     have l4 := (kl.at_ 4 (by omega)).trans kk4
     have l9 := (kl.at_ 9 (by omega)).trans kk9
     obtain ⟨hj6, hk6⟩ := hj5.set 6 (.int .i64 ((s.made + 1 + 1 : Nat) : Int)) (t' := t) (s' := { s with made := s.made + 1, evs := s.evs ++ [⟨5, f.fr.num, f.fr.at_, (q : Nat), 0, ((s.made + 1 : Nat) : Int)⟩] }) (lo' := false) rfl hj5.hf hj5.inp rfl
     have how6 := how5.keep hk6
     have hrow6 := hrow5.keep hk6
     generalize w6.setCell ⟨bm, 6, none⟩ (.int .i64 ((s.made + 1 + 1 : Nat) : Int)) = w7 at *
     clear hj5 hk6 how5 hrow5 kk0 kk3 kk4 kk9 zk kl
     refine Fq.ok ?_
     refine wp_seq ?_
     refine Fq.at_ Tryz.f49 21 (by kernel_rfl) ?_
     refine rc_r21 zl (fun Um ⟨km, m10⟩ => ?_)
     refine Fq.ok ?_
     refine wp_block ?_
     have hes : ({ s with made := s.made + 1, evs := s.evs ++ [⟨5, f.fr.num, f.fr.at_, (q : Nat), 0, ((s.made + 1 : Nat) : Int)⟩] } : Xr.S).ended = false := he
     have hls : ({ s with made := s.made + 1, evs := s.evs ++ [⟨5, f.fr.num, f.fr.at_, (q : Nat), 0, ((s.made + 1 : Nat) : Int)⟩] } : Xr.S).evs.length ≤ 900001 := by
      show (s.evs ++ [_]).length ≤ _
      rw [List.length_append]
      show _ + 1 ≤ _
      omega
     have hsh0 := Vd.new_sh (s.made + 1) (f.fr.deep + 1) sz
     have hce0 := Vd.new_cell (s.made + 1) (f.fr.deep + 1) sz
     generalize hnf : Xr.newF (s.made + 1) (f.fr.deep + 1) sz = nf at *
     generalize ({ s with made := s.made + 1, evs := s.evs ++ [⟨5, f.fr.num, f.fr.at_, (q : Nat), 0, ((s.made + 1 : Nat) : Int)⟩] } : Xr.S) = s3 at *
     refine wp_loop_ghost (fun d aa vv => ∃ (U' : Array Value) (k : Nat) (tg' : Nat → Nat) (ev' : Value), aa = ⟨U', []⟩ ∧ k ≤ zs.length ∧ d = zs.length - k ∧ U'.size = 131 ∧ U'[0]? = some (.pointer (some ⟨bm, 0, none⟩)) ∧ U'[3]? = some (.pointer (some ⟨b3, 0, none⟩)) ∧ U'[4]? = some (.slice la j lc) ∧ U'[9]? = some (.int .i64 f.fr.at_) ∧ U'[10]? = some (.int .i64 (k : Nat)) ∧ Rm.J w0 vv tg' bm c t fuel (Xr.parS nf f.fr.at_ 0 (zs.take k) s3) false ((⟨Xr.parF 0 (zs.take k) nf, q, pz.toNat, []⟩, ⟨gv, vb, cz, .slice none 0 0⟩) :: ({ f with pile := f.pile.drop j }, za') :: ms) (.slice (some ⟨gA, 0, none⟩) (ms.length + 1 + 1) cA) ev' ∧ Rm.Own vv tg' b3 (Obj.cells #[.int .i64 12, .int .i64 (q : Nat), .int .i64 (j : Nat)] 54) ∧ Rm.OwnRow vv tg' w0.heap.size (.slice la j lc) j (zs.map (Value.int .i64))) zs.length
      ⟨Um, 0, tg5, ev4, rfl, Nat.zero_le _, rfl, km.size.trans zl, (km.at_ 0 (by omega)).trans l0, (km.at_ 3 (by omega)).trans l3, (km.at_ 4 (by omega)).trans l4, (km.at_ 9 (by omega)).trans l9, m10, hj6, how6, hrow6⟩ ?_
     clear km m10 hj6 how6 hrow6 l0 l3 l4 l9 zl
     rintro d aa v2 ⟨Un, k, tgn, evn, rfl, hk, rfl, zn, n0, n3, n4, n9, n10, hjn, hown, hrown⟩
     refine wp_seq (wp_seq ?_)
     refine Fq.at_ Tryz.f49 22 (by kernel_rfl) ?_
     refine rc_r22 zn n3 n10 ((cell_of_row v2 b3 2 _ _ _ hown.1).trans rfl) rfl (fun Uo ⟨ko, h120⟩ => ?_)
     have zo := ko.size.trans zn
     have o0 := (ko.at_ 0 (by omega)).trans n0
     have o3 := (ko.at_ 3 (by omega)).trans n3
     have o4 := (ko.at_ 4 (by omega)).trans n4
     have o9 := (ko.at_ 9 (by omega)).trans n9
     have o10 := (ko.at_ 10 (by omega)).trans n10
     refine Fq.ok ?_
     obtain ⟨pe1, pe2, pe3, pe4, pe5⟩ := Vd.par_evs (zs.take k) nf f.fr.at_ 0 s3 hes
     obtain ⟨ps1, ps2, ps3, ps4, ps5⟩ := Vd.par_sh (zs.take k) 0 nf (fun y hy => hznm y (List.mem_of_mem_take hy)) hce0
     have htk : (zs.take k).length ≤ 3 := by rw [List.length_take]; omega
     by_cases hlt2 : k < zs.length
     · refine Fq.cond_true (h120.trans (by rw [decide_eq_true (by omega)])) ?_
       refine Fq.skip (Fq.ok ?_)
       obtain ⟨y, hy⟩ : ∃ y, zs[k]? = some y := ⟨_, List.getElem?_eq_getElem hlt2⟩
       obtain ⟨gl, hgl, hcl⟩ := hrown.ints hy
       subst hgl
       have hvl : (Xr.parF 0 (zs.take k) nf).vs.length = sz.length := by
        have h1 := congrArg List.length (ps1.trans hsh0)
        simpa using h1
       obtain ⟨lv, hlv⟩ : ∃ lv, (Xr.parF 0 (zs.take k) nf).vs[k]? = some lv := ⟨_, List.getElem?_eq_getElem (by omega)⟩
       have hlv0 : 0 < lv.length := by
        have h1 : ((Xr.parF 0 (zs.take k) nf).vs.map List.length)[k]? = some lv.length := by rw [List.getElem?_map, hlv]; rfl
        rw [ps1.trans hsh0, List.getElem?_map] at h1
        cases hsk : sz[k]? with
        | none => rw [hsk] at h1; cases h1
        | some y2 =>
         rw [hsk] at h1
         have h2 : (max y2 1).toNat = lv.length := by simpa using h1
         omega
       refine wp_seq (wp_block ?_)
       refine Fq.at_ Tryz.f49 24 (by kernel_rfl) ?_
       refine rc_r24 zo o0 o4 o9 o10 (by omega) (by omega) hcl (rWrite_any v2 hjn (by simp; omega) (by omega) f.fr.at_ k 0 lv hlv hlv0 y) (fun Up w10 ⟨kp, tgp, evp, hjp, hkp⟩ => ?_)
       have zp := kp.size.trans zo
       have howp := hown.keep hkp
       have hrowp := hrown.keep hkp
       refine Fq.blN (Fq.ok ?_)
       refine Fq.at_ Tryz.f49 23 (by kernel_rfl) ?_
       refine rc_r23 zp ((kp.at_ 10 (by omega)).trans o10) (by omega) (fun Uq ⟨kq, q10⟩ => ?_)
       refine ⟨zs.length - (k + 1), by omega, Uq, k + 1, tgp, evp, rfl, by omega, rfl, kq.size.trans zp, (kq.at_ 0 (by omega)).trans ((kp.at_ 0 (by omega)).trans o0), (kq.at_ 3 (by omega)).trans ((kp.at_ 3 (by omega)).trans o3), (kq.at_ 4 (by omega)).trans ((kp.at_ 4 (by omega)).trans o4), (kq.at_ 9 (by omega)).trans ((kp.at_ 9 (by omega)).trans o9), q10, ?_, howp, hrowp⟩
       have hts : zs.take (k + 1) = zs.take k ++ [y] := Vm.take_snoc hy
       have htl : (zs.take k).length = k := by rw [List.length_take]; omega
       rw [hts, Vm.parS_snoc, Vm.parF_snoc, htl, Nat.zero_add]
       have e1 : Xr.wrS (Xr.parS nf f.fr.at_ 0 (zs.take k) s3) nf f.fr.at_ (k : Nat) 0 y = { Xr.parS nf f.fr.at_ 0 (zs.take k) s3 with evs := (Xr.parS nf f.fr.at_ 0 (zs.take k) s3).evs ++ [⟨2, (Xr.parF 0 (zs.take k) nf).num, f.fr.at_, (k : Nat), ((0 : Nat) : Int), y⟩] } := by
        unfold Xr.wrS
        rw [Vd.tell_evs pe2, ps3]
        rfl
       rw [e1]
       exact hjp
     · refine Fq.cond_false (h120.trans (by rw [decide_eq_false (by omega)])) ?_
       refine wp_exit (Fq.thX (Fq.thX (Fq.blX ?_)))
       have hke : k = zs.length := by omega
       rw [hke, List.take_length] at hjn pe2
       exact bodyPost_end (results_none rfl _ _ _) rfl ⟨rfl, tgn, t, _, false, _, _, evn, hjn, rfl, fun _ => ⟨rfl, fun _ => rfl⟩⟩
end
end Go.Proofs.YtpfogjplnodacaaGreat
