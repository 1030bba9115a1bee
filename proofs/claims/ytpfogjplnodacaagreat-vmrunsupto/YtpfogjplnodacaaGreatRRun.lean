/-
  The document's RunCode: its contract. By the verifier; written by mkrr.py.
-/
import Derived.Test.YtpfogjplnodacaaGreatR2
import Derived.Test.YtpfogjplnodacaaGreatRDo
import Derived.Test.YtpfogjplnodacaaGreatLP
set_option maxRecDepth 100000
set_option maxHeartbeats 6400000
namespace Go.Proofs.YtpfogjplnodacaaGreat
open Go.RowKit Go.Maps
set_option linter.unusedVariables false
theorem Rm.go_snoc {li : List Kd.I} {fs : List Int} {ss : List (List Int)} {t : Vd.St} {n : Nat} (h : ((Vd.go li fs ss n t).s.ended || (Vd.go li fs ss n t).lost) = false) : Vd.go li fs ss (n + 1) t = Vd.do1 li fs ss (Vd.go li fs ss n t) := by
 rw [Vd.go_add, Vd.go_more h 0]
 rfl
theorem Rm.go_end {li : List Kd.I} {fs : List Int} {ss : List (List Int)} {t : Vd.St} {n N : Nat} (hn : n ≤ N) (h : ((Vd.go li fs ss n t).s.ended || (Vd.go li fs ss n t).lost) = true) : Vd.go li fs ss N t = Vd.go li fs ss n t := by
 rw [show N = n + (N - n) by omega, Vd.go_add, Vd.go_stop h]
theorem Rm.lost_open {li : List Kd.I} {fs : List Int} {ss : List (List Int)} {t : Vd.St} (hgo : t.s.ended = false) (h : (Vd.do1 li fs ss t).lost = true) : (Vd.do1 li fs ss t).s.ended = false := by
 unfold Vd.do1 at h ⊢
 cases ht : t.fs with
 | nil => rw [ht] at h; exact hgo
 | cons f r =>
  rw [ht] at h
  dsimp only at h ⊢
  cases hx : li[f.pc]? with
  | none => exact hgo
  | some x =>
   rw [hx] at h
   exact Vd.lost_on hgo h
theorem Rm.two {fn : Func} {t u : Tmp} (h : fn.results = #[.tmp t, .tmp u]) {T : Array Value} {a b : Value} (ht : T[t]? = some a) (hu : T[u]? = some b) (P : Program) (w : World) : (results fn T).run P w = .ok (.tuple #[a, b]) w := by
 rw [results_tmp2 h]
 have e1 : T.getD t undef = a := Fq.gd ht
 have e2 : T.getD u undef = b := Fq.gd hu
 rw [e1, e2]
structure Rm.Rn (w0 : World) (bm : Nat) (c : Vm.Cx) (fuel : Nat) (li : List Kd.I) (fs : List Int) (ss : List (List Int)) (st : Vd.St) (n : Nat) (V : World) : Prop where
 post : Rm.Post w0 bm c fuel (Vd.go li fs ss n st) V
 ok : (Vd.go li fs ss n st).lost = false → (Vd.go li fs ss n st).s.ended = false → Vd.Ok li ss n (Vd.go li fs ss n st)
 off : (Vd.go li fs ss n st).lost = true → (Vd.go li fs ss n st).s.ended = false
theorem Rm.Rn.next {w0 : World} {bm : Nat} {c : Vm.Cx} {fuel : Nat} {li : List Kd.I} {fs : List Int} {ss : List (List Int)} {st : Vd.St} {n : Nat} {V V' : World} (hc : Vd.Cd li fs ss) (h : Rm.Rn w0 bm c fuel li fs ss st n V) (h1 : (Vd.go li fs ss n st).lost = false) (h2 : (Vd.go li fs ss n st).s.ended = false) (hp : Rm.Post w0 bm c fuel (Vd.do1 li fs ss (Vd.go li fs ss n st)) V') : Rm.Rn w0 bm c fuel li fs ss st (n + 1) V' := by
 have hs := Rm.go_snoc (li := li) (fs := fs) (ss := ss) (t := st) (n := n) (by rw [h1, h2]; rfl)
 have hok := h.ok h1 h2
 have hnx := (Vd.do_ok hc hok).2
 refine ⟨by rw [hs]; exact hp, fun e1 e2 => ?_, fun e => ?_⟩
 · rw [hs] at e1 e2 ⊢
   rcases hnx with h3 | h3 | h3
   · rw [e1] at h3; cases h3
   · rw [e2] at h3; cases h3.1
   · exact h3
 · rw [hs] at e ⊢
   rcases hnx with h3 | h3 | h3
   · exact Rm.lost_open hok.s.go h3
   · rw [e] at h3; cases h3.2
   · rw [h3.on] at e; cases e
theorem RunCode_any (si sf sz : Pg.Sl) (li : List Kd.I) (fs : List Int) (ss : List (List Int)) (ts : Pg.Sl) (inp : List Int) (fuel : Nat) (w : World) (hco : Kd.RCo w si sf sz li fs ss) (hc : Vd.Cd li fs ss) (hss : ∀ sz ∈ ss, sz.length ≤ 2000000) (hin : Pg.RN w ts inp) (hnm : ∀ z ∈ inp, Vd.nm z) (hfu : fuel ≤ 1000) :
  Calls Tryz.prog 8 #[.agg #[.slice si.ad si.len si.cap, .slice sf.ad sf.len sf.cap, .slice sz.ad sz.len sz.cap], .slice ts.ad ts.len ts.cap, .int .i64 (fuel : Nat)] w fun r w' => ∃ (L : List Ev) (a : Option Addr) (cp : Nat), L = (if (Vd.go li fs ss 50000 (Vd.start fs ss inp fuel)).s.ended then (Vd.go li fs ss 50000 (Vd.start fs ss inp fuel)).s.evs else []) ∧ r = .returned (.tuple #[.slice a L.length cp, .bool (Vd.go li fs ss 50000 (Vd.start fs ss inp fuel)).s.ended]) ∧ w'.ownsRow w.heap.size 63 6 (.slice a L.length cp) L.length (Xr.evC L) ∧ Below w.heap.size w w' := by
 have hsl : sf.len = fs.length := hco.fst.len
 obtain ⟨q, hq⟩ : ∃ q, fs.length = q + 1 := ⟨fs.length - 1, by have := hc.pos; have := hc.len; omega⟩
 have hff := hco.fst.few
 have hqs : q < ss.length := by have := hc.len; omega
 obtain ⟨szq, hszq⟩ : ∃ s, ss[q]? = some s := ⟨_, List.getElem?_eq_getElem hqs⟩
 have hszm := List.mem_of_getElem? hszq
 have hszl := hss szq hszm
 have hsz8 := hc.siz szq hszm
 obtain ⟨b2, o2, st, h2ad, hb2, h2c, h2rn⟩ := hco.szs.at_ q szq hszq
 obtain ⟨pz, hpz⟩ : ∃ pz, fs[q]? = some pz := ⟨_, List.getElem?_eq_getElem (by omega)⟩
 have hpz0 := (hc.fst pz (List.mem_of_getElem? hpz)).1
 obtain ⟨b1, o1, h1ad, hb1, h1c⟩ := hco.fst.at_ q pz hpz
 have hslz : sz.len = ss.length := hco.szs.len
 have hzf := hco.szs.few
 have hok0 := Vd.start_ok (l := li) hc hnm fuel
 have hst : Vd.start fs ss inp fuel = ⟨⟨inp, fuel, 0, [], false⟩, [⟨Xr.newF 0 0 szq, q, pz.toNat, []⟩], false⟩ := by
  unfold Vd.start
  dsimp only
  rw [hq, Nat.add_sub_cancel, hszq, hpz]
  rfl
 generalize hS : Vd.start fs ss inp fuel = S0 at *
 refine calls_of_wp Tryz.func8 rfl ?_
 rw [show Tryz.f8.ntmps - (#[.agg #[.slice si.ad si.len si.cap, .slice sf.ad sf.len sf.cap, .slice sz.ad sz.len sz.cap], .slice ts.ad ts.len ts.cap, .int .i64 (fuel : Nat)] : Array Value).size = 58 by rw [Tryz.ntmps8]; rfl]
 obtain ⟨T0, hT0⟩ : ∃ T0, T0 = (#[.agg #[.slice si.ad si.len si.cap, .slice sf.ad sf.len sf.cap, .slice sz.ad sz.len sz.cap], .slice ts.ad ts.len ts.cap, .int .i64 (fuel : Nat)] : Array Value) ++ Array.replicate 58 undef := ⟨_, rfl⟩
 have hT : T0.size = 61 := by rw [hT0, Array.size_append, Array.size_replicate]; rfl
 have s0 : T0[0]? = some (.agg #[.slice si.ad si.len si.cap, .slice sf.ad sf.len sf.cap, .slice sz.ad sz.len sz.cap]) := by rw [hT0]; simp
 have s1 : T0[1]? = some (.slice ts.ad ts.len ts.cap) := by rw [hT0]; simp
 have s2 : T0[2]? = some (.int .i64 (fuel : Nat)) := by rw [hT0]; simp
 rw [← hT0]
 clear hT0
 refine wp_seq ?_
 refine Fq.at_ Tryz.f8 0 (by kernel_rfl) ?_
 refine rr_r0 hT s0 (fun U1 ⟨k1, u3⟩ => ?_)
 have z1 := k1.size.trans hT
 have u1 := (k1.at_ 1 (by omega)).trans s1
 have u2 := (k1.at_ 2 (by omega)).trans s2
 have hb1w := (Below.refl w.heap.size w).alloc (Nat.le_refl _) (Obj.cells #[.slice si.ad si.len si.cap, .slice sf.ad sf.len sf.cap, .slice sz.ad sz.len sz.cap] 26)
 have hx3 := Vm.Bx.new (heap_alloc_new w (Obj.cells #[.slice si.ad si.len si.cap, .slice sf.ad sf.len sf.cap, .slice sz.ad sz.len sz.cap] 26))
 have hb3e : (w.alloc (Obj.cells #[.slice si.ad si.len si.cap, .slice sf.ad sf.len sf.cap, .slice sz.ad sz.len sz.cap] 26)).heap.size = w.heap.size + 1 := by simp
 generalize hw1 : w.alloc (Obj.cells #[.slice si.ad si.len si.cap, .slice sf.ad sf.len sf.cap, .slice sz.ad sz.len sz.cap] 26) = w1 at *
 clear hw1
 refine Fq.ok ?_
 refine wp_seq ?_
 refine Fq.at_ Tryz.f8 1 (by kernel_rfl) ?_
 refine rr_r1 (n := q) z1 u3 (by rw [← hq, ← hsl]; exact hx3.at_ 1 _ rfl) (by omega) (fun U2 ⟨k2, v8⟩ => ?_)
 have z2 := k2.size.trans z1
 have v1 := (k2.at_ 1 (by omega)).trans u1
 have v2 := (k2.at_ 2 (by omega)).trans u2
 have v3 := (k2.at_ 3 (by omega)).trans u3
 refine Fq.ok ?_
 refine wp_seq ?_
 refine Fq.at_ Tryz.f8 2 (by kernel_rfl) ?_
 refine rr_r2 z2 v1 v2 v3 (hx3.at_ 0 _ rfl) (hx3.at_ 1 _ rfl) (hx3.at_ 2 _ rfl) (fun U3 ⟨k3, y9⟩ => ?_)
 have z3 := k3.size.trans z2
 have y3 := (k3.at_ 3 (by omega)).trans v3
 have y8 := (k3.at_ 8 (by omega)).trans v8
 have hb12 := (Below.refl w1.heap.size w1).alloc (Nat.le_refl _) (Obj.cells #[.slice si.ad si.len si.cap, .slice sf.ad sf.len sf.cap, .slice sz.ad sz.len sz.cap, .slice ts.ad ts.len ts.cap, .int .i64 (fuel : Nat), .int .i64 0, .int .i64 1, .slice none 0 0, .slice none 0 0, .bool false, .bool false] 58)
 have hbm := Vm.Bx.new (heap_alloc_new w1 (Obj.cells #[.slice si.ad si.len si.cap, .slice sf.ad sf.len sf.cap, .slice sz.ad sz.len sz.cap, .slice ts.ad ts.len ts.cap, .int .i64 (fuel : Nat), .int .i64 0, .int .i64 1, .slice none 0 0, .slice none 0 0, .bool false, .bool false] 58))
 have hx3' := hx3.kept hb12.size (hb12.block _ hx3.lt)
 have hb2w := hb1w.trans (hb12.mono hb1w.size)
 have hJ0 : Rm.J w (w1.alloc (Obj.cells #[.slice si.ad si.len si.cap, .slice sf.ad sf.len sf.cap, .slice sz.ad sz.len sz.cap, .slice ts.ad ts.len ts.cap, .int .i64 (fuel : Nat), .int .i64 0, .int .i64 1, .slice none 0 0, .slice none 0 0, .bool false, .bool false] 58)) (fun b => if b < w.heap.size then 4 else if b = w1.heap.size then 0 else 3) w1.heap.size ⟨si, sf, sz⟩ ts fuel ⟨inp, fuel, 0, [], false⟩ false [] (.slice none 0 0) (.slice none 0 0) := by
  refine ⟨hb2w, fun b hb => if_pos hb, by omega, by rw [if_neg (by omega), if_pos rfl], ?_, Nat.le_refl _, hin, ⟨rfl, .inl ⟨rfl, rfl⟩⟩, (fun b hb => by cases hb), ⟨rfl, .inl ⟨rfl, rfl⟩⟩, (fun b hb => by cases hb), trivial⟩
  have h9 := hbm
  unfold Rm.mb
  rw [Nat.sub_self]
  exact h9
 generalize hbme : w1.heap.size = bm at *
 generalize w1.alloc (Obj.cells #[.slice si.ad si.len si.cap, .slice sf.ad sf.len sf.cap, .slice sz.ad sz.len sz.cap, .slice ts.ad ts.len ts.cap, .int .i64 (fuel : Nat), .int .i64 0, .int .i64 1, .slice none 0 0, .slice none 0 0, .bool false, .bool false] 58) = w2 at *
 generalize (fun b => if b < w.heap.size then 4 else if b = bm then 0 else 3) = tg0 at *
 clear hx3 hb12 hb1w hbm k1 k2 k3 u1 u2 u3 v1 v2 v3 v8 z1 z2 hT s0 s1 s2
 refine Fq.ok ?_
 refine wp_seq ?_
 refine Fq.at_ Tryz.f8 3 (by kernel_rfl) ?_
 refine rr_r3 (b1 := b1) (o1 := o1) (fl := fs.length) (fc := sf.cap) (b2 := b2) (o2 := o2) (s2 := ss.length) (c2 := sz.cap) (z := ((pz.toNat : Nat) : Int)) (zl := szq.length) (zs := Rm.zeros szq) (B := w.heap.size) z3 y3 y8 y9 (fun V hV => ?_) (hJ0.box.fz 7) (by omega) hqs (by omega) hzf hJ0.lt hx3'.lt (by have := hb2w.size; omega) (by have := hb2w.size; omega) hb2w.size (fun V hV => rZeroVars_any st.ad st.len st.cap szq V (h2rn.later (hJ0.below hV).bel (by omega)) hszl (fun y hy => ⟨(hsz8 y hy).1, by have := (hsz8 y hy).2; omega⟩)) (fun U4 w4 ⟨k4, hnf⟩ => ?_)
 · have hJV := hJ0.below hV
   have hxV := hx3'.kept hV.size (hV.block _ hx3'.lt)
   refine ⟨hJV.box.at_ 7 _ rfl, ?_, ?_, ?_, ?_⟩
   · rw [← h1ad, ← hsl]; exact hxV.at_ 1 _ rfl
   · rw [← h2ad, ← hslz]; exact hxV.at_ 2 _ rfl
   · rw [Int.toNat_of_nonneg hpz0]; exact (hJV.bel.cell (p := ⟨b1, o1 + q, none⟩) (by omega)).trans h1c
   · exact (hJV.bel.cell (p := ⟨b2, o2 + q, none⟩) (by omega)).trans h2c
 have z4 := k4.size.trans z3
 have x9 := (k4.at_ 9 (by omega)).trans y9
 obtain ⟨gv, vb, cz, v5, v6, gA, cA, rfl, hzff, hb45, hg56, ho6, hat6⟩ := hnf
 obtain ⟨tg5, hj5, hk5⟩ := hJ0.pushF hb45 ⟨Xr.newF 0 0 szq, q, pz.toNat, []⟩ gv vb cz hzff rfl hg56 gA cA (by
  have h1 := ho6
  show v6.ownsRow _ _ _ _ _ (_ ++ [_, _, _, _, _, Value.slice _ (Xr.newF 0 0 szq).vs.length cz])
  rw [show (Xr.newF 0 0 szq).vs.length = szq.length from List.length_map _]
  exact h1) hat6
 have hrn0 : Rm.Rn w bm ⟨si, sf, sz⟩ fuel li fs ss S0 0 (v6.setCell ⟨bm, 7, none⟩ (.slice (some ⟨gA, 0, none⟩) (0 + 1) cA)) := by
  refine ⟨?_, fun _ _ => hok0, fun e => ?_⟩
  · show Rm.Post w bm _ fuel S0 _
    refine Rm.Post.on hj5 rfl ?_
    rw [hst]
    rfl
  · have e2 : S0.lost = true := e
    rw [hst] at e2
    cases e2
 generalize v6.setCell ⟨bm, 7, none⟩ (.slice (some ⟨gA, 0, none⟩) (0 + 1) cA) = w5 at *
 clear hJ0 hj5 hk5 hzff hb45 hg56 ho6 hat6 hx3' hb2w y3 y8 y9 z3 k4 hok0
 refine Fq.ok ?_
 refine wp_seq (wp_seq ?_)
 refine Fq.at_ Tryz.f8 4 (by kernel_rfl) ?_
 refine rr_r4 z4 (fun U5 ⟨k5, w10⟩ => ?_)
 refine Fq.ok ?_
 refine wp_block ?_
 refine wp_loop_ghost (fun d aa v => ∃ (U' : Array Value) (n : Nat), aa = ⟨U', []⟩ ∧ n ≤ 50000 ∧ d = 50000 - n ∧ U'.size = 61 ∧ U'[9]? = some (.pointer (some ⟨bm, 0, none⟩)) ∧ U'[10]? = some (.int .i64 (n : Nat)) ∧ Rm.Rn w bm ⟨si, sf, sz⟩ fuel li fs ss S0 n v) 50000
  ⟨U5, 0, rfl, Nat.zero_le _, rfl, k5.size.trans z4, (k5.at_ 9 (by omega)).trans x9, w10, hrn0⟩ ?_
 clear k5 w10 hrn0 x9 z4
 rintro d aa v ⟨Ua, n, rfl, hn, rfl, za, a9, a10, hrn⟩
 obtain ⟨tg, t, s, lo, ms, rf, ev, hj, hlo, hrest⟩ := hrn.post
 refine wp_seq (wp_seq ?_)
 refine Fq.at_ Tryz.f8 5 (by kernel_rfl) ?_
 refine rr_r5 za a9 a10 (hj.box.at_ 9 _ rfl) (hj.box.at_ 10 _ rfl) rfl (fun Ub ⟨kb, h48⟩ => ?_)
 have zb := kb.size.trans za
 have b9 := (kb.at_ 9 (by omega)).trans a9
 have b10 := (kb.at_ 10 (by omega)).trans a10
 refine Fq.ok ?_
 by_cases hgo : n < 50000 ∧ s.ended = false ∧ lo = false
 · obtain ⟨hn5, hse, hlf⟩ := hgo
   subst hlf
   refine Fq.cond_true (h48.trans (by rw [decide_eq_true hn5, hse]; rfl)) ?_
   refine Fq.skip (Fq.ok ?_)
   obtain ⟨hs, hfs⟩ := hrest hlo.symm
   have hfs2 := hfs hse
   have hok := hrn.ok hlo.symm (by rw [← hs]; exact hse)
   cases ms with
   | nil =>
    have h3 := hok.few.1
    rw [← hfs2] at h3
    simp at h3
   | cons x ms2 =>
    obtain ⟨f, zz⟩ := x
    have hT : Vd.go li fs ss n S0 = ⟨s, f :: ms2.map Prod.fst, false⟩ := by
     have e1 : (Vd.go li fs ss n S0).fs = f :: ms2.map Prod.fst := hfs2.symm
     have e2 : (Vd.go li fs ss n S0).s = s := hs.symm
     have e3 : (Vd.go li fs ss n S0).lost = false := hlo.symm
     generalize Vd.go li fs ss n S0 = G at *
     cases G
     dsimp only at e1 e2 e3
     rw [e1, e2, e3]
    have hok2 := hok
    rw [hT] at hok2
    refine wp_seq (wp_block ?_)
    refine Fq.at_ Tryz.f8 7 (by kernel_rfl) ?_
    refine rr_r7 zb b9 (rDo_any hco hc hss v hj hok2 hn hfu) (fun Uc w2 ⟨kc, hpost⟩ => ?_)
    have zc := kc.size.trans zb
    refine Fq.blN (Fq.ok ?_)
    refine Fq.at_ Tryz.f8 6 (by kernel_rfl) ?_
    refine rr_r6 zc ((kc.at_ 10 (by omega)).trans b10) (by omega) (fun Ud ⟨kd, d10⟩ => ?_)
    refine ⟨50000 - (n + 1), by omega, Ud, n + 1, rfl, by omega, rfl, kd.size.trans zc, (kd.at_ 9 (by omega)).trans ((kc.at_ 9 (by omega)).trans b9), d10, hrn.next hc hlo.symm (by rw [← hs]; exact hse) (by rw [hT]; exact hpost)⟩
 · have hvb : (decide (n < 50000) && !s.ended && !lo) = false := by
    rw [Bool.eq_false_iff]
    intro e
    simp at e
    exact hgo ⟨e.1.1, e.1.2, e.2⟩
   refine Fq.cond_false (h48.trans (by rw [hvb])) ?_
   refine wp_exit (Fq.thX (Fq.thX (Fq.blX (Fq.ok ?_))))
   have hfin : Vd.go li fs ss 50000 S0 = Vd.go li fs ss n S0 := by
    by_cases h5 : n = 50000
    · rw [h5]
    · refine Rm.go_end hn ?_
      cases lo with
      | true => rw [← hlo]; simp
      | false =>
       have hse : s.ended = true := by
        cases he : s.ended with
        | true => rfl
        | false => exact absurd ⟨by omega, he, rfl⟩ hgo
       rw [← (hrest hlo.symm).1, hse]
       rfl
   rw [hfin]
   have hoff := hrn.off
   have hbel := hj.bel
   refine wp_seq (wp_seq ?_)
   refine Fq.at_ Tryz.f8 8 (by kernel_rfl) ?_
   refine rr_r8 zb b9 (hj.box.at_ 9 _ rfl) (hj.box.at_ 10 _ rfl) rfl (fun Uc ⟨kc, h58⟩ => ?_)
   have zc := kc.size.trans zb
   have c9 := (kc.at_ 9 (by omega)).trans b9
   refine Fq.ok ?_
   by_cases hend : (Vd.go li fs ss n S0).s.ended = true
   · have hlo2 : lo = false := by
      cases lo with
      | false => rfl
      | true => rw [hoff hlo.symm] at hend; cases hend
     subst hlo2
     obtain ⟨hs, _⟩ := hrest hlo.symm
     rw [← hs] at hend ⊢
     refine Fq.cond_false (h58.trans (by rw [hend]; rfl)) ?_
     refine Fq.skip (Fq.ok ?_)
     obtain ⟨ea, ec, rfl⟩ := hj.evForm
     refine wp_seq ?_
     refine Fq.at_ Tryz.f8 10 (by kernel_rfl) ?_
     refine rr_r10 zc c9 (hj.box.at_ 8 _ rfl) (fun Ud ⟨kd, d6, d7⟩ => ?_)
     refine Fq.ok (wp_ret ?_)
     repeat (first | with_reducible refine Fq.thR ?_ | with_reducible refine Fq.blR ?_)
     rw [hend]
     refine bodyPost_ret (v := .tuple #[.slice ea s.evs.length ec, .bool true]) (Rm.two rfl d6 d7 _ _) rfl ⟨s.evs, ea, ec, by rw [if_pos rfl], rfl, ?_, ?_⟩
     · exact hj.evr
     · exact hbel
   · have hend2 : (Vd.go li fs ss n S0).s.ended = false := by simpa using hend
     refine Fq.cond_true (h58.trans ?_) ?_
     · cases lo with
       | true => rfl
       | false =>
        rw [(hrest hlo.symm).1, hend2]
        rfl
     refine wp_seq ?_
     refine Fq.at_ Tryz.f8 9 (by kernel_rfl) ?_
     refine rr_r9 zc (fun Ud ⟨kd, d6, d7⟩ => ?_)
     refine Fq.ok (wp_ret ?_)
     repeat (first | with_reducible refine Fq.thR ?_ | with_reducible refine Fq.blR ?_)
     rw [hend2]
     refine bodyPost_ret (v := .tuple #[.slice none 0 0, .bool false]) (Rm.two rfl d6 d7 _ _) rfl ⟨[], none, 0, by rw [if_neg (by decide)], rfl, ⟨rfl, .inl ⟨rfl, rfl⟩⟩, ?_⟩
     exact hbel
end Go.Proofs.YtpfogjplnodacaaGreat
