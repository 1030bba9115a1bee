/-
  The document's machine: Do. By the verifier; written by mkydo.py.
-/
import Derived.Test.YtcalcikclcmkaaaJH
import Derived.Test.YtcalcikclcmkaaaYDa
import Derived.Test.YtcalcikclcmkaaaYDb
import Derived.Test.YtcalcikclcmkaaaYDc
import Derived.Test.YtcalcikclcmkaaaYDd
set_option maxRecDepth 100000
set_option maxHeartbeats 3200000
namespace Go.Proofs.Ytcalcikclcmkaaa
open Go.RowKit
set_option linter.unusedVariables false
section
variable {m n : Nat} {w0 : World} {bm : Nat} {fs is : Pg.Sl} {inp : List Int} {fuel : Nat}
theorem Mc.few_le {k f : Nat} (h : k + 1 + 200 * f ≤ 200 * 501) (h0 : f ≠ 0) : k ≤ 100000 := by omega
theorem Mc.few_le3 {k f : Nat} (h : k + 200 * f ≤ 200 * 501) (h0 : f ≠ 0) : k ≤ 100000 := by omega
theorem Mc.seven {k : Int} (h : 1 ≤ k ∧ k ≤ 7) (h1 : ¬ k = 1) (h2 : ¬ k = 2) (h3 : ¬ k = 3) (h4 : ¬ k = 4) (h5 : ¬ k = 5) (h6 : ¬ k = 6) : k = 7 := by omega
theorem Mc.two_sub {hs : List (Nat × Obj)} (a b : Nat × Obj) : ∀ y ∈ hs, y ∈ a :: b :: hs := fun y hy => List.mem_cons_of_mem _ (List.mem_cons_of_mem _ hy)
theorem Mc.Post.done {hs hs' : List (Nat × Obj)} {tg : Nat → Nat} {bnd bnd' : Nat} {t : Mc.St m} {s' : Xr.S} {ms : List (Mc.X m)} {rf ev : Value} {W : World} (hj : Mc.J w0 W hs' tg bm fs is inp fuel bnd s' ms rf ev) (h1 : t.s = s') (h2 : s'.ended = false) (h3 : ms.map Prod.fst = t.fs) (hh : ∀ y ∈ hs, y ∈ hs') (hb : bnd ≤ bnd') : Mc.Post w0 hs bm fs is inp fuel bnd' t W := by
 refine Mc.Post.on (tg := tg) (ms := ms) (rf := rf) (ev := ev) (by rw [h1]; exact h2) ?_ h3
 rw [h1]
 exact (hj.sub hh).more hb
theorem Do_any {p : List (Pg.FT m n)} (hpp : Xr.PP w0 fs p) (hcall : Mc.CallOk w0 bm fs is inp fuel p) (hin : Pg.RN w0 is inp) {hs : List (Nat × Obj)} {tg : Nat → Nat} {bnd : Nat} {s : Xr.S} {rf ev : Value} (W : World) (x : Mc.X m) (ms : List (Mc.X m)) (h : Mc.J w0 W hs tg bm fs is inp fuel bnd s (x :: ms) rf ev) (he : s.ended = false) (hok : Mc.Ok p ⟨s, x.1 :: ms.map Prod.fst⟩) (hl : s.evs.length ≤ 80000) (hf5 : fuel ≤ 500) (hbn : bnd ≤ 1000000) (hmd : s.made ≤ 80000) :
  Calls Try.prog 41 #[.pointer (some ⟨bm, 0, none⟩)] W fun r W' => r = .returned (.tuple #[]) ∧ Mc.Post w0 hs bm fs is inp fuel (bnd + 1) (Mc.do1 p ⟨s, x.1 :: ms.map Prod.fst⟩) W' := by
 have htop : ms.length ≤ 5 := by have := hok.top; simp at this; omega
 obtain ⟨g, c, rfl⟩ := h.rfForm
 refine calls_of_wp Try.func41 rfl ?_
 rw [show Try.f41.ntmps - (#[.pointer (some ⟨bm, 0, none⟩)] : Array Value).size = 230 by rw [Try.ntmps41]; rfl]
 obtain ⟨T0, hT0⟩ : ∃ T0, T0 = #[.pointer (some ⟨bm, 0, none⟩)] ++ Array.replicate 230 undef := ⟨_, rfl⟩
 have hT : T0.size = 231 := by rw [hT0, Array.size_append, Array.size_replicate]; rfl
 have s0 : T0[0]? = some (.pointer (some ⟨bm, 0, none⟩)) := by rw [hT0]; simp
 rw [← hT0]
 clear hT0
 refine wp_seq ?_
 refine Fq.at_ Try.f41 0 (by kernel_rfl) ?_
 refine md_r0 hT s0 (Top_any bm g ms.length c W h.box.c6 (by omega)) (fun U1 w1 ⟨k1, u2, hb1⟩ => ?_)
 have z1 := k1.size.trans hT
 have u0 := (k1.at_ 0 (by omega)).trans s0
 have hj1 := h.below hb1
 clear h hb1
 refine Fq.ok ?_
 have hfo := hok.all x.1 List.mem_cons_self
 obtain ⟨px, hpx, hsh, htk⟩ := hfo.ex
 obtain ⟨llast, hlast⟩ := hfo.last
 have hfew := hfo.few
 obtain ⟨⟨fr, fn, ks⟩, ⟨gv, vb, zc, tv, kc⟩⟩ := x
 dsimp only at *
 cases ks with
 | nil => exact absurd hlast (by simp)
 | cons k ks =>
  have hfr := hj1.frs.1
  have hrk := hfr.rk
  cases kc with
  | nil => exact absurd hrk id
  | cons cc kcs =>
   obtain ⟨hrc, hrks⟩ : Mc.RK w0 k cc ∧ Mc.RKs w0 ks kcs := hrk
   have htr : w1.ownsRow w0.heap.size 82 15 tv (ks.length + 1) (Mc.tsC ks kcs ++ Mc.tC k cc) := hfr.tr
   obtain ⟨gt, tc, rfl⟩ : ∃ gt tc, tv = .slice (some ⟨gt, 0, none⟩) (ks.length + 1) tc := by
    rcases htr.2 with ⟨q1, q2⟩ | ⟨gq, cap, cur, hv, _⟩
    · omega
    · exact ⟨gq, cap, hv⟩
   have hlen := hrks.len
   have htl : (Mc.tsC ks kcs).length = ks.length * 15 := Mc.tsC_len ks kcs hlen
   have hat : ∀ i v, (Mc.tC k cc)[i]? = some v → w1.cell? ⟨gt, ks.length * 15 + i, none⟩ = some v := fun i v hv => by
    have hi15 : i < 15 := (List.getElem?_eq_some_iff.1 hv).1
    rw [htr.cellAt _ (by omega), List.getElem?_append_right (by omega), htl, Nat.add_sub_cancel_left]
    exact hv
   have hkn : ks.length ≤ 110000 := by rw [List.length_cons] at hfew; omega
   refine wp_seq ?_
   refine Fq.at_ Try.f41 1 (by kernel_rfl) ?_
   refine md_r1 (k := ks.length) (ka := (Mc.kat k : Nat)) (b13 := false) (b14 := k.isNone) z1 u2 (hj1.top 4 _ rfl) (by omega) (hat 0 _ rfl) (hat 1 _ rfl) (hat 2 _ rfl) (hat 3 _ rfl) (hat 4 _ rfl) (hat 5 _ rfl) (hat 6 _ rfl) (hat 7 _ rfl) (hat 8 _ rfl) (hat 9 _ rfl) (hat 10 _ rfl) (hat 11 _ rfl) (hat 12 _ rfl) (hat 13 _ rfl) (hat 14 _ rfl) (fun U2 ⟨k2, u3⟩ => ?_)
   have z2 := k2.size.trans z1
   have v0 := (k2.at_ 0 (by omega)).trans u0
   have v2 := (k2.at_ 2 (by omega)).trans u2
   have hj2 := (hj1.box1 (Obj.cells #[.int .i64 cc.k, .int .i64 cc.v, .int .i64 cc.f, .int .i64 cc.ix.k, .int .i64 cc.ix.n, .slice cc.ix.args.ad cc.ix.args.len cc.ix.args.cap, .int .i64 cc.ex.k, .int .i64 cc.ex.n, .slice cc.ex.args.ad cc.ex.args.len cc.ex.args.cap, .slice cc.args.ad cc.args.len cc.args.cap, .slice cc.thn.ad cc.thn.len cc.thn.cap, .slice cc.els.ad cc.els.len cc.els.cap, .int .i64 (Mc.kat k : Nat), .bool false, .bool k.isNone] 82)).below ((Below.refl _ _).drew)
   generalize hb3 : w1.heap.size = b3 at *
   generalize hw2 : (w1.alloc (Obj.cells #[.int .i64 cc.k, .int .i64 cc.v, .int .i64 cc.f, .int .i64 cc.ix.k, .int .i64 cc.ix.n, .slice cc.ix.args.ad cc.ix.args.len cc.ix.args.cap, .int .i64 cc.ex.k, .int .i64 cc.ex.n, .slice cc.ex.args.ad cc.ex.args.len cc.ex.args.cap, .slice cc.args.ad cc.args.len cc.args.cap, .slice cc.thn.ad cc.thn.len cc.thn.cap, .slice cc.els.ad cc.els.len cc.els.cap, .int .i64 (Mc.kat k : Nat), .bool false, .bool k.isNone] 82)).drew = w2 at *
   have y := hj2.kp _ List.mem_cons_self
   refine Fq.ok ?_
   refine wp_seq ?_
   refine Fq.at_ Try.f41 2 (by kernel_rfl) ?_
   refine md_r2 z2 u3 ((cell_of_row w2 b3 0 _ _ _ y.1).trans rfl) ((cell_of_row w2 b3 1 _ _ _ y.1).trans rfl) ((cell_of_row w2 b3 2 _ _ _ y.1).trans rfl) ((cell_of_row w2 b3 3 _ _ _ y.1).trans rfl) ((cell_of_row w2 b3 4 _ _ _ y.1).trans rfl) ((cell_of_row w2 b3 5 _ _ _ y.1).trans rfl) ((cell_of_row w2 b3 6 _ _ _ y.1).trans rfl) ((cell_of_row w2 b3 7 _ _ _ y.1).trans rfl) ((cell_of_row w2 b3 8 _ _ _ y.1).trans rfl) ((cell_of_row w2 b3 9 _ _ _ y.1).trans rfl) ((cell_of_row w2 b3 10 _ _ _ y.1).trans rfl) ((cell_of_row w2 b3 11 _ _ _ y.1).trans rfl) (fun U3 ⟨k3, u4⟩ => ?_)
   have z3 := k3.size.trans z2
   have a0 := (k3.at_ 0 (by omega)).trans v0
   have a2 := (k3.at_ 2 (by omega)).trans v2
   have a3 := (k3.at_ 3 (by omega)).trans u3
   have hj3 := hj2.box1 (Obj.cells #[.int .i64 cc.k, .int .i64 cc.v, .int .i64 cc.f, .int .i64 cc.ix.k, .int .i64 cc.ix.n, .slice cc.ix.args.ad cc.ix.args.len cc.ix.args.cap, .int .i64 cc.ex.k, .int .i64 cc.ex.n, .slice cc.ex.args.ad cc.ex.args.len cc.ex.args.cap, .slice cc.args.ad cc.args.len cc.args.cap, .slice cc.thn.ad cc.thn.len cc.thn.cap, .slice cc.els.ad cc.els.len cc.els.cap] 80)
   generalize hb4 : w2.heap.size = b4 at *
   generalize hw3 : w2.alloc (Obj.cells #[.int .i64 cc.k, .int .i64 cc.v, .int .i64 cc.f, .int .i64 cc.ix.k, .int .i64 cc.ix.n, .slice cc.ix.args.ad cc.ix.args.len cc.ix.args.cap, .int .i64 cc.ex.k, .int .i64 cc.ex.n, .slice cc.ex.args.ad cc.ex.args.len cc.ex.args.cap, .slice cc.args.ad cc.args.len cc.args.cap, .slice cc.thn.ad cc.thn.len cc.thn.cap, .slice cc.els.ad cc.els.len cc.els.cap] 80) = w3 at *
   clear hw2 hw3 hb3 hb4 y hj2 hj1 hat htr hfr
   refine Fq.ok ?_
   refine wp_seq (wp_seq ?_)
   refine Fq.at_ Try.f41 3 (by kernel_rfl) ?_
   refine md_r3 z3 a3 ((cell_of_row w3 b3 14 _ _ _ (hj3.kp _ (List.mem_cons_of_mem _ List.mem_cons_self)).1).trans rfl) (fun U4 ⟨k4, h28⟩ => ?_)
   have z4 := k4.size.trans z3
   have b0 := (k4.at_ 0 (by omega)).trans a0
   have b2 := (k4.at_ 2 (by omega)).trans a2
   have b3' := (k4.at_ 3 (by omega)).trans a3
   have b4' := (k4.at_ 4 (by omega)).trans u4
   refine Fq.ok ?_
   cases k with
   | none =>
    refine Fq.cond_true h28 ?_
    refine wp_seq ?_
    refine Fq.at_ Try.f41 4 (by kernel_rfl) ?_
    refine md_r4 z4 b0 (Back_any hpp w3 _ ms hj3 he hok (by omega)) (fun U5 w5 ⟨_, hpost⟩ => ?_)
    refine Fq.ok (wp_ret ?_)
    repeat (first | with_reducible refine Fq.thR ?_ | with_reducible refine Fq.blR ?_)
    exact bodyPost_ret (results_none rfl _ _ _) rfl ⟨rfl, hpost.sub (Mc.two_sub _ _) (by omega)⟩
   | some q =>
    obtain ⟨j, cm, a⟩ := q
    refine Fq.cond_false h28 ?_
    refine Fq.skip (Fq.ok ?_)
    have hd : Mc.do1 p ⟨s, ⟨fr, fn, some ⟨j, cm, a⟩ :: ks⟩ :: ms.map Prod.fst⟩ = if s.fuel = 0 then ⟨Xr.fin s fr a 1, []⟩ else Mc.cmd p j cm a (Xr.stepS s fr a) (Xr.stepF s fr a) fn ks (ms.map Prod.fst) := rfl
    rw [hd]
    obtain ⟨st, hst, hstf⟩ := hj3.box.c4
    have hfu := hok.fuel
    refine wp_seq (wp_seq ?_)
    refine Fq.at_ Try.f41 5 (by kernel_rfl) ?_
    refine md_r5 z4 b0 hst hj3.box.c3 rfl (fun U5 ⟨k5, h39⟩ => ?_)
    have z5 := k5.size.trans z4
    have c0 := (k5.at_ 0 (by omega)).trans b0
    have c2 := (k5.at_ 2 (by omega)).trans b2
    have c3 := (k5.at_ 3 (by omega)).trans b3'
    have c4 := (k5.at_ 4 (by omega)).trans b4'
    have hj4 := hj3.below ((Below.refl _ _).drew)
    have hst4 : w3.drew.cell? ⟨bm, 4, none⟩ = some (.int .i64 (st : Nat)) := hst
    generalize w3.drew = w4 at *
    clear hst hj3
    refine Fq.ok ?_
    by_cases h0 : s.fuel = 0
    · rw [if_pos h0]
      refine Fq.cond_true (h39.trans (by rw [decide_eq_true (by omega)])) ?_
      refine wp_seq ?_
      refine Fq.at_ Try.f41 6 (by kernel_rfl) ?_
      refine md_r6 (ka := (a : Nat)) z5 c0 c3 ((cell_of_row w4 b3 12 _ _ _ (hj4.kp _ (List.mem_cons_of_mem _ List.mem_cons_self)).1).trans rfl) (End_any w4 hj4 (by omega) (by omega) (a : Nat) 1) (fun U6 w5 ⟨_, ev5, ho⟩ => ?_)
      refine Fq.ok (wp_ret ?_)
      repeat (first | with_reducible refine Fq.thR ?_ | with_reducible refine Fq.blR ?_)
      exact bodyPost_ret (results_none rfl _ _ _) rfl ⟨rfl, Mc.Post.over ho rfl (Mc.fin_is he fr (a : Nat) 1).2⟩
    rw [if_neg h0]
    refine Fq.cond_false (h39.trans (by rw [decide_eq_false (by omega)])) ?_
    refine Fq.skip (Fq.ok ?_)
    refine wp_seq ?_
    refine Fq.at_ Try.f41 7 (by kernel_rfl) ?_
    refine md_r7 (k := st) z5 c0 hst4 (hj4.box.fz 4) (by omega) (fun U6 k6 => ?_)
    have z6 := k6.size.trans z5
    have d0 := (k6.at_ 0 (by omega)).trans c0
    have d2 := (k6.at_ 2 (by omega)).trans c2
    have d3 := (k6.at_ 3 (by omega)).trans c3
    have d4 := (k6.at_ 4 (by omega)).trans c4
    have hj5 := hj4.setFuel st hst4 h0
    generalize w4.setCell ⟨bm, 4, none⟩ (.int .i64 ((st + 1 : Nat) : Int)) = w5 at *
    clear hj4 hst4
    refine Fq.ok ?_
    refine wp_seq ?_
    refine Fq.at_ Try.f41 8 (by kernel_rfl) ?_
    refine md_r8 (ka := (a : Nat)) z6 d2 d3 ((cell_of_row w5 b3 12 _ _ _ (hj5.kp _ (List.mem_cons_of_mem _ List.mem_cons_self)).1).trans rfl) (hj5.top 2 _ rfl) (hj5.topFz _) (fun U7 k7 => ?_)
    have z7 := k7.size.trans z6
    have e0 := (k7.at_ 0 (by omega)).trans d0
    have e2 := (k7.at_ 2 (by omega)).trans d2
    have e3 := (k7.at_ 3 (by omega)).trans d3
    have e4 := (k7.at_ 4 (by omega)).trans d4
    have hj6 := hj5.setAt (a : Nat)
    generalize w5.setCell ⟨g, ms.length * 5 + 2, none⟩ (.int .i64 ((a : Nat) : Int)) = w6 at *
    clear hj5
    refine Fq.ok ?_
    refine wp_seq ?_
    refine Fq.at_ Try.f41 9 (by kernel_rfl) ?_
    refine md_r9 (ka := (a : Nat)) z7 e0 e3 ((cell_of_row w6 b3 12 _ _ _ (hj6.kp _ (List.mem_cons_of_mem _ List.mem_cons_self)).1).trans rfl) (Tell_any w6 hj6 (by omega) (by show s.evs.length ≤ 100000; omega) 1 (a : Nat) 0 0 0) (fun U8 w7 ⟨k8, tg7, ev7, hj7⟩ => ?_)
    have z8 := k8.size.trans z7
    have f0 := (k8.at_ 0 (by omega)).trans e0
    have f2 := (k8.at_ 2 (by omega)).trans e2
    have f3 := (k8.at_ 3 (by omega)).trans e3
    have f4 := (k8.at_ 4 (by omega)).trans e4
    have hs1 : Xr.stepS s fr a = { s with fuel := s.fuel - 1, evs := s.evs ++ [⟨1, fr.num, (a : Nat), 0, 0, 0⟩] } := by
     unfold Xr.stepS
     rw [if_neg h0, Xr.tell_no (by exact he)]
    have hf1 : Xr.stepF s fr a = { fr with at_ := (a : Nat) } := by
     unfold Xr.stepF
     rw [if_neg h0]
    rw [hs1, hf1]
    have he1 : ({ s with fuel := s.fuel - 1, evs := s.evs ++ [⟨1, fr.num, (a : Nat), 0, 0, 0⟩] } : Xr.S).ended = false := he
    have hl1 : ({ s with fuel := s.fuel - 1, evs := s.evs ++ [⟨1, fr.num, (a : Nat), 0, 0, 0⟩] } : Xr.S).evs.length ≤ 80001 := by
     show (s.evs ++ [_]).length ≤ _
     rw [List.length_append]
     show _ + 1 ≤ _
     omega
    have hmd1 : ({ s with fuel := s.fuel - 1, evs := s.evs ++ [⟨1, fr.num, (a : Nat), 0, 0, 0⟩] } : Xr.S).made ≤ 80000 := hmd
    have hsh1 : Xr.Sh ({ fr with at_ := (a : Nat) } : Xr.F).vs px.sizes := hsh
    have hfa : ({ fr with at_ := (a : Nat) } : Xr.F).at_ = (a : Nat) := rfl
    generalize ({ s with fuel := s.fuel - 1, evs := s.evs ++ [⟨1, fr.num, (a : Nat), 0, 0, 0⟩] } : Xr.S) = s1 at *
    generalize ({ fr with at_ := (a : Nat) } : Xr.F) = f1 at *
    clear hs1 hf1 hj6 hsh
    have hk0 : Mc.TOk p fn px (some ⟨j, cm, a⟩) := htk _ List.mem_cons_self
    obtain ⟨⟨wm, wt, we⟩, wa⟩ := hk0
    have hrc2 : Pg.RC w0 m (j + 1) cc cm := hrc
    obtain ⟨⟨hck, hcv, hcf⟩, ⟨hix, hex, hag⟩, hth, hel⟩ : (cc.k = cm.1.1 ∧ cc.v = cm.1.2.1 ∧ cc.f = cm.1.2.2) ∧ (Pg.RX w0 m cc.ix cm.2.1.1 ∧ Pg.RX w0 m cc.ex cm.2.1.2.1 ∧ Pg.RS w0 3 (Pg.LE w0) (Pg.RX w0 m) cc.args cm.2.1.2.2) ∧ (Pg.RS w0 12 (Pg.LC w0) (Pg.RC w0 m j) cc.thn cm.2.2.1 ∧ Pg.RS w0 12 (Pg.LC w0) (Pg.RC w0 m j) cc.els cm.2.2.2) := hrc
    obtain ⟨hkr, hva, hmy, hwi, hwe, hwa⟩ := Xr.wc_ok (show Pg.wc cm.1.1 (Pg.at? px.sizes cm.1.2.1) _ _ _ (Pg.chkX px.sizes m cm.2.1.1) (Pg.chkX px.sizes m cm.2.1.2.1) _ = 0 from wm)
    refine Fq.ok ?_
    refine wp_seq (wp_seq ?_)
    refine Fq.at_ Try.f41 10 (by kernel_rfl) ?_
    refine md_r10 z8 f4 ((cell_of_row w7 b4 0 _ _ _ (hj7.kp _ List.mem_cons_self).1).trans rfl) rfl (fun U9 ⟨k9, h62⟩ => ?_)
    have z9 := k9.size.trans z8
    have g0 := (k9.at_ 0 (by omega)).trans f0
    have g2 := (k9.at_ 2 (by omega)).trans f2
    have g3 := (k9.at_ 3 (by omega)).trans f3
    have g4 := (k9.at_ 4 (by omega)).trans f4
    refine Fq.ok ?_
    by_cases e3k : cm.1.1 = 3
    · refine Fq.cond_true (h62.trans (by rw [decide_eq_true (hck.trans e3k)])) ?_
      have hcmd : Mc.cmd p j cm a s1 f1 fn ks (ms.map Prod.fst) = Mc.call p (some ⟨j, cm, a⟩) ks s1 f1 fn (ms.map Prod.fst) cm.1.2.2 cm.2.1.2.2 := by
       unfold Mc.cmd
       rw [if_neg (by omega), if_neg (by omega), if_pos e3k]
      rw [hcmd]
      refine wp_seq ?_
      refine Fq.at_ Try.f41 11 (by kernel_rfl) ?_
      refine md_r11 z9 g0 g4 ((cell_of_row w7 b4 0 _ _ _ (hj7.kp _ List.mem_cons_self).1).trans rfl) ((cell_of_row w7 b4 1 _ _ _ (hj7.kp _ List.mem_cons_self).1).trans rfl) ((cell_of_row w7 b4 2 _ _ _ (hj7.kp _ List.mem_cons_self).1).trans rfl) ((cell_of_row w7 b4 3 _ _ _ (hj7.kp _ List.mem_cons_self).1).trans rfl) ((cell_of_row w7 b4 4 _ _ _ (hj7.kp _ List.mem_cons_self).1).trans rfl) ((cell_of_row w7 b4 5 _ _ _ (hj7.kp _ List.mem_cons_self).1).trans rfl) ((cell_of_row w7 b4 6 _ _ _ (hj7.kp _ List.mem_cons_self).1).trans rfl) ((cell_of_row w7 b4 7 _ _ _ (hj7.kp _ List.mem_cons_self).1).trans rfl) ((cell_of_row w7 b4 8 _ _ _ (hj7.kp _ List.mem_cons_self).1).trans rfl) ((cell_of_row w7 b4 9 _ _ _ (hj7.kp _ List.mem_cons_self).1).trans rfl) ((cell_of_row w7 b4 10 _ _ _ (hj7.kp _ List.mem_cons_self).1).trans rfl) ((cell_of_row w7 b4 11 _ _ _ (hj7.kp _ List.mem_cons_self).1).trans rfl) (hcall _ tg7 bnd s1 _ ms _ _ w7 j cm a ks cc hj7 he1 (by omega) htop rfl e3k hrc2 ⟨px, hpx, hsh1, wm⟩ (by omega)) (fun U10 w8 ⟨_, hpost⟩ => ?_)
      refine Fq.ok (wp_ret ?_)
      repeat (first | with_reducible refine Fq.thR ?_ | with_reducible refine Fq.blR ?_)
      exact bodyPost_ret (results_none rfl _ _ _) rfl ⟨rfl, hpost.sub (Mc.two_sub _ _) (by omega)⟩
    refine Fq.cond_false (h62.trans (by rw [decide_eq_false (fun e => e3k (hck.symm.trans e))])) ?_
    refine Fq.skip (Fq.ok ?_)
    have htr7 : w7.ownsRow w0.heap.size 82 15 (.slice (some ⟨gt, 0, none⟩) (ks.length + 1) tc) (ks.length + 1) (Mc.tsC ks kcs ++ Mc.tC (some ⟨j, cm, a⟩) cc) := hj7.frs.1.tr
    obtain ⟨hq1, hq2⟩ := Mc.ow_cap htr7
    refine wp_seq ?_
    refine Fq.at_ Try.f41 12 (by kernel_rfl) ?_
    refine md_r12 (k := ks.length) z9 g2 (hj7.top 4 _ rfl) (hj7.topFz _) (by omega) hq1 hq2 (fun U10 k10 => ?_)
    have z10 := k10.size.trans z9
    have i0 := (k10.at_ 0 (by omega)).trans g0
    have i2 := (k10.at_ 2 (by omega)).trans g2
    have i3 := (k10.at_ 3 (by omega)).trans g3
    have i4 := (k10.at_ 4 (by omega)).trans g4
    have hrf2 := hj7.trf g rfl
    have htt7 := hj7.frs.1.tt
    have hpop := Mc.ow_pop htr7 htl
    have hgtg : gt ≠ g := fun e => by
     have t1 := htt7 gt rfl
     rw [e] at t1
     omega
    have hj8 := (hj7.setKs (W' := w7.setCell ⟨g, ms.length * 5 + 4, none⟩ (.slice (some ⟨gt, 0, none⟩) ks.length tc)) (.slice (some ⟨gt, 0, none⟩) ks.length tc) ks kcs ((Mc.Ag.below (Below.refl _ _)).set g _ _ (fun _ => .inl hrf2)) rfl (Xr.ow_kept hpop (fun q hq => by cases hq; exact Xr.set_other hgtg)) (fun q hq => by cases hq; exact .inl ⟨(htr7.lt gt rfl).2, htt7 gt rfl⟩) hrks).below ((Below.refl _ _).drew)
    generalize (w7.setCell ⟨g, ms.length * 5 + 4, none⟩ (.slice (some ⟨gt, 0, none⟩) ks.length tc)).drew = w8 at *
    clear hj7 htr7 hpop
    refine Fq.ok ?_
    refine wp_seq (wp_seq ?_)
    refine Fq.at_ Try.f41 13 (by kernel_rfl) ?_
    refine md_r13 z10 i4 ((cell_of_row w8 b4 0 _ _ _ (hj8.kp _ List.mem_cons_self).1).trans rfl) rfl (fun U11 ⟨k11, h82⟩ => ?_)
    have z11 := k11.size.trans z10
    have j0 := (k11.at_ 0 (by omega)).trans i0
    have j2 := (k11.at_ 2 (by omega)).trans i2
    have j3 := (k11.at_ 3 (by omega)).trans i3
    have j4 := (k11.at_ 4 (by omega)).trans i4
    refine Fq.ok ?_
    have hvar : cm.1.1 ≤ 4 → ∃ (vn : Nat) (lv : List Int), cm.1.2.1 = (vn : Nat) ∧ f1.vs[vn]? = some lv ∧ 0 < lv.length := fun h4 => by
     obtain ⟨zz, hzz⟩ := hva h4
     obtain ⟨vn, lv, q1, q2, q3, _⟩ := hsh1.var hzz
     exact ⟨vn, lv, q1, q2, q3⟩
    by_cases e4k : cm.1.1 = 4
    · refine Fq.cond_true (h82.trans (by rw [decide_eq_true (hck.trans e4k)])) ?_
      have hcmd : Mc.cmd p j cm a s1 f1 fn ks (ms.map Prod.fst) = ⟨Xr.readS s1 f1 cm.1.2.1, ⟨Xr.readF s1 f1 cm.1.2.1, fn, ks⟩ :: ms.map Prod.fst⟩ := by
       unfold Mc.cmd
       rw [if_neg (by omega), if_neg (by omega), if_neg (by omega), if_pos e4k]
      rw [hcmd]
      obtain ⟨vn, lv, hv1, hv2, hv3⟩ := hvar (by omega)
      refine wp_seq ?_
      refine Fq.at_ Try.f41 14 (by kernel_rfl) ?_
      refine md_r14 z11 (fun U12 ⟨k12, l5⟩ => ?_)
      have z12 := k12.size.trans z11
      have l0 := (k12.at_ 0 (by omega)).trans j0
      have l3 := (k12.at_ 3 (by omega)).trans j3
      have l4 := (k12.at_ 4 (by omega)).trans j4
      refine Fq.ok ?_
      obtain ⟨tk, htk2, hinp, htkb⟩ := hj8.box.c2
      obtain ⟨isa, isl, isc⟩ := is
      have hil : isl = inp.length := hin.len
      have hilf := hin.few
      have hil2 : isl ≤ 35184372088832 := by omega
      refine Fq.cut (fun U' v => Fq.Kp 5 U12 U' ∧ U'[5]? = some (.int .i64 (Xr.inZ s1)) ∧ Below w8.heap.size w8 v) (fun Q' hQ' => ?_) (fun U13 w9 ⟨k13, m5, hb9⟩ => ?_)
      · refine wp_seq ?_
        refine Fq.at_ Try.f41 15 (by kernel_rfl) ?_
        refine md_r15 (k := tk) z12 l0 htk2 hj8.box.c1 (by show isl ≤ 35184372088832; exact hil2) rfl (fun Ua ⟨ka, h92⟩ => ?_)
        refine Fq.ok ?_
        by_cases hlt : tk < isl
        · refine Fq.cond_true (h92.trans (by rw [decide_eq_true hlt])) ?_
          obtain ⟨bb, oo, q1, q2, q3⟩ := hin.at_ tk _ (List.getElem?_eq_getElem (by omega))
          have q1' : isa = some ⟨bb, oo, none⟩ := q1
          subst q1'
          have q4 : w8.drew.cell? ⟨bb, oo + tk, none⟩ = some (.int .i64 (inp[tk]'(by omega))) := (hj8.bel.cell (p := ⟨bb, oo + tk, none⟩) q2).trans q3
          refine Fq.at_ Try.f41 16 (by kernel_rfl) ?_
          refine md_r16 (k := tk) (ka.size.trans z12) ((ka.at_ 0 (by omega)).trans l0) htk2 hj8.box.c1 hlt (by show isl ≤ 35184372088832; exact hil2) q4 (fun Ub ⟨kb, n5⟩ => ?_)
          have hz : Xr.inZ s1 = inp[tk]'(by omega) := by
           unfold Xr.inZ
           rw [hinp, List.drop_eq_getElem_cons (by omega)]
           rfl
          exact hQ' _ _ ⟨Fq.Kp.trans (ka.mono (by omega)) kb, by rw [n5, hz], (Below.refl _ _).drew.drew⟩
        · refine Fq.cond_false (h92.trans (by rw [decide_eq_false hlt])) ?_
          have hz : Xr.inZ s1 = 0 := by
           unfold Xr.inZ
           rw [hinp, List.drop_eq_nil_of_le (by omega)]
           rfl
          refine Fq.skip ?_
          exact hQ' _ _ ⟨ka.mono (by omega), by rw [ka.at_ 5 (by omega), l5, hz], (Below.refl _ _).drew⟩
      have hj9 := hj8.below hb9
      have htk9 := (hb9.cell (p := ⟨bm, 2, none⟩) hj8.lt).trans htk2
      have z13 := k13.size.trans z12
      have m0 := (k13.at_ 0 (by omega)).trans l0
      have m3 := (k13.at_ 3 (by omega)).trans l3
      have m4 := (k13.at_ 4 (by omega)).trans l4
      refine wp_seq ?_
      refine Fq.at_ Try.f41 17 (by kernel_rfl) ?_
      refine md_r17 (k := tk) z13 m0 htk9 (hj9.box.fz 2) (by omega) (fun U14 k14 => ?_)
      have z14 := k14.size.trans z13
      have n0 := (k14.at_ 0 (by omega)).trans m0
      have n3 := (k14.at_ 3 (by omega)).trans m3
      have n4 := (k14.at_ 4 (by omega)).trans m4
      have n5 := (k14.at_ 5 (by omega)).trans m5
      have hj10 := hj9.setTaken tk htk9
      generalize w9.setCell ⟨bm, 2, none⟩ (.int .i64 ((tk + 1 : Nat) : Int)) = w10 at *
      refine Fq.ok ?_
      refine wp_seq ?_
      refine Fq.at_ Try.f41 18 (by kernel_rfl) ?_
      refine md_r18 (ka := (a : Nat)) z14 n0 n3 n5 ((cell_of_row w10 b3 12 _ _ _ (hj10.kp _ (List.mem_cons_of_mem _ List.mem_cons_self)).1).trans rfl) (Tell_any w10 hj10 (by omega) (by show s1.evs.length ≤ 100000; omega) 3 (a : Nat) 0 0 (Xr.inZ s1)) (fun U15 w11 ⟨k15, tg11, ev11, hj11⟩ => ?_)
      have z15 := k15.size.trans z14
      have o0 := (k15.at_ 0 (by omega)).trans n0
      have o3 := (k15.at_ 3 (by omega)).trans n3
      have o4 := (k15.at_ 4 (by omega)).trans n4
      have o5 := (k15.at_ 5 (by omega)).trans n5
      refine Fq.ok ?_
      refine wp_seq ?_
      refine Fq.at_ Try.f41 19 (by kernel_rfl) ?_
      refine md_r19 (ka := (a : Nat)) (cv := (vn : Nat)) z15 o0 o3 o4 o5 ((cell_of_row w11 b3 12 _ _ _ (hj11.kp _ (List.mem_cons_of_mem _ List.mem_cons_self)).1).trans rfl) (by rw [cell_of_row w11 b4 1 _ _ _ (hj11.kp _ List.mem_cons_self).1]; show some (Value.int .i64 cc.v) = _; rw [hcv, hv1]) (Write_any w11 hj11 (by omega) (by show (s1.evs ++ [_]).length ≤ 100000; rw [List.length_append]; show _ + 1 ≤ _; omega) (a : Nat) vn 0 lv hv2 hv3 (Xr.inZ s1)) (fun U16 w12 ⟨_, tg12, ev12, hj12⟩ => ?_)
      refine Fq.ok (wp_ret ?_)
      repeat (first | with_reducible refine Fq.thR ?_ | with_reducible refine Fq.blR ?_)
      refine bodyPost_ret (results_none rfl _ _ _) rfl ⟨rfl, ?_⟩
      have hse : Xr.readS s1 f1 cm.1.2.1 = { s1 with inp := s1.inp.tail, evs := s1.evs ++ [⟨3, f1.num, (a : Nat), 0, 0, Xr.inZ s1⟩] ++ [⟨2, f1.num, (a : Nat), (vn : Nat), ((0 : Nat) : Int), Xr.inZ s1⟩] } := by
       unfold Xr.readS Xr.wrS
       rw [Xr.tell_no (show (Xr.inS s1).ended = false from he1), Xr.tell_no (by exact he1), hfa, hv1]
       rfl
      exact Mc.Post.done hj12 hse he1 (by show _ :: ms.map Prod.fst = _; unfold Xr.readF Xr.wrF; rw [hv1]; rfl) (Mc.two_sub _ _) (Nat.le_refl _)
    refine Fq.cond_false (h82.trans (by rw [decide_eq_false (fun e => e4k (hck.symm.trans e))])) ?_
    refine Fq.skip (Fq.ok ?_)
    refine wp_seq ?_
    refine Fq.at_ Try.f41 20 (by kernel_rfl) ?_
    refine md_r20 z11 (fun U12 ⟨k12, l6⟩ => ?_)
    have z12 := k12.size.trans z11
    have l0 := (k12.at_ 0 (by omega)).trans j0
    have l2 := (k12.at_ 2 (by omega)).trans j2
    have l3 := (k12.at_ 3 (by omega)).trans j3
    have l4 := (k12.at_ 4 (by omega)).trans j4
    refine Fq.ok ?_
    refine Fq.cutR (fun U' v => Fq.Kp 6 U12 U' ∧ U'[6]? = some (.int .i64 (if cm.1.1 = 2 then (Pg.val f1.vs m cm.2.1.1).1 else 0)) ∧ (cm.1.1 = 2 → (Pg.val f1.vs m cm.2.1.1).2 = 0) ∧ Below w8.heap.size w8 v) (fun U' v => cm.1.1 = 2 ∧ (Pg.val f1.vs m cm.2.1.1).2 ≠ 0 ∧ ∃ ev', Mc.O w0 v bm (s1.evs ++ [⟨7, f1.num, f1.at_, 0, 0, (Pg.val f1.vs m cm.2.1.1).2⟩]) ev') (fun Q' hQ' hR' => ?_) (fun U' v ⟨e2k, hno, ev', ho⟩ => ?_) (fun U13 w9 ⟨k13, m6, hixok, hb9⟩ => ?_)
    · refine wp_seq ?_
      refine Fq.at_ Try.f41 21 (by kernel_rfl) ?_
      refine md_r21 z12 l4 ((cell_of_row w8 b4 0 _ _ _ (hj8.kp _ List.mem_cons_self).1).trans rfl) rfl (fun Ua ⟨ka, h124⟩ => ?_)
      have za := ka.size.trans z12
      refine Fq.ok ?_
      by_cases e2k : cm.1.1 = 2
      · refine Fq.cond_true (h124.trans (by rw [decide_eq_true (hck.trans e2k)])) ?_
        have hokv : Pg.okV f1.vs m cm.2.1.1 := hsh1.okX hix (hwi e2k)
        refine wp_seq ?_
        refine Fq.at_ Try.f41 22 (by kernel_rfl) ?_
        refine md_r22 (z := (Pg.val f1.vs m cm.2.1.1).1) (ok := decide ((Pg.val f1.vs m cm.2.1.1).2 = 0)) za ((ka.at_ 0 (by omega)).trans l0) ((ka.at_ 4 (by omega)).trans l4) ((cell_of_row w8 b4 3 _ _ _ (hj8.kp _ List.mem_cons_self).1).trans rfl) ((cell_of_row w8 b4 4 _ _ _ (hj8.kp _ List.mem_cons_self).1).trans rfl) ((cell_of_row w8 b4 5 _ _ _ (hj8.kp _ List.mem_cons_self).1).trans rfl) (Value_any w8 hj8 (by omega) (by omega) m cc.ix cm.2.1.1 hix hokv) (fun Ub vb' ⟨kb, n7, n8, hv1, hv2⟩ => ?_)
        have zb := kb.size.trans za
        refine Fq.ok ?_
        refine wp_seq (wp_seq ?_)
        refine Fq.at_ Try.f41 23 (by kernel_rfl) ?_
        refine md_r23 zb n8 (fun Uc ⟨kc', h133⟩ => ?_)
        refine Fq.ok ?_
        by_cases hhow : (Pg.val f1.vs m cm.2.1.1).2 = 0
        · refine Fq.cond_false (h133.trans (by rw [decide_eq_true hhow]; rfl)) ?_
          refine Fq.skip (Fq.ok ?_)
          refine Fq.at_ Try.f41 24 (by kernel_rfl) ?_
          refine md_r24 (kc'.size.trans zb) ((kc'.at_ 7 (by omega)).trans n7) (fun Ud ⟨kd, n6⟩ => ?_)
          exact hQ' _ _ ⟨((ka.mono (by omega)).trans ((kb.mono (by omega)).trans (kc'.mono (by omega)))).trans kd, by rw [n6, if_pos e2k], fun _ => hhow, hv1 hhow⟩
        · refine Fq.cond_true (h133.trans (by rw [decide_eq_false hhow]; rfl)) ?_
          refine wp_ret ?_
          repeat (first | with_reducible refine Fq.thR ?_ | with_reducible refine Fq.blR ?_)
          exact hR' _ _ ⟨e2k, hhow, hv2 hhow⟩
      · refine Fq.cond_false (h124.trans (by rw [decide_eq_false (fun e => e2k (hck.symm.trans e))])) ?_
        refine Fq.skip ?_
        exact hQ' _ _ ⟨ka.mono (by omega), by rw [ka.at_ 6 (by omega), l6, if_neg e2k], fun e => absurd e e2k, Below.refl _ _⟩
    · repeat (first | with_reducible refine Fq.thR ?_ | with_reducible refine Fq.blR ?_)
      refine bodyPost_ret (results_none rfl _ _ _) rfl ⟨rfl, ?_⟩
      have hcmd : (Mc.cmd p j cm a s1 f1 fn ks (ms.map Prod.fst)).s = Xr.putS s1 f1 cm.1.2.1 cm.2.1.1 cm.2.1.2.1 := by
       unfold Mc.cmd
       rw [if_neg (by omega), if_pos e2k]
      obtain ⟨q1, q2⟩ := Mc.val_no (y := cm.2.1.1) he1 hno
      have h5 : (Xr.putS s1 f1 cm.1.2.1 cm.2.1.1 cm.2.1.2.1).ended = true ∧ (Xr.putS s1 f1 cm.1.2.1 cm.2.1.1 cm.2.1.2.1).evs = (Xr.valS s1 f1 cm.2.1.1).evs := by
       unfold Xr.putS
       have h6 := (Xr.cl_same (Xr.valS s1 f1 cm.2.1.1).evs).val (Xr.valS s1 f1 cm.2.1.1) f1 cm.2.1.2.1 ⟨q1, rfl⟩
       split
       · exact (Xr.cl_same _).wr _ _ _ _ _ _ h6
       · exact (Xr.cl_same _).fin _ _ _ _ h6
      exact Mc.Post.over ho (by rw [hcmd]; exact h5.1) (by rw [hcmd, h5.2]; exact q2)
    have hj9 := hj8.below hb9
    have z13 := k13.size.trans z12
    have m0 := (k13.at_ 0 (by omega)).trans l0
    have m2 := (k13.at_ 2 (by omega)).trans l2
    have m3 := (k13.at_ 3 (by omega)).trans l3
    have m4 := (k13.at_ 4 (by omega)).trans l4
    have hokx : Pg.okV f1.vs m cm.2.1.2.1 := hsh1.okX hex (hwe e3k e4k)
    refine wp_seq ?_
    refine Fq.at_ Try.f41 25 (by kernel_rfl) ?_
    refine md_r25 (z := (Pg.val f1.vs m cm.2.1.2.1).1) (ok := decide ((Pg.val f1.vs m cm.2.1.2.1).2 = 0)) z13 m0 m4 ((cell_of_row w9 b4 6 _ _ _ (hj9.kp _ List.mem_cons_self).1).trans rfl) ((cell_of_row w9 b4 7 _ _ _ (hj9.kp _ List.mem_cons_self).1).trans rfl) ((cell_of_row w9 b4 8 _ _ _ (hj9.kp _ List.mem_cons_self).1).trans rfl) (Value_any w9 hj9 (by omega) (by omega) m cc.ex cm.2.1.2.1 hex hokx) (fun U14 w10 ⟨k14, n9, n10, hv1, hv2⟩ => ?_)
    have z14 := k14.size.trans z13
    refine Fq.ok ?_
    refine wp_seq (wp_seq ?_)
    refine Fq.at_ Try.f41 26 (by kernel_rfl) ?_
    refine md_r26 z14 n10 (fun U15 ⟨k15, h143⟩ => ?_)
    have z15 := k15.size.trans z14
    refine Fq.ok ?_
    by_cases hhow : (Pg.val f1.vs m cm.2.1.2.1).2 = 0
    case neg =>
     refine Fq.cond_true (h143.trans (by rw [decide_eq_false hhow]; rfl)) ?_
     refine wp_ret ?_
     repeat (first | with_reducible refine Fq.thR ?_ | with_reducible refine Fq.blR ?_)
     refine bodyPost_ret (results_none rfl _ _ _) rfl ⟨rfl, ?_⟩
     obtain ⟨ev', ho⟩ := hv2 hhow
     obtain ⟨q1, q2⟩ := Mc.val_no (y := cm.2.1.2.1) he1 hhow
     have h5 : (Mc.cmd p j cm a s1 f1 fn ks (ms.map Prod.fst)).s.ended = true ∧ (Mc.cmd p j cm a s1 f1 fn ks (ms.map Prod.fst)).s.evs = (Xr.valS s1 f1 cm.2.1.2.1).evs := by
      have hu : (Xr.valS s1 f1 cm.2.1.2.1).ended = true ∧ (Xr.valS s1 f1 cm.2.1.2.1).evs = (Xr.valS s1 f1 cm.2.1.2.1).evs := ⟨q1, rfl⟩
      unfold Mc.cmd
      by_cases c1 : cm.1.1 = 1
      · rw [if_pos c1]
        exact (Xr.cl_same _).wr _ _ _ _ _ _ hu
      rw [if_neg c1]
      by_cases c2 : cm.1.1 = 2
      · rw [if_pos c2]
        show (Xr.putS s1 f1 cm.1.2.1 cm.2.1.1 cm.2.1.2.1).ended = true ∧ (Xr.putS s1 f1 cm.1.2.1 cm.2.1.1 cm.2.1.2.1).evs = _
        unfold Xr.putS
        rw [(Mc.val_ok (y := cm.2.1.1) he1 (hixok c2)).1]
        split
        · exact (Xr.cl_same _).wr _ _ _ _ _ _ hu
        · exact (Xr.cl_same _).fin _ _ _ _ hu
      rw [if_neg c2, if_neg e3k, if_neg e4k]
      by_cases c5 : cm.1.1 = 5
      · rw [if_pos c5]
        exact (Xr.cl_same _).tell _ _ (Or.inr (Or.inl rfl)) hu
      rw [if_neg c5]
      by_cases c6 : cm.1.1 = 6
      · rw [if_pos c6]
        exact hu
      · rw [if_neg c6]
        exact hu
     exact Mc.Post.over ho h5.1 (h5.2.trans q2)
    case pos =>
     refine Fq.cond_false (h143.trans (by rw [decide_eq_true hhow]; rfl)) ?_
     refine Fq.skip (Fq.ok ?_)
     obtain ⟨hvS, hvV⟩ := Mc.val_ok (y := cm.2.1.2.1) he1 hhow
     have hj10 := hj9.below (hv1 hhow)
     generalize hzd : (Pg.val f1.vs m cm.2.1.2.1).1 = z at *
     have o0 := (k15.at_ 0 (by omega)).trans ((k14.at_ 0 (by omega)).trans m0)
     have o2 := (k15.at_ 2 (by omega)).trans ((k14.at_ 2 (by omega)).trans m2)
     have o3 := (k15.at_ 3 (by omega)).trans ((k14.at_ 3 (by omega)).trans m3)
     have o4 := (k15.at_ 4 (by omega)).trans ((k14.at_ 4 (by omega)).trans m4)
     have o6 := (k15.at_ 6 (by omega)).trans ((k14.at_ 6 (by omega)).trans m6)
     have o9 := (k15.at_ 9 (by omega)).trans n9
     refine wp_seq ?_
     refine Fq.at_ Try.f41 27 (by kernel_rfl) ?_
     refine md_r27 z15 o4 ((cell_of_row w10 b4 0 _ _ _ (hj10.kp _ List.mem_cons_self).1).trans rfl) (fun U16 ⟨k16, h145⟩ => ?_)
     have z16 := k16.size.trans z15
     have p0 := (k16.at_ 0 (by omega)).trans o0
     have p2 := (k16.at_ 2 (by omega)).trans o2
     have p3 := (k16.at_ 3 (by omega)).trans o3
     have p4 := (k16.at_ 4 (by omega)).trans o4
     have p6 := (k16.at_ 6 (by omega)).trans o6
     have p9 := (k16.at_ 9 (by omega)).trans o9
     refine Fq.ok ?_
     refine wp_block ?_
     refine wp_seq ?_
     refine Fq.at_ Try.f41 28 (by kernel_rfl) ?_
     refine md_r28 z16 h145 rfl (fun U17 ⟨k17, h146, h145b⟩ => ?_)
     have z17 := k17.size.trans z16
     refine Fq.ok ?_
     by_cases e1k : cm.1.1 = 1
     · refine Fq.cond_true (h146.trans (by rw [decide_eq_true (hck.trans e1k)])) ?_
       obtain ⟨vn, lv, hn1, hn2, hn3⟩ := hvar (by omega)
       refine Fq.at_ Try.f41 29 (by kernel_rfl) ?_
       refine md_r29 (ka := (a : Nat)) (cv := (vn : Nat)) z17 ((k17.at_ 0 (by omega)).trans p0) ((k17.at_ 3 (by omega)).trans p3) ((k17.at_ 4 (by omega)).trans p4) ((k17.at_ 9 (by omega)).trans p9) ((cell_of_row w10 b3 12 _ _ _ (hj10.kp _ (List.mem_cons_of_mem _ List.mem_cons_self)).1).trans rfl) (by rw [cell_of_row w10 b4 1 _ _ _ (hj10.kp _ List.mem_cons_self).1]; show some (Value.int .i64 cc.v) = _; rw [hcv, hn1]) (Write_any w10 hj10 (by omega) (by omega) (a : Nat) vn 0 lv hn2 hn3 z) (fun U18 w11 ⟨_, tg11, ev11, hj11⟩ => ?_)
       refine Fq.blN ?_
       refine bodyPost_end (results_none rfl _ _ _) rfl ⟨rfl, ?_⟩
       have hcmd : Mc.cmd p j cm a s1 f1 fn ks (ms.map Prod.fst) = ⟨Xr.wrS s1 f1 f1.at_ cm.1.2.1 0 z, ⟨Xr.wrF f1 cm.1.2.1 0 z, fn, ks⟩ :: ms.map Prod.fst⟩ := by
        unfold Mc.cmd
        rw [if_pos e1k, hvS, hvV]
       rw [hcmd]
       exact Mc.Post.done hj11 (by show Xr.wrS s1 f1 f1.at_ cm.1.2.1 0 z = _; unfold Xr.wrS; rw [Xr.tell_no he1, hfa, hn1]; rfl) he1 (by show _ :: ms.map Prod.fst = _; unfold Xr.wrF; rw [hn1]; rfl) (Mc.two_sub _ _) (by omega)
     refine Fq.cond_false (h146.trans (by rw [decide_eq_false (fun e => e1k (hck.symm.trans e))])) ?_
     have q0 := (k17.at_ 0 (by omega)).trans p0
     have q2' := (k17.at_ 2 (by omega)).trans p2
     have q3 := (k17.at_ 3 (by omega)).trans p3
     have q4 := (k17.at_ 4 (by omega)).trans p4
     have q6 := (k17.at_ 6 (by omega)).trans p6
     have q9 := (k17.at_ 9 (by omega)).trans p9
     refine wp_seq ?_
     refine Fq.at_ Try.f41 30 (by kernel_rfl) ?_
     refine md_r30 z17 h145b rfl (fun U18 ⟨k18, h155, h145c⟩ => ?_)
     have z18 := k18.size.trans z17
     refine Fq.ok ?_
     by_cases e2k : cm.1.1 = 2
     · refine Fq.cond_true (h155.trans (by rw [decide_eq_true (hck.trans e2k)])) ?_
       obtain ⟨vn, lv, hn1, hn2, hn3⟩ := hvar (by omega)
       obtain ⟨hiS, hiV⟩ := Mc.val_ok (y := cm.2.1.1) he1 (hixok e2k)
       rw [if_pos e2k] at q6
       generalize (Pg.val f1.vs m cm.2.1.1).1 = ix at *
       have hcmd : Mc.cmd p j cm a s1 f1 fn ks (ms.map Prod.fst) = if 0 ≤ ix ∧ ix < (lv.length : Int) then ⟨Xr.wrS s1 f1 f1.at_ cm.1.2.1 ix z, ⟨Xr.wrF f1 cm.1.2.1 ix z, fn, ks⟩ :: ms.map Prod.fst⟩ else ⟨Xr.fin s1 f1 f1.at_ 3, ⟨f1, fn, ks⟩ :: ms.map Prod.fst⟩ := by
        unfold Mc.cmd
        rw [if_neg e1k, if_pos e2k]
        unfold Xr.putS Xr.putF
        rw [hiS, hiV, hvS, hvV, hn1, Int.toNat_natCast, hn2]
        by_cases hq : 0 ≤ ix ∧ ix < (lv.length : Int)
        · rw [if_pos (show 0 ≤ ix ∧ ix < (((some lv).getD []).length : Int) from hq), if_pos (show 0 ≤ ix ∧ ix < (((some lv).getD []).length : Int) from hq), if_pos hq]
        · rw [if_neg (show ¬ (0 ≤ ix ∧ ix < (((some lv).getD []).length : Int)) from hq), if_neg (show ¬ (0 ≤ ix ∧ ix < (((some lv).getD []).length : Int)) from hq), if_neg hq]
       have hzf := hj10.frs.1.zf
       have hvlt : vn < vb.length := by rw [hzf.len]; exact (List.getElem?_eq_some_iff.1 hn2).1
       obtain ⟨gq, cq, y1, y2, y3, y4, _, _⟩ := hzf.at_ vn vb[vn] lv (List.getElem?_eq_getElem hvlt) hn2
       have hfewv : f1.vs.length ≤ 100 := hzf.few
       have y4' : lv.length ≤ 100 := y4
       have hvl2 : vn < f1.vs.length := (List.getElem?_eq_some_iff.1 hn2).1
       have r0 := (k18.at_ 0 (by omega)).trans q0
       have r2 := (k18.at_ 2 (by omega)).trans q2'
       have r3 := (k18.at_ 3 (by omega)).trans q3
       have r4 := (k18.at_ 4 (by omega)).trans q4
       have r6 := (k18.at_ 6 (by omega)).trans q6
       have r9 := (k18.at_ 9 (by omega)).trans q9
       have c41 : w10.cell? ⟨b4, 1, none⟩ = some (.int .i64 (vn : Nat)) := by rw [cell_of_row w10 b4 1 _ _ _ (hj10.kp _ List.mem_cons_self).1]; show some (Value.int .i64 cc.v) = _; rw [hcv, hn1]
       have ct3 : w10.cell? ⟨g, ms.length * 5 + 3, none⟩ = some (.slice (some ⟨gq, 0, none⟩) f1.vs.length zc) := by
        have h3 := hj10.top 3 _ rfl
        have y1' : gv = some gq := y1
        rw [y1'] at h3
        exact h3
       refine wp_seq ?_
       refine Fq.at_ Try.f41 31 (by kernel_rfl) ?_
       refine md_r31 (v := vn) z18 r2 r4 r6 ct3 c41 hvl2 (by omega) y2 (by omega) rfl (fun U19 ⟨k19, h168⟩ => ?_)
       have z19 := k19.size.trans z18
       have hj11 := hj10.below ((Below.refl _ _).drew)
       have c41b : w10.drew.cell? ⟨b4, 1, none⟩ = some (.int .i64 (vn : Nat)) := c41
       generalize w10.drew = w11 at *
       refine Fq.ok ?_
       by_cases hin2 : 0 ≤ ix ∧ ix < (lv.length : Int)
       · refine Fq.cond_true (h168.trans (by rw [decide_eq_true (by omega)])) ?_
         obtain ⟨ixn, rfl⟩ : ∃ ixn : Nat, ix = (ixn : Nat) := ⟨ix.toNat, by omega⟩
         refine Fq.at_ Try.f41 32 (by kernel_rfl) ?_
         refine md_r32 (ka := (a : Nat)) (cv := (vn : Nat)) z19 ((k19.at_ 0 (by omega)).trans r0) ((k19.at_ 3 (by omega)).trans r3) ((k19.at_ 4 (by omega)).trans r4) ((k19.at_ 6 (by omega)).trans r6) ((k19.at_ 9 (by omega)).trans r9) ((cell_of_row w11 b3 12 _ _ _ (hj11.kp _ (List.mem_cons_of_mem _ List.mem_cons_self)).1).trans rfl) c41b (Write_any w11 hj11 (by omega) (by omega) (a : Nat) vn ixn lv hn2 (by omega) z) (fun U20 w12 ⟨_, tg12, ev12, hj12⟩ => ?_)
         refine Fq.blN ?_
         refine bodyPost_end (results_none rfl _ _ _) rfl ⟨rfl, ?_⟩
         rw [hcmd, if_pos hin2]
         exact Mc.Post.done hj12 (by show Xr.wrS s1 f1 f1.at_ cm.1.2.1 _ z = _; unfold Xr.wrS; rw [Xr.tell_no he1, hfa, hn1]) he1 (by show _ :: ms.map Prod.fst = _; unfold Xr.wrF; rw [hn1]; rfl) (Mc.two_sub _ _) (by omega)
       · refine Fq.cond_false (h168.trans (by rw [decide_eq_false (by omega)])) ?_
         refine Fq.at_ Try.f41 33 (by kernel_rfl) ?_
         refine md_r33 (ka := (a : Nat)) z19 ((k19.at_ 0 (by omega)).trans r0) ((k19.at_ 3 (by omega)).trans r3) ((cell_of_row w11 b3 12 _ _ _ (hj11.kp _ (List.mem_cons_of_mem _ List.mem_cons_self)).1).trans rfl) (End_any w11 hj11 (by omega) (by omega) (a : Nat) 3) (fun U20 w12 ⟨_, ev12, ho⟩ => ?_)
         refine Fq.blN ?_
         refine bodyPost_end (results_none rfl _ _ _) rfl ⟨rfl, ?_⟩
         rw [hcmd, if_neg hin2]
         exact Mc.Post.over ho rfl ((Mc.fin_is he1 f1 f1.at_ 3).2.trans (by rw [hfa]))
     refine Fq.cond_false (h155.trans (by rw [decide_eq_false (fun e => e2k (hck.symm.trans e))])) ?_
     refine wp_seq ?_
     refine Fq.at_ Try.f41 34 (by kernel_rfl) ?_
     refine md_r34 z18 h145c rfl (fun U19 ⟨k19, h181, h145d⟩ => ?_)
     have z19 := k19.size.trans z18
     refine Fq.ok ?_
     by_cases e5k : cm.1.1 = 5
     · refine Fq.cond_true (h181.trans (by rw [decide_eq_true (hck.trans e5k)])) ?_
       refine Fq.at_ Try.f41 35 (by kernel_rfl) ?_
       refine md_r35 (ka := (a : Nat)) z19 ((k19.at_ 0 (by omega)).trans ((k18.at_ 0 (by omega)).trans q0)) ((k19.at_ 3 (by omega)).trans ((k18.at_ 3 (by omega)).trans q3)) ((k19.at_ 9 (by omega)).trans ((k18.at_ 9 (by omega)).trans q9)) ((cell_of_row w10 b3 12 _ _ _ (hj10.kp _ (List.mem_cons_of_mem _ List.mem_cons_self)).1).trans rfl) (Tell_any w10 hj10 (by omega) (by omega) 4 (a : Nat) 0 0 z) (fun U20 w11 ⟨_, tg11, ev11, hj11⟩ => ?_)
       refine Fq.blN ?_
       refine bodyPost_end (results_none rfl _ _ _) rfl ⟨rfl, ?_⟩
       have hcmd : Mc.cmd p j cm a s1 f1 fn ks (ms.map Prod.fst) = ⟨Xr.tell s1 ⟨4, f1.num, f1.at_, 0, 0, z⟩, ⟨f1, fn, ks⟩ :: ms.map Prod.fst⟩ := by
        unfold Mc.cmd
        rw [if_neg e1k, if_neg e2k, if_neg e3k, if_neg e4k, if_pos e5k, hvS, hvV]
       rw [hcmd]
       exact Mc.Post.done hj11 (by show Xr.tell s1 _ = _; rw [Xr.tell_no he1, hfa]) he1 rfl (Mc.two_sub _ _) (by omega)
     refine Fq.cond_false (h181.trans (by rw [decide_eq_false (fun e => e5k (hck.symm.trans e))])) ?_
     have t2 := (k19.at_ 2 (by omega)).trans ((k18.at_ 2 (by omega)).trans q2')
     have t3 := (k19.at_ 3 (by omega)).trans ((k18.at_ 3 (by omega)).trans q3)
     have t4 := (k19.at_ 4 (by omega)).trans ((k18.at_ 4 (by omega)).trans q4)
     have t9 := (k19.at_ 9 (by omega)).trans ((k18.at_ 9 (by omega)).trans q9)
     have hcnt := Pg.cnt_succ cm
     have hkn2 : ks.length ≤ 100000 := by
      have h9 : (some ⟨j, cm, a⟩ :: ks : List (Mc.K m)).length + 200 * s.fuel ≤ 200 * 501 := hfew
      rw [List.length_cons] at h9
      exact Mc.few_le h9 h0
     have hkn3 : (some ⟨j, cm, a⟩ :: ks : List (Mc.K m)).length ≤ 100000 := by
      have h9 : (some ⟨j, cm, a⟩ :: ks : List (Mc.K m)).length + 200 * s.fuel ≤ 200 * 501 := hfew
      exact Mc.few_le3 h9 h0
     have hb10 := hj10.bel
     have hrow10 := hj10.frs.1.tr
     refine wp_seq ?_
     refine Fq.at_ Try.f41 36 (by kernel_rfl) ?_
     refine md_r36 z19 h145d rfl (fun U20 ⟨k20, h188, h145e⟩ => ?_)
     have z20 := k20.size.trans z19
     refine Fq.ok ?_
     by_cases e6k : cm.1.1 = 6
     · refine Fq.cond_true (h188.trans (by rw [decide_eq_true (hck.trans e6k)])) ?_
       have hcmd : Mc.cmd p j cm a s1 f1 fn ks (ms.map Prod.fst) = ⟨s1, ⟨f1, fn, (if z ≠ 0 then Mc.push j cm.2.2.1 (a + 1) else Mc.push j cm.2.2.2 (a + 1 + Pg.cnts cm.2.2.1)) ++ ks⟩ :: ms.map Prod.fst⟩ := by
        unfold Mc.cmd
        rw [if_neg e1k, if_neg e2k, if_neg e3k, if_neg e4k, if_neg e5k, if_pos e6k, hvS, hvV]
       rw [hcmd]
       refine wp_seq ?_
       refine Fq.at_ Try.f41 37 (by kernel_rfl) ?_
       refine md_r37 z20 ((k20.at_ 9 (by omega)).trans t9) rfl (fun U21 ⟨k21, h191⟩ => ?_)
       have z21 := k21.size.trans z20
       have x2 := (k21.at_ 2 (by omega)).trans ((k20.at_ 2 (by omega)).trans t2)
       have x3 := (k21.at_ 3 (by omega)).trans ((k20.at_ 3 (by omega)).trans t3)
       have x4 := (k21.at_ 4 (by omega)).trans ((k20.at_ 4 (by omega)).trans t4)
       refine Fq.ok ?_
       by_cases hz : z ≠ 0
       · rw [if_pos hz]
         refine Fq.cond_true (h191.trans (by rw [decide_eq_true hz])) ?_
         obtain ⟨ccs, A, hA0, hpu, hrks2⟩ := Mc.Pu.of hb10 j cc.thn cm.2.2.1 (a + 1) hth (by omega)
         refine Fq.at_ Try.f41 38 (by kernel_rfl) ?_
         refine md_r38 (a := a) z21 x2 x3 x4 ((cell_of_row w10 b3 12 _ _ _ (hj10.kp _ (List.mem_cons_of_mem _ List.mem_cons_self)).1).trans rfl) ((cell_of_row w10 b4 10 _ _ _ (hj10.kp _ List.mem_cons_self).1).trans rfl) (by omega) (Push_any w10 w0.heap.size hb10.size g (ms.length * 5) cc.thn.ad cc.thn.len cc.thn.cap (a + 1) _ ccs A hA0 hpu _ ks kcs hkn2 (hj10.top 4 _ rfl) (hj10.topFz _) hrow10 hj10.tvne) (fun U22 w11 ⟨_, tv11, hgr⟩ => ?_)
         refine Fq.blN ?_
         refine bodyPost_end (results_none rfl _ _ _) rfl ⟨rfl, ?_⟩
         exact Mc.Post.done (hj10.pushed hgr hrks2) rfl he1 rfl (Mc.two_sub _ _) (by omega)
       · rw [if_neg hz]
         refine Fq.cond_false (h191.trans (by rw [decide_eq_false hz])) ?_
         refine Fq.at_ Try.f41 39 (by kernel_rfl) ?_
         refine md_r39 (a := a) (c1 := Pg.cnts cm.2.2.1) (R := fun w' => Mc.Post w0 hs bm fs is inp fuel (bnd + 1) ⟨s1, ⟨f1, fn, Mc.push j cm.2.2.2 (a + 1 + Pg.cnts cm.2.2.1) ++ ks⟩ :: ms.map Prod.fst⟩ w') z21 x2 x3 x4 (fun V hV => ⟨((cell_of_row V b3 12 _ _ _ ((hj10.below hV).kp _ (List.mem_cons_of_mem _ List.mem_cons_self)).1).trans rfl), ((cell_of_row V b4 10 _ _ _ ((hj10.below hV).kp _ List.mem_cons_self).1).trans rfl), ((cell_of_row V b4 11 _ _ _ ((hj10.below hV).kp _ List.mem_cons_self).1).trans rfl)⟩) (by omega) (by omega) (Count_any j cc.thn cm.2.2.1 w10.drew (hth.laterC (hb10.trans ((Below.refl _ _).drew.mono hb10.size)) (Nat.le_refl _)) (by omega)) (fun V hV => ?_) (fun U22 w11 ⟨_, hpost⟩ => ?_)
         · have hjV := hj10.below hV
           obtain ⟨ccs, A, hA0, hpu, hrks2⟩ := Mc.Pu.of hjV.bel j cc.els cm.2.2.2 (a + 1 + Pg.cnts cm.2.2.1) hel (by omega)
           refine (Push_any V w0.heap.size hjV.bel.size g (ms.length * 5) cc.els.ad cc.els.len cc.els.cap (a + 1 + Pg.cnts cm.2.2.1) _ ccs A hA0 hpu _ ks kcs hkn2 (hjV.top 4 _ rfl) (hjV.topFz _) hjV.frs.1.tr hjV.tvne).mono ?_
           rintro r9 w9' ⟨rfl, tv9, hgr⟩
           exact ⟨rfl, Mc.Post.done (hjV.pushed hgr hrks2) rfl he1 rfl (Mc.two_sub _ _) (by omega)⟩
         · refine Fq.blN ?_
           exact bodyPost_end (results_none rfl _ _ _) rfl ⟨rfl, hpost⟩
     refine Fq.cond_false (h188.trans (by rw [decide_eq_false (fun e => e6k (hck.symm.trans e))])) ?_
     have e7k : cm.1.1 = 7 := Mc.seven hkr e1k e2k e3k e4k e5k e6k
     refine wp_seq ?_
     refine Fq.at_ Try.f41 40 (by kernel_rfl) ?_
     refine md_r40 z20 h145e rfl (fun U21 ⟨k21, h210, h145f⟩ => ?_)
     have z21 := k21.size.trans z20
     refine Fq.ok ?_
     refine Fq.cond_true (h210.trans (by rw [decide_eq_true (hck.trans e7k)])) ?_
     have hcmd : Mc.cmd p j cm a s1 f1 fn ks (ms.map Prod.fst) = ⟨s1, ⟨f1, fn, if z ≠ 0 then Mc.push j cm.2.2.1 (a + 1) ++ some ⟨j, cm, a⟩ :: ks else ks⟩ :: ms.map Prod.fst⟩ := by
      unfold Mc.cmd
      rw [if_neg e1k, if_neg e2k, if_neg e3k, if_neg e4k, if_neg e5k, if_neg e6k, hvS, hvV]
     rw [hcmd]
     refine wp_seq ?_
     refine Fq.at_ Try.f41 41 (by kernel_rfl) ?_
     refine md_r41 z21 ((k21.at_ 9 (by omega)).trans ((k20.at_ 9 (by omega)).trans t9)) rfl (fun U22 ⟨k22, h213⟩ => ?_)
     have z22 := k22.size.trans z21
     have x2 := (k22.at_ 2 (by omega)).trans ((k21.at_ 2 (by omega)).trans ((k20.at_ 2 (by omega)).trans t2))
     have x3 := (k22.at_ 3 (by omega)).trans ((k21.at_ 3 (by omega)).trans ((k20.at_ 3 (by omega)).trans t3))
     have x4 := (k22.at_ 4 (by omega)).trans ((k21.at_ 4 (by omega)).trans ((k20.at_ 4 (by omega)).trans t4))
     refine Fq.ok ?_
     by_cases hz : z ≠ 0
     · rw [if_pos hz]
       refine Fq.cond_true (h213.trans (by rw [decide_eq_true hz])) ?_
       refine wp_seq ?_
       refine Fq.at_ Try.f41 42 (by kernel_rfl) ?_
       refine md_r42 (n := ks.length) (ka := (a : Nat)) (b13 := false) (b14 := false) (B := w0.heap.size) (xs := Mc.tsC ks kcs) z22 x2 x3 (hj10.top 4 _ rfl) (hj10.topFz _) ((cell_of_row w10 b3 0 _ _ _ (hj10.kp _ (List.mem_cons_of_mem _ List.mem_cons_self)).1).trans rfl) ((cell_of_row w10 b3 1 _ _ _ (hj10.kp _ (List.mem_cons_of_mem _ List.mem_cons_self)).1).trans rfl) ((cell_of_row w10 b3 2 _ _ _ (hj10.kp _ (List.mem_cons_of_mem _ List.mem_cons_self)).1).trans rfl) ((cell_of_row w10 b3 3 _ _ _ (hj10.kp _ (List.mem_cons_of_mem _ List.mem_cons_self)).1).trans rfl) ((cell_of_row w10 b3 4 _ _ _ (hj10.kp _ (List.mem_cons_of_mem _ List.mem_cons_self)).1).trans rfl) ((cell_of_row w10 b3 5 _ _ _ (hj10.kp _ (List.mem_cons_of_mem _ List.mem_cons_self)).1).trans rfl) ((cell_of_row w10 b3 6 _ _ _ (hj10.kp _ (List.mem_cons_of_mem _ List.mem_cons_self)).1).trans rfl) ((cell_of_row w10 b3 7 _ _ _ (hj10.kp _ (List.mem_cons_of_mem _ List.mem_cons_self)).1).trans rfl) ((cell_of_row w10 b3 8 _ _ _ (hj10.kp _ (List.mem_cons_of_mem _ List.mem_cons_self)).1).trans rfl) ((cell_of_row w10 b3 9 _ _ _ (hj10.kp _ (List.mem_cons_of_mem _ List.mem_cons_self)).1).trans rfl) ((cell_of_row w10 b3 10 _ _ _ (hj10.kp _ (List.mem_cons_of_mem _ List.mem_cons_self)).1).trans rfl) ((cell_of_row w10 b3 11 _ _ _ (hj10.kp _ (List.mem_cons_of_mem _ List.mem_cons_self)).1).trans rfl) ((cell_of_row w10 b3 12 _ _ _ (hj10.kp _ (List.mem_cons_of_mem _ List.mem_cons_self)).1).trans rfl) ((cell_of_row w10 b3 13 _ _ _ (hj10.kp _ (List.mem_cons_of_mem _ List.mem_cons_self)).1).trans rfl) ((cell_of_row w10 b3 14 _ _ _ (hj10.kp _ (List.mem_cons_of_mem _ List.mem_cons_self)).1).trans rfl) hrow10 hb10.size (by omega) hj10.tvne (fun U23 w11 ⟨k23, gA, cA, w6, hw11, hgA, hoA, hatA⟩ => ?_)
       have z23 := k23.size.trans z22
       refine Fq.ok ?_
       have htg2 := hj10.trf g rfl
       have hfr10 := hj10.frs.1
       have hgAg : gA ≠ g := fun e => by
        rcases hatA with e2 | e2
        · have h1 := hfr10.tt gA e2
          rw [e] at h1
          omega
        · have h1 := (hj10.frr.lt g rfl).2
          omega
       have hgb1 : w11.heap[g]? = (w10.setCell ⟨g, ms.length * 5 + 4, none⟩ (.slice (some ⟨gA, 0, none⟩) (ks.length + 1) cA)).heap[g]? := by
        rw [hw11]
        exact Mc.set_congr (hgA.block g (hj10.frr.lt g rfl).2 (fun e => hj10.tvne e.symm)) _ _
       have hrow1 : w11.ownsRow w0.heap.size 82 15 (.slice (some ⟨gA, 0, none⟩) (ks.length + 1) cA) (some ⟨j, cm, a⟩ :: ks : List (Mc.K m)).length (Mc.tsC (some ⟨j, cm, a⟩ :: ks) (cc :: kcs)) := by
        rw [hw11]
        exact Xr.ow_kept hoA (fun q hq => by cases hq; exact Xr.set_other hgAg)
       have hj11 := hj10.setKs (W' := w11) (.slice (some ⟨gA, 0, none⟩) (ks.length + 1) cA) (some ⟨j, cm, a⟩ :: ks) (cc :: kcs) (by rw [hw11]; exact ((Mc.Ag.below (Below.refl _ _)).grown hgA (fun q hq _ => .inr (hfr10.tt q hq))).set g _ _ (fun _ => .inl htg2)) hgb1 hrow1 (fun q hq => by
        cases hq
        rcases hatA with e2 | e2
        · exact .inl ⟨(hrow10.lt gA e2).2, hfr10.tt gA e2⟩
        · exact .inr e2) ⟨hrc2, hrks⟩
       clear hgb1 hrow1 hw11 hgA hoA hatA
       obtain ⟨ccs, A, hA0, hpu, hrks2⟩ := Mc.Pu.of hj11.bel j cc.thn cm.2.2.1 (a + 1) hth (by omega)
       refine Fq.at_ Try.f41 43 (by kernel_rfl) ?_
       refine md_r43 (a := a) z23 ((k23.at_ 2 (by omega)).trans x2) ((k23.at_ 3 (by omega)).trans x3) ((k23.at_ 4 (by omega)).trans x4) ((cell_of_row w11 b3 12 _ _ _ (hj11.kp _ (List.mem_cons_of_mem _ List.mem_cons_self)).1).trans rfl) ((cell_of_row w11 b4 10 _ _ _ (hj11.kp _ List.mem_cons_self).1).trans rfl) (by omega) (Push_any w11 w0.heap.size hj11.bel.size g (ms.length * 5) cc.thn.ad cc.thn.len cc.thn.cap (a + 1) _ ccs A hA0 hpu _ (some ⟨j, cm, a⟩ :: ks) (cc :: kcs) hkn3 (hj11.top 4 _ rfl) (hj11.topFz _) hj11.frs.1.tr hj11.tvne) (fun U24 w12 ⟨_, tv12, hgr⟩ => ?_)
       refine Fq.blN ?_
       refine bodyPost_end (results_none rfl _ _ _) rfl ⟨rfl, ?_⟩
       exact Mc.Post.done (hj11.pushed hgr hrks2) rfl he1 rfl (Mc.two_sub _ _) (by omega)
     · rw [if_neg hz]
       refine Fq.cond_false (h213.trans (by rw [decide_eq_false hz])) ?_
       refine Fq.skip ?_
       refine Fq.blN ?_
       refine bodyPost_end (results_none rfl _ _ _) rfl ⟨rfl, ?_⟩
       exact Mc.Post.done hj10 rfl he1 rfl (Mc.two_sub _ _) (by omega)
end
end Go.Proofs.Ytcalcikclcmkaaa
