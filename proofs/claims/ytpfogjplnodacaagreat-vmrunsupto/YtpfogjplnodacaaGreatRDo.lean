/-
  The document's runner: Do. By the verifier; written by mkrdo.py.
-/
import Derived.Test.YtpfogjplnodacaaGreatRCall
import Derived.Test.YtpfogjplnodacaaGreatR3
import Derived.Test.YtpfogjplnodacaaGreatR4
import Derived.Test.YtpfogjplnodacaaGreatLI
set_option maxRecDepth 100000
set_option maxHeartbeats 12800000
namespace Go.Proofs.YtpfogjplnodacaaGreat
open Go.RowKit Go.Maps
set_option linter.unusedVariables false
section
variable {w0 : World} {tg : Nat → Nat} {bm : Nat} {c : Vm.Cx} {t : Pg.Sl} {fuel : Nat} {s : Xr.S} {rf ev : Value} {T : Vd.St} {W : World} {ms : List Rm.X}
theorem Rm.Post.lost (h : Rm.J w0 W tg bm c t fuel s true ms rf ev) (hT : T.lost = true) : Rm.Post w0 bm c fuel T W := ⟨tg, t, s, true, ms, rf, ev, h, hT.symm, fun e => by rw [hT] at e; cases e⟩
theorem Rm.Post.over {s' : Xr.S} (h : Rm.J w0 W tg bm c t fuel s' false ms rf ev) (he : s'.ended = true) (hT : T = ⟨s', [], false⟩) : Rm.Post w0 bm c fuel T W := by
 subst hT
 exact ⟨tg, t, s', false, ms, rf, ev, h, rfl, fun _ => ⟨rfl, fun e => by rw [he] at e; cases e⟩⟩
theorem Rm.Post.on {s' : Xr.S} (h : Rm.J w0 W tg bm c t fuel s' false ms rf ev) (he : s'.ended = false) (hT : T = ⟨s', ms.map Prod.fst, false⟩) : Rm.Post w0 bm c fuel T W := by
 subst hT
 exact ⟨tg, t, s', false, ms, rf, ev, h, rfl, fun _ => ⟨rfl, fun _ => rfl⟩⟩
theorem Rm.Post.push {f : Vd.F} {n : Int} {z' : Rm.Z} (h : Rm.J w0 W tg bm c t fuel s (false || !decide (f.pile.length < 64)) ((Rm.pu f n, z') :: ms) rf ev) (he : s.ended = false) : Rm.Post w0 bm c fuel (if f.pile.length < 64 then ⟨s, { f with pile := n :: f.pile } :: ms.map Prod.fst, false⟩ else Vd.astray s) W := by
 by_cases hlt : f.pile.length < 64
 · rw [if_pos hlt]
   rw [decide_eq_true hlt] at h
   unfold Rm.pu at h
   rw [if_pos hlt] at h
   exact Rm.Post.on h he rfl
 · rw [if_neg hlt]
   rw [decide_eq_false hlt] at h
   exact Rm.Post.lost h rfl
theorem Rm.J.var {f : Vd.F} {z : Rm.Z} {lo : Bool} {g cp : Nat} (h : Rm.J w0 W tg bm c t fuel s lo ((f, z) :: ms) (.slice (some ⟨g, 0, none⟩) (ms.length + 1) cp) ev) {v : Nat} {l : List Int} (hv : f.fr.vs[v]? = some l) :
  ∃ gv zb zc, W.cell? ⟨g, ms.length * 6 + 5, none⟩ = some (.slice (some ⟨gv, 0, none⟩) f.fr.vs.length z.c) ∧ v < f.fr.vs.length ∧ W.cell? ⟨gv, v, none⟩ = some (.slice (some ⟨zb, 0, none⟩) l.length zc) ∧ (∀ j y, l[j]? = some y → W.cell? ⟨zb, j, none⟩ = some (.int .i64 y)) ∧ True := by
 have hzf := h.frs.1.zf
 have hvl : v < f.fr.vs.length := (List.getElem?_eq_some_iff.1 hv).1
 have hvb : v < z.vb.length := by rw [hzf.len]; exact hvl
 obtain ⟨gv, cv, q1, q2, q3, q4, q5, q6⟩ := hzf.at_ v z.vb[v] l (List.getElem?_eq_getElem hvb) hv
 have q1' : z.gv = some gv := q1
 refine ⟨gv, z.vb[v], cv, ?_, hvl, q2, q5, trivial⟩
 have h3 := h.top 5 _ rfl
 dsimp only at h3
 rw [q1'] at h3
 exact h3
theorem Rm.pcase (l : List Int) : l = [] ∨ ∃ n q, l = n :: q := by
 cases l with
 | nil => exact .inl rfl
 | cons n q => exact .inr ⟨n, q, rfl⟩
theorem Rm.pcase2 (l : List Int) : (l.length < 2 ∧ (l = [] ∨ ∃ n, l = [n])) ∨ ∃ n i q, l = n :: i :: q := by
 rcases l with _ | ⟨n, _ | ⟨i, q⟩⟩
 · exact .inl ⟨by simp, .inl rfl⟩
 · exact .inl ⟨by simp, .inr ⟨n, rfl⟩⟩
 · exact .inr ⟨n, i, q, rfl⟩
theorem Rm.J.rfCap {x y : Rm.X} {lo : Bool} {g cp : Nat} (h : Rm.J w0 W tg bm c t fuel s lo (x :: y :: ms) (.slice (some ⟨g, 0, none⟩) (ms.length + 2) cp) ev) : ms.length + 2 ≤ cp ∧ cp ≤ 9223372036854775807 := by
 rcases h.frr.2 with ⟨h1, h2⟩ | ⟨g', cap, cur, hv, hg, hh, hc, hm, hz, ht⟩
 · simp at h2
 · have hv3 : Value.slice (some ⟨g, 0, none⟩) (ms.length + 2) cp = Value.slice (some ⟨g', 0, none⟩) (ms.length + 2) cap := hv
   simp only [Value.slice.injEq, Option.some.injEq, Addr.mk.injEq, and_true, true_and] at hv3
   have hc2 : ms.length + 2 ≤ cap := hc
   unfold maxLen at hm
   omega
theorem rDo_any {li : List Kd.I} {fs : List Int} {ss : List (List Int)} (hco : Kd.RCo w0 c.si c.sf c.sz li fs ss) (hc : Vd.Cd li fs ss) (hss : ∀ sz ∈ ss, sz.length ≤ 2000000) (W : World) {f : Vd.F} {z : Rm.Z} (h : Rm.J w0 W tg bm c t fuel s false ((f, z) :: ms) rf ev) {k : Nat} (hok : Vd.Ok li ss k ⟨s, f :: ms.map Prod.fst, false⟩) (hk : k ≤ 50000) (hfu : fuel ≤ 1000) :
  Calls Tryz.prog 22 #[.pointer (some ⟨bm, 0, none⟩)] W fun r W' => r = .returned (.tuple #[]) ∧ Rm.Post w0 bm c fuel (Vd.do1 li fs ss ⟨s, f :: ms.map Prod.fst, false⟩) W' := by
 obtain ⟨g, gc, rfl⟩ := h.rfForm
 have hms : ms.length ≤ 5 := by have := hok.few.2; simp at this; omega
 have hfo := hok.all f List.mem_cons_self
 have hgo : s.ended = false := hok.s.go
 have hevs : s.evs.length ≤ 4 * k := hok.s.evs
 have hmade : s.made ≤ k := hok.s.made
 have htop := hfo.top
 have hpcl := hfo.pc
 have hli3 := hc.few
 have hsil : c.si.len = li.length := hco.ins.len
 have hsz8 : ∀ y ∈ ss[f.fn]?.getD [], 0 ≤ y ∧ y ≤ 8 := fun y hy => by
  rw [List.getElem?_eq_getElem hfo.fn] at hy
  exact hc.siz _ (List.getElem_mem hfo.fn) y hy
 refine calls_of_wp Tryz.func22 rfl ?_
 rw [show Tryz.f22.ntmps - (#[.pointer (some ⟨bm, 0, none⟩)] : Array Value).size = 400 by rw [Tryz.ntmps22]; rfl]
 obtain ⟨T0, hT0⟩ : ∃ T0, T0 = (#[.pointer (some ⟨bm, 0, none⟩)] : Array Value) ++ Array.replicate 400 undef := ⟨_, rfl⟩
 have z0 : T0.size = 401 := by rw [hT0, Array.size_append, Array.size_replicate]; rfl
 have u0_0 : T0[0]? = some (.pointer (some ⟨bm, 0, none⟩)) := by rw [hT0]; simp
 rw [← hT0]
 clear hT0
 refine wp_seq ?_
 refine Fq.at_ Tryz.f22 0 (by kernel_rfl) ?_
 refine rd_r0 z0 u0_0 (rTop_any bm g ms.length gc W (h.box.at_ 7 _ rfl) (by omega)) (fun U1 w1 ⟨k1, u1_2, hb1⟩ => ?_)
 have z1 := k1.size.trans z0
 have u1_0 := (k1.at_ 0 (by omega)).trans u0_0
 have hj1 := h.below hb1
 clear h hb1
 refine Fq.ok ?_
 refine wp_seq (wp_seq ?_)
 refine Fq.at_ Tryz.f22 1 (by kernel_rfl) ?_
 refine rd_r1 (pc := f.pc) (il := li.length) z1 u1_0 u1_2 (hj1.top 2 _ rfl) (by rw [← hsil]; exact hj1.box.at_ 0 _ rfl) hli3 (by omega) rfl (fun U2 ⟨k2, h28⟩ => ?_)
 have z2 := k2.size.trans z1
 have u2_0 := (k2.at_ 0 (by omega)).trans u1_0
 have u2_2 := (k2.at_ 2 (by omega)).trans u1_2
 have hj2 := hj1.below ((Below.refl w1.heap.size w1).drew)
 generalize w1.drew = w2 at *
 clear hj1
 refine Fq.ok ?_
 by_cases hpc : li.length ≤ f.pc
 · refine Fq.cond_true (h28.trans (by rw [decide_eq_true hpc])) ?_
   refine wp_seq ?_
   refine Fq.at_ Tryz.f22 2 (by kernel_rfl) ?_
   refine rd_r2 z2 u2_0 (hj2.box.at_ 10 _ rfl) (hj2.box.fz 10) (fun U3 k3 => ?_)
   refine Fq.ok (wp_ret ?_)
   repeat (first | with_reducible refine Fq.thR ?_ | with_reducible refine Fq.blR ?_)
   refine bodyPost_ret (results_none rfl _ _ _) rfl ⟨rfl, Rm.Post.lost (hj2.set 10 (.bool true) (t' := t) (s' := s) (lo' := true) rfl hj2.hf hj2.inp rfl).1 ?_⟩
   unfold Vd.do1
   dsimp only
   rw [List.getElem?_eq_none_iff.2 hpc]
   rfl
 refine Fq.cond_false (h28.trans (by rw [decide_eq_false hpc])) ?_
 refine Fq.skip (Fq.ok ?_)
 obtain ⟨x, hx⟩ : ∃ x, li[f.pc]? = some x := ⟨_, List.getElem?_eq_getElem (by omega)⟩
 have hdo : Vd.do1 li fs ss ⟨s, f :: ms.map Prod.fst, false⟩ = Vd.does fs ss x s { f with pc := f.pc + 1 } (ms.map Prod.fst) := by unfold Vd.do1; dsimp only; rw [hx]
 rw [hdo]
 obtain ⟨bi, oi, hiad, hib, hi0, hi1, hi2⟩ := hco.ins.at_ f.pc x hx
 obtain ⟨hkx, hin⟩ := hc.ins x (List.mem_of_getElem? hx)
 obtain ⟨xk, xa, xb⟩ := x
 dsimp only at hi0 hi1 hi2 hkx
 have hbl := hj2.bel
 refine wp_seq ?_
 refine Fq.at_ Tryz.f22 3 (by kernel_rfl) ?_
 refine rd_r3 (ia := none) (pc := f.pc) (il := li.length) (b := bi) (o := oi) z2 u2_0 u2_2 (hj2.top 2 _ rfl) (by rw [← hiad, ← hsil]; exact hj2.box.at_ 0 _ rfl) (by omega) hli3 ((hbl.cell (p := ⟨bi, oi + f.pc * 3, none⟩) hib).trans hi0) ((hbl.cell (p := ⟨bi, oi + f.pc * 3 + 1, none⟩) hib).trans hi1) ((hbl.cell (p := ⟨bi, oi + f.pc * 3 + 2, none⟩) hib).trans hi2) (fun U3 ⟨k3, u3_3⟩ => ?_)
 have z3 := k3.size.trans z2
 have u3_0 := (k3.at_ 0 (by omega)).trans u2_0
 have u3_2 := (k3.at_ 2 (by omega)).trans u2_2
 obtain ⟨hj3, hk3⟩ := hj2.alloc Rm.C (Obj.cells #[.int .i64 xk, .int .i64 xa, .int .i64 xb] 54)
 have how3 : Rm.Own (w2.alloc (Obj.cells #[.int .i64 xk, .int .i64 xa, .int .i64 xb] 54)) (fun q => if q = w2.heap.size then 3 else tg q) w2.heap.size (Obj.cells #[.int .i64 xk, .int .i64 xa, .int .i64 xb] 54) := ⟨heap_alloc_new w2 _, if_pos rfl⟩
 have hj3d := hj3.below ((Below.refl (w2.alloc (Obj.cells #[.int .i64 xk, .int .i64 xa, .int .i64 xb] 54)).heap.size (w2.alloc (Obj.cells #[.int .i64 xk, .int .i64 xa, .int .i64 xb] 54))).drew)
 have how3d : Rm.Own (w2.alloc (Obj.cells #[.int .i64 xk, .int .i64 xa, .int .i64 xb] 54)).drew (fun q => if q = w2.heap.size then 3 else tg q) w2.heap.size (Obj.cells #[.int .i64 xk, .int .i64 xa, .int .i64 xb] 54) := how3.keep (Vm.K.below ((Below.refl _ _).drew))
 generalize hb3 : w2.heap.size = b3 at *
 generalize (w2.alloc (Obj.cells #[.int .i64 xk, .int .i64 xa, .int .i64 xb] 54)).drew = w3 at *
 generalize (fun q => if q = b3 then 3 else tg q) = tg5 at *
 clear hj2 hj3 how3 hk3 hb3 hi0 hi1 hi2 hbl hdo
 refine Fq.ok ?_
 refine wp_seq ?_
 refine Fq.at_ Tryz.f22 4 (by kernel_rfl) ?_
 refine rd_r4 (pc := f.pc) z3 u3_2 (hj3d.top 2 _ rfl) (hj3d.topFz _) (by omega) (fun U4 k4 => ?_)
 have z4 := k4.size.trans z3
 have u4_0 := (k4.at_ 0 (by omega)).trans u3_0
 have u4_2 := (k4.at_ 2 (by omega)).trans u3_2
 have u4_3 := (k4.at_ 3 (by omega)).trans u3_3
 obtain ⟨hj5, hk5⟩ := hj3d.setNum 2 (.int .i64 ((f.pc + 1 : Nat) : Int)) (f' := { f with pc := f.pc + 1 }) rfl rfl rfl
 have how5 := how3d.keep hk5
 generalize w3.setCell ⟨g, ms.length * 6 + 2, none⟩ (.int .i64 ((f.pc + 1 : Nat) : Int)) = w5 at *
 clear hj3d how3d hk5
 refine Fq.ok ?_
 refine wp_seq ?_
 refine Fq.at_ Tryz.f22 5 (by kernel_rfl) ?_
 refine rd_r5 z4 u4_3 ((cell_of_row w5 b3 0 _ _ _ how5.1).trans rfl) (fun U5 ⟨k5, u5_51⟩ => ?_)
 have z5 := k5.size.trans z4
 have u5_0 := (k5.at_ 0 (by omega)).trans u4_0
 have u5_2 := (k5.at_ 2 (by omega)).trans u4_2
 have u5_3 := (k5.at_ 3 (by omega)).trans u4_3
 refine Fq.ok ?_
 have hfo1 : Vd.FOk li ss { f with pc := f.pc + 1 } := hfo.to (by omega)
 have hv : xk = 3 ∨ xk = 4 ∨ xk = 6 ∨ xk = 7 ∨ xk = 8 → 0 ≤ xa := fun e => by
  unfold Kd.inR at hin
  dsimp only at hin
  rw [if_neg (by omega), if_neg (by omega), if_neg (by omega), if_neg (by omega), if_neg (by omega)] at hin
  exact of_decide_eq_true hin
 have hf1 : ∀ g : Vd.F, g = { f with pc := f.pc + 1 } → True := fun _ _ => trivial
 refine wp_block ?_
 clear z0 z1 z2 z3 u0_0 u1_0 u1_2 u2_0 u2_2 u3_0 u3_2 u3_3 u4_0 u4_2 u4_3 z4 k1 k2 k3 k4 k5 hx hiad hib
 refine wp_seq ?_
 refine Fq.at_ Tryz.f22 6 (by kernel_rfl) ?_
 refine rd_r6 z5 u5_51 rfl (fun V1 ⟨k6, h52, u6_51⟩ => ?_)
 have z6 := k6.size.trans z5
 have u6_0 := (k6.at_ 0 (by omega)).trans u5_0
 have u6_2 := (k6.at_ 2 (by omega)).trans u5_2
 have u6_3 := (k6.at_ 3 (by omega)).trans u5_3
 refine Fq.ok ?_
 by_cases hk1 : xk = 1
 · subst hk1
   refine Fq.cond_true (h52.trans (by rw [decide_eq_true rfl])) ?_
   clear hv z5 u5_0 u5_2 u5_3 u5_51 k6 hkx
   rw [Vd.d1]
   refine wp_seq (wp_seq ?_)
   refine Fq.at_ Tryz.f22 7 (by kernel_rfl) ?_
   refine rd_r7 z6 u6_0 (hj5.box.at_ 5 _ rfl) (hj5.box.at_ 4 _ rfl) rfl (fun U7 ⟨k7, h62⟩ => ?_)
   have z7 := k7.size.trans z6
   have u7_0 := (k7.at_ 0 (by omega)).trans u6_0
   have u7_2 := (k7.at_ 2 (by omega)).trans u6_2
   have u7_3 := (k7.at_ 3 (by omega)).trans u6_3
   have hj6 := hj5.below ((Below.refl w5.heap.size w5).drew)
   have how6 := how5.keep (show Vm.K Rm.C tg5 tg5 w5 w5.drew from Vm.K.below ((Below.refl _ _).drew))
   generalize w5.drew = w6 at *
   have hfu6 := hj6.hf
   refine Fq.ok ?_
   by_cases h0 : s.fuel = 0
   · refine Fq.cond_true (h62.trans (by rw [decide_eq_true (by omega)])) ?_
     rw [if_pos h0]
     refine wp_seq ?_
     refine Fq.at_ Tryz.f22 8 (by kernel_rfl) ?_
     refine rd_r8 z7 u7_0 u7_3 ((cell_of_row w6 b3 1 _ _ _ how6.1).trans rfl) (rEnd_any w6 hj6 (by omega) (by omega) hgo xa 1) (fun U8 w7 ⟨k8, tg7, ev7, hj7⟩ => ?_)
     refine Fq.ok (wp_ret ?_)
     repeat (first | with_reducible refine Fq.thR ?_ | with_reducible refine Fq.blR ?_)
     exact bodyPost_ret (results_none rfl _ _ _) rfl ⟨rfl, Rm.Post.over hj7 rfl rfl⟩
   · refine Fq.cond_false (h62.trans (by rw [decide_eq_false (by omega)])) ?_
     rw [if_neg h0]
     refine Fq.skip (Fq.ok ?_)
     refine wp_seq ?_
     refine Fq.at_ Tryz.f22 9 (by kernel_rfl) ?_
     refine rd_r9 (k := fuel - s.fuel) z7 u7_0 (hj6.box.at_ 5 _ rfl) (hj6.box.fz 5) (by omega) (fun U8 k8 => ?_)
     have z8 := k8.size.trans z7
     have u8_0 := (k8.at_ 0 (by omega)).trans u7_0
     have u8_2 := (k8.at_ 2 (by omega)).trans u7_2
     have u8_3 := (k8.at_ 3 (by omega)).trans u7_3
     have hmb : (Rm.mb c t fuel s false (.slice (some ⟨g, 0, none⟩) (ms.length + 1) gc) ev).set 5 (.int .i64 ((fuel - s.fuel + 1 : Nat) : Int)) = Rm.mb c t fuel { s with fuel := s.fuel - 1 } false (.slice (some ⟨g, 0, none⟩) (ms.length + 1) gc) ev := by
      have e : fuel - (s.fuel - 1) = fuel - s.fuel + 1 := by omega
      unfold Rm.mb
      dsimp only
      rw [e]
      rfl
     obtain ⟨hj7, hk7⟩ := hj6.set 5 (.int .i64 ((fuel - s.fuel + 1 : Nat) : Int)) (t' := t) (s' := { s with fuel := s.fuel - 1 }) (lo' := false) hmb (by show s.fuel - 1 ≤ fuel; omega) hj6.inp rfl
     have how7 := how6.keep hk7
     generalize w6.setCell ⟨bm, 5, none⟩ (.int .i64 ((fuel - s.fuel + 1 : Nat) : Int)) = w7 at *
     refine Fq.ok ?_
     refine wp_seq ?_
     refine Fq.at_ Tryz.f22 10 (by kernel_rfl) ?_
     refine rd_r10 z8 u8_2 u8_3 ((cell_of_row w7 b3 1 _ _ _ how7.1).trans rfl) (hj7.top 3 _ rfl) (hj7.topFz _) (fun U9 k9 => ?_)
     have z9 := k9.size.trans z8
     have u9_0 := (k9.at_ 0 (by omega)).trans u8_0
     have u9_2 := (k9.at_ 2 (by omega)).trans u8_2
     have u9_3 := (k9.at_ 3 (by omega)).trans u8_3
     obtain ⟨hj8, hk8⟩ := hj7.setNum 3 (.int .i64 xa) (f' := { f with pc := f.pc + 1, fr := { f.fr with at_ := xa } }) rfl rfl rfl
     have how8 := how7.keep hk8
     generalize w7.setCell ⟨g, ms.length * 6 + 3, none⟩ (.int .i64 xa) = w8 at *
     refine Fq.ok ?_
     refine Fq.at_ Tryz.f22 11 (by kernel_rfl) ?_
     refine rd_r11 z9 u9_0 u9_3 ((cell_of_row w8 b3 1 _ _ _ how8.1).trans rfl) (rTell_any w8 hj8 (by omega) (by show s.evs.length ≤ _; omega) 1 xa 0 0 0) (fun U10 w9 ⟨k10, tg9, ev9, hj9, hk9⟩ => ?_)
     refine Fq.blN ?_
     refine bodyPost_end (results_none rfl _ _ _) rfl ⟨rfl, Rm.Post.on hj9 hgo ?_⟩
     unfold Xr.stepS Xr.stepF
     rw [if_neg h0, if_neg h0, Vd.tell_evs (by exact hgo)]
     rfl
 refine Fq.cond_false (h52.trans (by rw [decide_eq_false hk1])) ?_
 replace z5 := z6
 replace u5_0 := u6_0
 replace u5_2 := u6_2
 replace u5_3 := u6_3
 replace u5_51 := u6_51
 clear z6 u6_0 u6_2 u6_3 u6_51 k6 h52
 refine wp_seq ?_
 refine Fq.at_ Tryz.f22 12 (by kernel_rfl) ?_
 refine rd_r12 z5 u5_51 rfl (fun V2 ⟨k6, h83, u6_51⟩ => ?_)
 have z6 := k6.size.trans z5
 have u6_0 := (k6.at_ 0 (by omega)).trans u5_0
 have u6_2 := (k6.at_ 2 (by omega)).trans u5_2
 have u6_3 := (k6.at_ 3 (by omega)).trans u5_3
 refine Fq.ok ?_
 by_cases hk2 : xk = 2
 · subst hk2
   refine Fq.cond_true (h83.trans (by rw [decide_eq_true rfl])) ?_
   clear hv z5 u5_0 u5_2 u5_3 u5_51 k6 hkx
   rw [Vd.d2]
   refine Fq.at_ Tryz.f22 13 (by kernel_rfl) ?_
   refine rd_r13 z6 u6_0 u6_3 ((cell_of_row w5 b3 1 _ _ _ how5.1).trans rfl) (rPush_any w5 hj5 (by omega) xa) (fun U7 w6 ⟨k7, tg6, z6', hj6, hk6⟩ => ?_)
   refine Fq.blN ?_
   exact bodyPost_end (results_none rfl _ _ _) rfl ⟨rfl, Rm.Post.push hj6 hgo⟩
 refine Fq.cond_false (h83.trans (by rw [decide_eq_false hk2])) ?_
 replace z5 := z6
 replace u5_0 := u6_0
 replace u5_2 := u6_2
 replace u5_3 := u6_3
 replace u5_51 := u6_51
 clear z6 u6_0 u6_2 u6_3 u6_51 k6 h83
 refine wp_seq ?_
 refine Fq.at_ Tryz.f22 14 (by kernel_rfl) ?_
 refine rd_r14 z5 u5_51 rfl (fun V3 ⟨k6, h89, u6_51⟩ => ?_)
 have z6 := k6.size.trans z5
 have u6_0 := (k6.at_ 0 (by omega)).trans u5_0
 have u6_2 := (k6.at_ 2 (by omega)).trans u5_2
 have u6_3 := (k6.at_ 3 (by omega)).trans u5_3
 refine Fq.ok ?_
 by_cases hk3 : xk = 3
 · subst hk3
   refine Fq.cond_true (h89.trans (by rw [decide_eq_true rfl])) ?_
   obtain ⟨v, rfl⟩ : ∃ v : Nat, xa = v := ⟨xa.toNat, by have := hv (by omega); omega⟩
   clear hv z5 u5_0 u5_2 u5_3 u5_51 k6 hkx
   rw [Vd.d3]
   refine wp_seq ?_
   refine Fq.at_ Tryz.f22 15 (by kernel_rfl) ?_
   refine rd_r15 (v := v) z6 u6_0 u6_3 ((cell_of_row w5 b3 1 _ _ _ how5.1).trans rfl) (rHas_any hco w5 hj5 (by omega) hfo1.fn (fun y hy => (hsz8 y hy).1) v false) (fun U7 w6 ⟨k7, h94, hj6, hk6⟩ => ?_)
   have z7 := k7.size.trans z6
   have u7_0 := (k7.at_ 0 (by omega)).trans u6_0
   have u7_2 := (k7.at_ 2 (by omega)).trans u6_2
   have u7_3 := (k7.at_ 3 (by omega)).trans u6_3
   have how6 := how5.keep hk6
   have hB : Rm.has (ss[f.fn]?.getD []) (v : Nat) false = Vd.plain (ss[f.fn]?.getD []) (v : Nat) := rfl
   refine Fq.ok ?_
   cases hp : Vd.plain (ss[f.fn]?.getD []) (v : Nat) with
   | false =>
    refine Fq.cond_false (h94.trans (by rw [hB, hp])) ?_
    refine Fq.skip ?_
    refine Fq.blN ?_
    rw [hB, hp] at hj6
    refine bodyPost_end (results_none rfl _ _ _) rfl ⟨rfl, Rm.Post.lost hj6 ?_⟩
    rw [if_neg (fun e => by cases e.2)]
    rfl
   | true =>
    refine Fq.cond_true (h94.trans (by rw [hB, hp])) ?_
    rw [hB, hp] at hj6
    have hj6' : Rm.J w0 w6 tg5 bm c t fuel s false (({ f with pc := f.pc + 1 }, z) :: ms) (.slice (some ⟨g, 0, none⟩) (ms.length + 1) gc) ev := hj6
    obtain ⟨l, hl1, hl2, hl3, hl4⟩ := Vm.var hc hfo1 (Vm.plain_at hp)
    have hl0 : 0 < l.length := by omega
    obtain ⟨gv, zb, zc, e1, e2, e3, e4, e5⟩ := hj6'.var hl1
    refine Fq.at_ Tryz.f22 16 (by kernel_rfl) ?_
    refine rd_r16 (v := v) (zl := l.length) (zc := zc) (zb := zb) z7 u7_0 u7_2 u7_3 e1 ((cell_of_row w6 b3 1 _ _ _ how6.1).trans rfl) e2 (hj6'.frs.1.zf.few) e3 (by omega) hl0 (e4 0 _ (List.getElem?_eq_getElem hl0)) (rPush_any w6.drew (hj6'.below ((Below.refl _ _).drew)) (by omega) _) (fun U8 w7 ⟨k8, tg7, z7', hj7, hk7⟩ => ?_)
    refine Fq.blN ?_
    refine bodyPost_end (results_none rfl _ _ _) rfl ⟨rfl, ?_⟩
    have hcell : Vd.cellOf { f with pc := f.pc + 1 } (v : Nat) 0 = l[0] := by
     unfold Vd.cellOf
     rw [Int.toNat_natCast, hl1]
     show (l[0]?).getD 0 = _
     rw [List.getElem?_eq_getElem hl0]
     rfl
    have h5 := Rm.Post.push hj7 hgo
    rw [← hcell] at h5
    by_cases hlt : ({ f with pc := f.pc + 1 } : Vd.F).pile.length < 64
    · rw [if_pos hlt] at h5
      rw [if_pos ⟨hlt, rfl⟩]
      exact h5
    · rw [if_neg hlt] at h5
      rw [if_neg (fun e => hlt e.1)]
      exact h5
 refine Fq.cond_false (h89.trans (by rw [decide_eq_false hk3])) ?_
 replace z5 := z6
 replace u5_0 := u6_0
 replace u5_2 := u6_2
 replace u5_3 := u6_3
 replace u5_51 := u6_51
 clear z6 u6_0 u6_2 u6_3 u6_51 k6 h89
 refine wp_seq ?_
 refine Fq.at_ Tryz.f22 17 (by kernel_rfl) ?_
 refine rd_r17 z5 u5_51 rfl (fun V4 ⟨k6, h107, u6_51⟩ => ?_)
 have z6 := k6.size.trans z5
 have u6_0 := (k6.at_ 0 (by omega)).trans u5_0
 have u6_2 := (k6.at_ 2 (by omega)).trans u5_2
 have u6_3 := (k6.at_ 3 (by omega)).trans u5_3
 refine Fq.ok ?_
 by_cases hk4 : xk = 4
 · subst hk4
   refine Fq.cond_true (h107.trans (by rw [decide_eq_true rfl])) ?_
   obtain ⟨v, rfl⟩ : ∃ v : Nat, xa = v := ⟨xa.toNat, by have := hv (by omega); omega⟩
   clear hv z5 u5_0 u5_2 u5_3 u5_51 k6 hkx
   refine wp_seq ?_
   refine Fq.at_ Tryz.f22 18 (by kernel_rfl) ?_
   refine rd_r18 z6 u6_0 (rPop_any w5 hj5 (by omega) (by show f.pile.length ≤ 1000; omega)) (fun U7 w6 ⟨k7, p4, z7', hj6, hk6⟩ => ?_)
   have z7 := k7.size.trans z6
   have u7_0 := (k7.at_ 0 (by omega)).trans u6_0
   have u7_2 := (k7.at_ 2 (by omega)).trans u6_2
   have u7_3 := (k7.at_ 3 (by omega)).trans u6_3
   have how6 := how5.keep hk6
   refine Fq.ok ?_
   refine wp_seq (wp_seq ?_)
   rcases Rm.pcase ({ f with pc := f.pc + 1 } : Vd.F).pile with hp | ⟨n, q, hp⟩
   · skip
     rw [Vd.none (x := ⟨4, (v : Nat), xb⟩) (by simp) hp]
     rw [hp] at hj6
     refine Fq.at_ Tryz.f22 19 (by kernel_rfl) ?_
     refine rd_r19L z7 u7_0 (by have := hj6.box.at_ 10 _ rfl; simpa using this) (fun U8 ⟨k8, h121⟩ => ?_)
     refine Fq.ok (Fq.cond_true h121 ?_)
     refine wp_ret ?_
     repeat (first | with_reducible refine Fq.thR ?_ | with_reducible refine Fq.blR ?_)
     exact bodyPost_ret (results_none rfl _ _ _) rfl ⟨rfl, Rm.Post.lost hj6 rfl⟩
   · rw [Vd.d4 _ _ hp]
     rw [hp] at p4
     have hpp : Rm.pp { f with pc := f.pc + 1 } = { f with pc := f.pc + 1, pile := q } := by unfold Rm.pp; rw [hp]; rfl
     rw [hpp, show ({ f with pc := f.pc + 1 } : Vd.F).pile.isEmpty = false by rw [hp]; rfl] at hj6
     have hj6' : Rm.J w0 w6 tg5 bm c t fuel s false (({ f with pc := f.pc + 1, pile := q }, z7') :: ms) (.slice (some ⟨g, 0, none⟩) (ms.length + 1) gc) ev := hj6
     have hql : q.length < 64 := by have := hfo1.top; rw [hp, List.length_cons] at this; omega
     refine Fq.at_ Tryz.f22 19 (by kernel_rfl) ?_
     refine rd_r19 (v := v) z7 u7_0 u7_3 (hj6'.box.at_ 10 _ rfl) ((cell_of_row w6 b3 1 _ _ _ how6.1).trans rfl) (rHas_any hco w6 hj6' (by omega) hfo1.fn (fun y hy => (hsz8 y hy).1) v true) (fun U8 w7 ⟨k8, h121, hj7, hk7⟩ => ?_)
     have z8 := k8.size.trans z7
     have u8_0 := (k8.at_ 0 (by omega)).trans u7_0
     have u8_2 := (k8.at_ 2 (by omega)).trans u7_2
     have u8_3 := (k8.at_ 3 (by omega)).trans u7_3
     have u8_4 := (k8.at_ 4 (by omega)).trans p4
     have how7 := how6.keep hk7
     have hB : Rm.has (ss[f.fn]?.getD []) (v : Nat) true = Vd.arr (ss[f.fn]?.getD []) (v : Nat) := rfl
     refine Fq.ok ?_
     cases ha : Vd.arr (ss[f.fn]?.getD []) (v : Nat) with
     | false =>
      refine Fq.cond_true (h121.trans (by show some (Value.bool (!Rm.has (ss[f.fn]?.getD []) (v : Nat) true)) = _; rw [hB, ha]; rfl)) ?_
      refine wp_ret ?_
      repeat (first | with_reducible refine Fq.thR ?_ | with_reducible refine Fq.blR ?_)
      have hj7' : Rm.J w0 w7 tg5 bm c t fuel s (false || !Rm.has (ss[f.fn]?.getD []) (v : Nat) true) (({ f with pc := f.pc + 1, pile := q }, z7') :: ms) (.slice (some ⟨g, 0, none⟩) (ms.length + 1) gc) ev := hj7
      rw [hB, ha] at hj7'
      refine bodyPost_ret (results_none rfl _ _ _) rfl ⟨rfl, Rm.Post.lost hj7' rfl⟩
     | true =>
      refine Fq.cond_false (h121.trans (by show some (Value.bool (!Rm.has (ss[f.fn]?.getD []) (v : Nat) true)) = _; rw [hB, ha]; rfl)) ?_
      refine Fq.skip (Fq.ok ?_)
      have hj7' : Rm.J w0 w7 tg5 bm c t fuel s (false || !Rm.has (ss[f.fn]?.getD []) (v : Nat) true) (({ f with pc := f.pc + 1, pile := q }, z7') :: ms) (.slice (some ⟨g, 0, none⟩) (ms.length + 1) gc) ev := hj7
      rw [hB, ha] at hj7'
      have hj8 : Rm.J w0 w7 tg5 bm c t fuel s false (({ f with pc := f.pc + 1, pile := q }, z7') :: ms) (.slice (some ⟨g, 0, none⟩) (ms.length + 1) gc) ev := hj7'
      clear hj7 hj7' hj6 hj6'
      obtain ⟨y, hy, hy0⟩ := Vm.arr_at ha
      obtain ⟨l, hl1, hl2, hl3, hl4⟩ := Vm.var hc hfo1 hy
      obtain ⟨gv, zb, zc, e1, e2, e3, e4, e5⟩ := hj8.var (l := l) hl1
      have hhas := Vm.has_iff (n := n) hy
      rw [if_pos (rfl : true = true)]
      refine wp_seq (wp_seq ?_)
      refine Fq.at_ Tryz.f22 20 (by kernel_rfl) ?_
      refine rd_r20 (v := v) (ix := n) (zl := l.length) (zc := zc) (zb := zb) z8 u8_2 u8_3 (u8_4.trans (by rfl)) e1 ((cell_of_row w7 b3 1 _ _ _ how7.1).trans rfl) e2 (hj8.frs.1.zf.few) e3 (by omega) rfl (fun U9 ⟨k9, h134⟩ => ?_)
      have z9 := k9.size.trans z8
      have u9_0 := (k9.at_ 0 (by omega)).trans u8_0
      have u9_2 := (k9.at_ 2 (by omega)).trans u8_2
      have u9_3 := (k9.at_ 3 (by omega)).trans u8_3
      have u9_4 := (k9.at_ 4 (by omega)).trans u8_4
      have hj9 := hj8.below ((Below.refl w7.heap.size w7).drew)
      have how9 := how7.keep (show Vm.K Rm.C tg5 tg5 w7 w7.drew from Vm.K.below ((Below.refl _ _).drew))
      obtain ⟨gv2, zb2, zc2, e1, e2, e3, e4, e5⟩ := hj9.var (l := l) hl1
      generalize w7.drew = w9 at *
      refine Fq.ok ?_
      by_cases hin : 0 ≤ n ∧ n ≤ (l.length : Int) - 1
      · refine Fq.cond_false (h134.trans (by rw [decide_eq_true hin]; rfl)) ?_
        refine Fq.skip (Fq.ok ?_)
        obtain ⟨i, rfl⟩ : ∃ i : Nat, n = i := ⟨n.toNat, by omega⟩
        have hil : i < l.length := by omega
        refine Fq.at_ Tryz.f22 22 (by kernel_rfl) ?_
        refine rd_r22 (v := v) (i := i) (zl := l.length) (zc := zc2) (zb := zb2) z9 u9_0 u9_2 u9_3 u9_4 e1 ((cell_of_row w9 b3 1 _ _ _ how9.1).trans rfl) e2 (hj9.frs.1.zf.few) e3 (by omega) hil (e4 i _ (List.getElem?_eq_getElem hil)) (rPush_any w9.drew (hj9.below ((Below.refl _ _).drew)) (by omega) _) (fun U10 w10 ⟨k10, tg10, z10', hj10, hk10⟩ => ?_)
        refine Fq.blN ?_
        refine bodyPost_end (results_none rfl _ _ _) rfl ⟨rfl, ?_⟩
        have hcell : Vd.cellOf { f with pc := f.pc + 1 } (v : Nat) (i : Nat) = l[i] := by
         unfold Vd.cellOf
         rw [Int.toNat_natCast, Int.toNat_natCast, hl1]
         show (l[i]?).getD 0 = _
         rw [List.getElem?_eq_getElem hil]
         rfl
        have h5 := Rm.Post.push hj10 hgo
        rw [← hcell, if_pos (show ({ f with pc := f.pc + 1, pile := q } : Vd.F).pile.length < 64 from hql)] at h5
        rw [if_pos (by show Vd.has (ss[f.fn]?.getD []) (v : Nat) (i : Nat) = true; rw [hhas, decide_eq_true (by omega)])]
        exact h5
      · refine Fq.cond_true (h134.trans (by rw [decide_eq_false hin]; rfl)) ?_
        refine wp_seq ?_
        refine Fq.at_ Tryz.f22 21 (by kernel_rfl) ?_
        refine rd_r21 z9 u9_0 u9_2 (hj9.top 3 _ rfl) (rEnd_any w9 hj9 (by omega) (by omega) hgo f.fr.at_ 3) (fun U10 w10 ⟨k10, tg10, ev10, hj10⟩ => ?_)
        refine Fq.ok (wp_ret ?_)
        repeat (first | with_reducible refine Fq.thR ?_ | with_reducible refine Fq.blR ?_)
        refine bodyPost_ret (results_none rfl _ _ _) rfl ⟨rfl, ?_⟩
        rw [if_neg (by show ¬ Vd.has (ss[f.fn]?.getD []) (v : Nat) n = true; rw [hhas, decide_eq_false (by omega)]; decide)]
        exact Rm.Post.over hj10 rfl rfl
 refine Fq.cond_false (h107.trans (by rw [decide_eq_false hk4])) ?_
 replace z5 := z6
 replace u5_0 := u6_0
 replace u5_2 := u6_2
 replace u5_3 := u6_3
 replace u5_51 := u6_51
 clear z6 u6_0 u6_2 u6_3 u6_51 k6 h107
 refine wp_seq ?_
 refine Fq.at_ Tryz.f22 23 (by kernel_rfl) ?_
 refine rd_r23 z5 u5_51 rfl (fun V5 ⟨k6, h154, u6_51⟩ => ?_)
 have z6 := k6.size.trans z5
 have u6_0 := (k6.at_ 0 (by omega)).trans u5_0
 have u6_2 := (k6.at_ 2 (by omega)).trans u5_2
 have u6_3 := (k6.at_ 3 (by omega)).trans u5_3
 refine Fq.ok ?_
 by_cases hk5 : xk = 5
 · subst hk5
   refine Fq.cond_true (h154.trans (by rw [decide_eq_true rfl])) ?_
   clear hv z5 u5_0 u5_2 u5_3 u5_51 k6 hkx
   refine wp_seq ?_
   refine Fq.at_ Tryz.f22 24 (by kernel_rfl) ?_
   refine rd_r24 z6 u6_0 (rPop_any w5 hj5 (by omega) (by show f.pile.length ≤ 1000; omega)) (fun U7 w6 ⟨k7, p5, z7', hj6, hk6⟩ => ?_)
   have z7 := k7.size.trans z6
   have u7_0 := (k7.at_ 0 (by omega)).trans u6_0
   have u7_2 := (k7.at_ 2 (by omega)).trans u6_2
   have u7_3 := (k7.at_ 3 (by omega)).trans u6_3
   have how6 := how5.keep hk6
   refine Fq.ok ?_
   refine wp_seq ?_
   refine Fq.at_ Tryz.f22 25 (by kernel_rfl) ?_
   refine rd_r25 z7 u7_0 (rPop_any w6 hj6 (by omega) (by show f.pile.tail.length ≤ 1000; rw [List.length_tail]; omega)) (fun U8 w7 ⟨k8, p6, z8', hj7, hk7⟩ => ?_)
   have z8 := k8.size.trans z7
   have u8_0 := (k8.at_ 0 (by omega)).trans u7_0
   have u8_2 := (k8.at_ 2 (by omega)).trans u7_2
   have u8_3 := (k8.at_ 3 (by omega)).trans u7_3
   have u8_5 := (k8.at_ 5 (by omega)).trans p5
   have how7 := how6.keep hk7
   refine Fq.ok ?_
   refine wp_seq (wp_seq ?_)
   refine Fq.at_ Tryz.f22 26 (by kernel_rfl) ?_
   refine rd_r26 z8 u8_0 (hj7.box.at_ 10 _ rfl) (fun U9 ⟨k9, h163⟩ => ?_)
   have z9 := k9.size.trans z8
   have u9_0 := (k9.at_ 0 (by omega)).trans u8_0
   have u9_2 := (k9.at_ 2 (by omega)).trans u8_2
   have u9_3 := (k9.at_ 3 (by omega)).trans u8_3
   have u9_5 := (k9.at_ 5 (by omega)).trans u8_5
   have u9_6 := (k9.at_ 6 (by omega)).trans p6
   refine Fq.ok ?_
   rcases Rm.pcase2 ({ f with pc := f.pc + 1 } : Vd.F).pile with ⟨hlo, hp⟩ | ⟨n, i, q, hp⟩
   · have hb : ((false || ({ f with pc := f.pc + 1 } : Vd.F).pile.isEmpty) || (Rm.pp { f with pc := f.pc + 1 }).pile.isEmpty) = true := by
      unfold Rm.pp
      dsimp only
      rcases hp with hp | ⟨n, hp⟩
      · have hp' : f.pile = [] := hp
        rw [hp']; rfl
      · have hp' : f.pile = [n] := hp
        rw [hp']; rfl
     refine Fq.cond_true (h163.trans (by rw [hb])) ?_
     refine wp_ret ?_
     repeat (first | with_reducible refine Fq.thR ?_ | with_reducible refine Fq.blR ?_)
     rw [hb] at hj7
     refine bodyPost_ret (results_none rfl _ _ _) rfl ⟨rfl, Rm.Post.lost hj7 ?_⟩
     rcases hp with hp | ⟨n, hp⟩
     · rw [Vd.none (x := ⟨5, xa, xb⟩) (by simp) hp]; rfl
     · rw [Vd.one (x := ⟨5, xa, xb⟩) (by simp) hp]; rfl
   · have hpp : Rm.pp (Rm.pp { f with pc := f.pc + 1 }) = { f with pc := f.pc + 1, pile := q } := by unfold Rm.pp; rw [hp]; rfl
     have hb : ((false || ({ f with pc := f.pc + 1 } : Vd.F).pile.isEmpty) || (Rm.pp { f with pc := f.pc + 1 }).pile.isEmpty) = false := by unfold Rm.pp; rw [hp]; rfl
     have hn : ({ f with pc := f.pc + 1 } : Vd.F).pile.headD 0 = n := by rw [hp]; rfl
     have hi : (Rm.pp { f with pc := f.pc + 1 }).pile.headD 0 = i := by unfold Rm.pp; rw [hp]; rfl
     have hql : q.length < 64 := by have := hfo1.top; rw [hp, List.length_cons, List.length_cons] at this; omega
     rw [hb, hpp] at hj7
     have v9_5 : U9[5]? = some (.int .i64 n) := by rw [← hn]; exact u9_5
     have v9_6 : U9[6]? = some (.int .i64 i) := by rw [← hi]; exact u9_6
     rw [Vd.d5 _ _ hp]
     refine Fq.cond_false (h163.trans (by rw [hb])) ?_
     refine Fq.skip (Fq.ok ?_)
     have hop := op_any xa i n w7 (by unfold Kd.inR at hin; simpa using hin)
     refine wp_seq ?_
     refine Fq.at_ Tryz.f22 27 (by kernel_rfl) ?_
     refine rd_r27 z9 u9_3 v9_5 v9_6 ((cell_of_row w7 b3 1 _ _ _ how7.1).trans rfl) hop (fun U10 ⟨k10, p7, p8⟩ => ?_)
     have z10 := k10.size.trans z9
     have u10_0 := (k10.at_ 0 (by omega)).trans u9_0
     have u10_2 := (k10.at_ 2 (by omega)).trans u9_2
     have u10_3 := (k10.at_ 3 (by omega)).trans u9_3
     refine Fq.ok ?_
     refine wp_seq (wp_seq ?_)
     refine Fq.at_ Tryz.f22 28 (by kernel_rfl) ?_
     refine rd_r28 z10 p8 rfl (fun U11 ⟨k11, h173⟩ => ?_)
     have z11 := k11.size.trans z10
     have u11_0 := (k11.at_ 0 (by omega)).trans u10_0
     have u11_2 := (k11.at_ 2 (by omega)).trans u10_2
     have u11_3 := (k11.at_ 3 (by omega)).trans u10_3
     have u11_7 := (k11.at_ 7 (by omega)).trans p7
     have u11_8 := (k11.at_ 8 (by omega)).trans p8
     refine Fq.ok ?_
     by_cases hhow : (Pg.op xa i n).2 = 0
     · refine Fq.cond_false (h173.trans (by rw [decide_eq_false (fun e => e hhow)])) ?_
       refine Fq.skip (Fq.ok ?_)
       rw [if_pos hhow]
       refine Fq.at_ Tryz.f22 30 (by kernel_rfl) ?_
       refine rd_r30 z11 u11_0 u11_7 (rPush_any w7 hj7 (by omega) _) (fun U12 w8 ⟨k12, tg8, z12', hj8, hk8⟩ => ?_)
       refine Fq.blN ?_
       refine bodyPost_end (results_none rfl _ _ _) rfl ⟨rfl, ?_⟩
       have h5 := Rm.Post.push hj8 hgo
       rw [if_pos (show ({ f with pc := f.pc + 1, pile := q } : Vd.F).pile.length < 64 from hql)] at h5
       exact h5
     · refine Fq.cond_true (h173.trans (by rw [decide_eq_true hhow])) ?_
       rw [if_neg hhow]
       refine wp_seq ?_
       refine Fq.at_ Tryz.f22 29 (by kernel_rfl) ?_
       refine rd_r29 z11 u11_0 u11_2 u11_8 (hj7.top 3 _ rfl) (rEnd_any w7 hj7 (by omega) (by omega) hgo f.fr.at_ _) (fun U12 w8 ⟨k12, tg8, ev8, hj8⟩ => ?_)
       refine Fq.ok (wp_ret ?_)
       repeat (first | with_reducible refine Fq.thR ?_ | with_reducible refine Fq.blR ?_)
       exact bodyPost_ret (results_none rfl _ _ _) rfl ⟨rfl, Rm.Post.over hj8 rfl rfl⟩
 refine Fq.cond_false (h154.trans (by rw [decide_eq_false hk5])) ?_
 replace z5 := z6
 replace u5_0 := u6_0
 replace u5_2 := u6_2
 replace u5_3 := u6_3
 replace u5_51 := u6_51
 clear z6 u6_0 u6_2 u6_3 u6_51 k6 h154
 refine wp_seq ?_
 refine Fq.at_ Tryz.f22 31 (by kernel_rfl) ?_
 refine rd_r31 z5 u5_51 rfl (fun V6 ⟨k6, h184, u6_51⟩ => ?_)
 have z6 := k6.size.trans z5
 have u6_0 := (k6.at_ 0 (by omega)).trans u5_0
 have u6_2 := (k6.at_ 2 (by omega)).trans u5_2
 have u6_3 := (k6.at_ 3 (by omega)).trans u5_3
 refine Fq.ok ?_
 by_cases hk6 : xk = 6
 · subst hk6
   refine Fq.cond_true (h184.trans (by rw [decide_eq_true rfl])) ?_
   obtain ⟨v, rfl⟩ : ∃ v : Nat, xa = v := ⟨xa.toNat, by have := hv (by omega); omega⟩
   clear hv z5 u5_0 u5_2 u5_3 u5_51 k6 hkx
   refine wp_seq ?_
   refine Fq.at_ Tryz.f22 32 (by kernel_rfl) ?_
   refine rd_r32 z6 u6_0 (rPop_any w5 hj5 (by omega) (by show f.pile.length ≤ 1000; omega)) (fun U7 w6 ⟨k7, p9, z7', hj6, hk6⟩ => ?_)
   have z7 := k7.size.trans z6
   have u7_0 := (k7.at_ 0 (by omega)).trans u6_0
   have u7_2 := (k7.at_ 2 (by omega)).trans u6_2
   have u7_3 := (k7.at_ 3 (by omega)).trans u6_3
   have how6 := how5.keep hk6
   refine Fq.ok ?_
   refine wp_seq ?_
   rcases Rm.pcase ({ f with pc := f.pc + 1 } : Vd.F).pile with hp | ⟨n, q, hp⟩
   · skip
     rw [Vd.none (x := ⟨6, (v : Nat), xb⟩) (by simp) hp]
     rw [hp] at hj6
     refine Fq.at_ Tryz.f22 33 (by kernel_rfl) ?_
     refine rd_r33L z7 u7_0 (by have := hj6.box.at_ 10 _ rfl; simpa using this) (fun U8 ⟨k8, h198⟩ => ?_)
     refine Fq.ok (Fq.cond_false h198 ?_)
     refine Fq.skip ?_
     refine Fq.blN ?_
     exact bodyPost_end (results_none rfl _ _ _) rfl ⟨rfl, Rm.Post.lost hj6 rfl⟩
   · rw [Vd.d6 _ _ hp]
     rw [hp] at p9
     have hpp : Rm.pp { f with pc := f.pc + 1 } = { f with pc := f.pc + 1, pile := q } := by unfold Rm.pp; rw [hp]; rfl
     rw [hpp, show ({ f with pc := f.pc + 1 } : Vd.F).pile.isEmpty = false by rw [hp]; rfl] at hj6
     have hj6' : Rm.J w0 w6 tg5 bm c t fuel s false (({ f with pc := f.pc + 1, pile := q }, z7') :: ms) (.slice (some ⟨g, 0, none⟩) (ms.length + 1) gc) ev := hj6
     refine Fq.at_ Tryz.f22 33 (by kernel_rfl) ?_
     refine rd_r33 (v := v) z7 u7_0 u7_3 (hj6'.box.at_ 10 _ rfl) ((cell_of_row w6 b3 1 _ _ _ how6.1).trans rfl) (rHas_any hco w6 hj6' (by omega) hfo1.fn (fun y hy => (hsz8 y hy).1) v false) (fun U8 w7 ⟨k8, h198, hj7, hk7⟩ => ?_)
     have z8 := k8.size.trans z7
     have u8_0 := (k8.at_ 0 (by omega)).trans u7_0
     have u8_2 := (k8.at_ 2 (by omega)).trans u7_2
     have u8_3 := (k8.at_ 3 (by omega)).trans u7_3
     have u8_9 := (k8.at_ 9 (by omega)).trans p9
     have how7 := how6.keep hk7
     have hB : Rm.has (ss[f.fn]?.getD []) (v : Nat) false = Vd.plain (ss[f.fn]?.getD []) (v : Nat) := rfl
     have hj7' : Rm.J w0 w7 tg5 bm c t fuel s (false || !Rm.has (ss[f.fn]?.getD []) (v : Nat) false) (({ f with pc := f.pc + 1, pile := q }, z7') :: ms) (.slice (some ⟨g, 0, none⟩) (ms.length + 1) gc) ev := hj7
     refine Fq.ok ?_
     cases ha : Vd.plain (ss[f.fn]?.getD []) (v : Nat) with
     | false =>
      refine Fq.cond_false (h198.trans (by show some (Value.bool (Rm.has (ss[f.fn]?.getD []) (v : Nat) false)) = _; rw [hB, ha])) ?_
      refine Fq.skip ?_
      refine Fq.blN ?_
      rw [hB, ha] at hj7'
      refine bodyPost_end (results_none rfl _ _ _) rfl ⟨rfl, Rm.Post.lost hj7' rfl⟩
     | true =>
      refine Fq.cond_true (h198.trans (by show some (Value.bool (Rm.has (ss[f.fn]?.getD []) (v : Nat) false)) = _; rw [hB, ha])) ?_
      rw [hB, ha] at hj7'
      have hj8 : Rm.J w0 w7 tg5 bm c t fuel s false (({ f with pc := f.pc + 1, pile := q }, z7') :: ms) (.slice (some ⟨g, 0, none⟩) (ms.length + 1) gc) ev := hj7'
      obtain ⟨l, hl1, hl2, hl3, hl4⟩ := Vm.var hc hfo1 (Vm.plain_at ha)
      have hl0 : 0 < l.length := by omega
      rw [if_pos (rfl : true = true)]
      refine Fq.at_ Tryz.f22 34 (by kernel_rfl) ?_
      refine rd_r34 (v := v) z8 u8_0 u8_2 u8_3 u8_9 (hj8.top 3 _ rfl) ((cell_of_row w7 b3 1 _ _ _ how7.1).trans rfl) (rWrite_any w7.drew (hj8.below ((Below.refl _ _).drew)) (by omega) (by omega) f.fr.at_ v 0 l hl1 hl0 _) (fun U9 w8 ⟨k9, tg8, ev8, hj9, hk9⟩ => ?_)
      refine Fq.blN ?_
      refine bodyPost_end (results_none rfl _ _ _) rfl ⟨rfl, Rm.Post.on hj9 hgo ?_⟩
      unfold Xr.wrS Xr.wrF
      rw [Vd.tell_evs (by exact hgo)]
      rfl
 refine Fq.cond_false (h184.trans (by rw [decide_eq_false hk6])) ?_
 replace z5 := z6
 replace u5_0 := u6_0
 replace u5_2 := u6_2
 replace u5_3 := u6_3
 replace u5_51 := u6_51
 clear z6 u6_0 u6_2 u6_3 u6_51 k6 h184
 refine wp_seq ?_
 refine Fq.at_ Tryz.f22 35 (by kernel_rfl) ?_
 refine rd_r35 z5 u5_51 rfl (fun V7 ⟨k6, h208, u6_51⟩ => ?_)
 have z6 := k6.size.trans z5
 have u6_0 := (k6.at_ 0 (by omega)).trans u5_0
 have u6_2 := (k6.at_ 2 (by omega)).trans u5_2
 have u6_3 := (k6.at_ 3 (by omega)).trans u5_3
 refine Fq.ok ?_
 by_cases hk7 : xk = 7
 · subst hk7
   refine Fq.cond_true (h208.trans (by rw [decide_eq_true rfl])) ?_
   obtain ⟨v, rfl⟩ : ∃ v : Nat, xa = v := ⟨xa.toNat, by have := hv (by omega); omega⟩
   clear hv z5 u5_0 u5_2 u5_3 u5_51 k6 hkx
   refine wp_seq ?_
   refine Fq.at_ Tryz.f22 36 (by kernel_rfl) ?_
   refine rd_r36 z6 u6_0 (rPop_any w5 hj5 (by omega) (by show f.pile.length ≤ 1000; omega)) (fun U7 w6 ⟨k7, p10, z7', hj6, hk6⟩ => ?_)
   have z7 := k7.size.trans z6
   have u7_0 := (k7.at_ 0 (by omega)).trans u6_0
   have u7_2 := (k7.at_ 2 (by omega)).trans u6_2
   have u7_3 := (k7.at_ 3 (by omega)).trans u6_3
   have how6 := how5.keep hk6
   refine Fq.ok ?_
   refine wp_seq ?_
   refine Fq.at_ Tryz.f22 37 (by kernel_rfl) ?_
   refine rd_r37 z7 u7_0 (rPop_any w6 hj6 (by omega) (by show f.pile.tail.length ≤ 1000; rw [List.length_tail]; omega)) (fun U8 w7 ⟨k8, p11, z8', hj7, hk7⟩ => ?_)
   have z8 := k8.size.trans z7
   have u8_0 := (k8.at_ 0 (by omega)).trans u7_0
   have u8_2 := (k8.at_ 2 (by omega)).trans u7_2
   have u8_3 := (k8.at_ 3 (by omega)).trans u7_3
   have u8_10 := (k8.at_ 10 (by omega)).trans p10
   have how7 := how6.keep hk7
   refine Fq.ok ?_
   refine wp_seq (wp_seq ?_)
   rcases Rm.pcase2 ({ f with pc := f.pc + 1 } : Vd.F).pile with ⟨hlo, hp⟩ | ⟨n, i, q, hp⟩
   · have hb : ((false || ({ f with pc := f.pc + 1 } : Vd.F).pile.isEmpty) || (Rm.pp { f with pc := f.pc + 1 }).pile.isEmpty) = true := by
      unfold Rm.pp
      dsimp only
      rcases hp with hp | ⟨n, hp⟩
      · have hp' : f.pile = [] := hp
        rw [hp']; rfl
      · have hp' : f.pile = [n] := hp
        rw [hp']; rfl
     rw [hb] at hj7
     refine Fq.at_ Tryz.f22 38 (by kernel_rfl) ?_
     refine rd_r38L z8 u8_0 (hj7.box.at_ 10 _ rfl) (fun U9 ⟨k9, h224⟩ => ?_)
     refine Fq.ok (Fq.cond_true h224 ?_)
     refine wp_ret ?_
     repeat (first | with_reducible refine Fq.thR ?_ | with_reducible refine Fq.blR ?_)
     refine bodyPost_ret (results_none rfl _ _ _) rfl ⟨rfl, Rm.Post.lost hj7 ?_⟩
     rcases hp with hp | ⟨n, hp⟩
     · rw [Vd.none (x := ⟨7, (v : Nat), xb⟩) (by simp) hp]; rfl
     · rw [Vd.one (x := ⟨7, (v : Nat), xb⟩) (by simp) hp]; rfl
   · have hpp : Rm.pp (Rm.pp { f with pc := f.pc + 1 }) = { f with pc := f.pc + 1, pile := q } := by unfold Rm.pp; rw [hp]; rfl
     have hb : ((false || ({ f with pc := f.pc + 1 } : Vd.F).pile.isEmpty) || (Rm.pp { f with pc := f.pc + 1 }).pile.isEmpty) = false := by unfold Rm.pp; rw [hp]; rfl
     have hn : ({ f with pc := f.pc + 1 } : Vd.F).pile.headD 0 = n := by rw [hp]; rfl
     have hi : (Rm.pp { f with pc := f.pc + 1 }).pile.headD 0 = i := by unfold Rm.pp; rw [hp]; rfl
     rw [hb, hpp] at hj7
     have v8_10 : U8[10]? = some (.int .i64 n) := by rw [← hn]; exact u8_10
     have v8_11 : U8[11]? = some (.int .i64 i) := by rw [← hi]; exact p11
     rw [Vd.d7 _ _ hp]
     refine Fq.at_ Tryz.f22 38 (by kernel_rfl) ?_
     refine rd_r38 (v := v) z8 u8_0 u8_3 (hj7.box.at_ 10 _ rfl) ((cell_of_row w7 b3 1 _ _ _ how7.1).trans rfl) (rHas_any hco w7 hj7 (by omega) hfo1.fn (fun y hy => (hsz8 y hy).1) v true) (fun U9 w8 ⟨k9, h224, hj8, hk8⟩ => ?_)
     have z9 := k9.size.trans z8
     have u9_0 := (k9.at_ 0 (by omega)).trans u8_0
     have u9_2 := (k9.at_ 2 (by omega)).trans u8_2
     have u9_3 := (k9.at_ 3 (by omega)).trans u8_3
     have u9_10 := (k9.at_ 10 (by omega)).trans v8_10
     have u9_11 := (k9.at_ 11 (by omega)).trans v8_11
     have how8 := how7.keep hk8
     have hB : Rm.has (ss[f.fn]?.getD []) (v : Nat) true = Vd.arr (ss[f.fn]?.getD []) (v : Nat) := rfl
     have hj8' : Rm.J w0 w8 tg5 bm c t fuel s (false || !Rm.has (ss[f.fn]?.getD []) (v : Nat) true) (({ f with pc := f.pc + 1, pile := q }, z8') :: ms) (.slice (some ⟨g, 0, none⟩) (ms.length + 1) gc) ev := hj8
     refine Fq.ok ?_
     cases ha : Vd.arr (ss[f.fn]?.getD []) (v : Nat) with
     | false =>
      refine Fq.cond_true (h224.trans (by show some (Value.bool (!Rm.has (ss[f.fn]?.getD []) (v : Nat) true)) = _; rw [hB, ha]; rfl)) ?_
      refine wp_ret ?_
      repeat (first | with_reducible refine Fq.thR ?_ | with_reducible refine Fq.blR ?_)
      rw [hB, ha] at hj8'
      refine bodyPost_ret (results_none rfl _ _ _) rfl ⟨rfl, Rm.Post.lost hj8' rfl⟩
     | true =>
      refine Fq.cond_false (h224.trans (by show some (Value.bool (!Rm.has (ss[f.fn]?.getD []) (v : Nat) true)) = _; rw [hB, ha]; rfl)) ?_
      refine Fq.skip (Fq.ok ?_)
      rw [hB, ha] at hj8'
      have hj9 : Rm.J w0 w8 tg5 bm c t fuel s false (({ f with pc := f.pc + 1, pile := q }, z8') :: ms) (.slice (some ⟨g, 0, none⟩) (ms.length + 1) gc) ev := hj8'
      clear hj8 hj8' hj6 hj7
      obtain ⟨y, hy, hy0⟩ := Vm.arr_at ha
      obtain ⟨l, hl1, hl2, hl3, hl4⟩ := Vm.var hc hfo1 hy
      obtain ⟨gv, zb, zc, e1, e2, e3, e4, e5⟩ := hj9.var (l := l) hl1
      have hhas := Vm.has_iff (n := i) hy
      rw [if_pos (rfl : true = true)]
      refine wp_seq (wp_seq ?_)
      refine Fq.at_ Tryz.f22 39 (by kernel_rfl) ?_
      refine rd_r39 (v := v) (ix := i) (zl := l.length) (zc := zc) (zb := zb) z9 u9_2 u9_3 u9_11 e1 ((cell_of_row w8 b3 1 _ _ _ how8.1).trans rfl) e2 (hj9.frs.1.zf.few) e3 (by omega) rfl (fun U10 ⟨k10, h237⟩ => ?_)
      have z10 := k10.size.trans z9
      have u10_0 := (k10.at_ 0 (by omega)).trans u9_0
      have u10_2 := (k10.at_ 2 (by omega)).trans u9_2
      have u10_3 := (k10.at_ 3 (by omega)).trans u9_3
      have u10_10 := (k10.at_ 10 (by omega)).trans u9_10
      have u10_11 := (k10.at_ 11 (by omega)).trans u9_11
      have hj10 := hj9.below ((Below.refl w8.heap.size w8).drew)
      have how10 := how8.keep (show Vm.K Rm.C tg5 tg5 w8 w8.drew from Vm.K.below ((Below.refl _ _).drew))
      generalize w8.drew = w10 at *
      refine Fq.ok ?_
      by_cases hin2 : 0 ≤ i ∧ i ≤ (l.length : Int) - 1
      · refine Fq.cond_false (h237.trans (by rw [decide_eq_true hin2]; rfl)) ?_
        refine Fq.skip (Fq.ok ?_)
        obtain ⟨j, rfl⟩ : ∃ j : Nat, i = j := ⟨i.toNat, by omega⟩
        have hil : j < l.length := by omega
        refine Fq.at_ Tryz.f22 41 (by kernel_rfl) ?_
        refine rd_r41 (v := v) (i := j) z10 u10_0 u10_2 u10_3 u10_10 u10_11 (hj10.top 3 _ rfl) ((cell_of_row w10 b3 1 _ _ _ how10.1).trans rfl) (rWrite_any w10.drew (hj10.below ((Below.refl _ _).drew)) (by omega) (by omega) f.fr.at_ v j l hl1 hil _) (fun U11 w11 ⟨k11, tg11, ev11, hj11, hk11⟩ => ?_)
        refine Fq.blN ?_
        rw [if_pos (by show Vd.has (ss[f.fn]?.getD []) (v : Nat) (j : Nat) = true; rw [hhas, decide_eq_true (by omega)])]
        refine bodyPost_end (results_none rfl _ _ _) rfl ⟨rfl, Rm.Post.on hj11 hgo ?_⟩
        unfold Xr.wrS Xr.wrF
        rw [Vd.tell_evs (by exact hgo)]
        rfl
      · refine Fq.cond_true (h237.trans (by rw [decide_eq_false hin2]; rfl)) ?_
        refine wp_seq ?_
        refine Fq.at_ Tryz.f22 40 (by kernel_rfl) ?_
        refine rd_r40 z10 u10_0 u10_2 (hj10.top 3 _ rfl) (rEnd_any w10 hj10 (by omega) (by omega) hgo f.fr.at_ 3) (fun U11 w11 ⟨k11, tg11, ev11, hj11⟩ => ?_)
        refine Fq.ok (wp_ret ?_)
        repeat (first | with_reducible refine Fq.thR ?_ | with_reducible refine Fq.blR ?_)
        refine bodyPost_ret (results_none rfl _ _ _) rfl ⟨rfl, ?_⟩
        rw [if_neg (by show ¬ Vd.has (ss[f.fn]?.getD []) (v : Nat) i = true; rw [hhas, decide_eq_false (by omega)]; decide)]
        exact Rm.Post.over hj11 rfl rfl
 refine Fq.cond_false (h208.trans (by rw [decide_eq_false hk7])) ?_
 replace z5 := z6
 replace u5_0 := u6_0
 replace u5_2 := u6_2
 replace u5_3 := u6_3
 replace u5_51 := u6_51
 clear z6 u6_0 u6_2 u6_3 u6_51 k6 h208
 refine wp_seq ?_
 refine Fq.at_ Tryz.f22 42 (by kernel_rfl) ?_
 refine rd_r42 z5 u5_51 rfl (fun V8 ⟨k6, h254, u6_51⟩ => ?_)
 have z6 := k6.size.trans z5
 have u6_0 := (k6.at_ 0 (by omega)).trans u5_0
 have u6_2 := (k6.at_ 2 (by omega)).trans u5_2
 have u6_3 := (k6.at_ 3 (by omega)).trans u5_3
 refine Fq.ok ?_
 by_cases hk8 : xk = 8
 · subst hk8
   refine Fq.cond_true (h254.trans (by rw [decide_eq_true rfl])) ?_
   obtain ⟨v, rfl⟩ : ∃ v : Nat, xa = v := ⟨xa.toNat, by have := hv (by omega); omega⟩
   clear hv z5 u5_0 u5_2 u5_3 u5_51 k6 hkx
   rw [Vd.d8]
   refine wp_seq (wp_seq ?_)
   refine Fq.at_ Tryz.f22 43 (by kernel_rfl) ?_
   refine rd_r43 (v := v) z6 u6_0 u6_3 ((cell_of_row w5 b3 1 _ _ _ how5.1).trans rfl) (rHas_any hco w5 hj5 (by omega) hfo1.fn (fun y hy => (hsz8 y hy).1) v false) (fun U7 w6 ⟨k7, h260, hj6, hk6⟩ => ?_)
   have z7 := k7.size.trans z6
   have u7_0 := (k7.at_ 0 (by omega)).trans u6_0
   have u7_2 := (k7.at_ 2 (by omega)).trans u6_2
   have u7_3 := (k7.at_ 3 (by omega)).trans u6_3
   have how6 := how5.keep hk6
   have hB : Rm.has (ss[f.fn]?.getD []) (v : Nat) false = Vd.plain (ss[f.fn]?.getD []) (v : Nat) := rfl
   refine Fq.ok ?_
   cases hp : Vd.plain (ss[f.fn]?.getD []) (v : Nat) with
   | false =>
    refine Fq.cond_true (h260.trans (by rw [hB, hp]; rfl)) ?_
    refine wp_ret ?_
    repeat (first | with_reducible refine Fq.thR ?_ | with_reducible refine Fq.blR ?_)
    rw [hB, hp] at hj6
    refine bodyPost_ret (results_none rfl _ _ _) rfl ⟨rfl, Rm.Post.lost hj6 rfl⟩
   | true =>
    refine Fq.cond_false (h260.trans (by rw [hB, hp]; rfl)) ?_
    refine Fq.skip (Fq.ok ?_)
    rw [hB, hp] at hj6
    have hj6' : Rm.J w0 w6 tg5 bm c t fuel s false (({ f with pc := f.pc + 1 }, z) :: ms) (.slice (some ⟨g, 0, none⟩) (ms.length + 1) gc) ev := hj6
    obtain ⟨l, hl1, hl2, hl3, hl4⟩ := Vm.var hc hfo1 (Vm.plain_at hp)
    have hl0 : 0 < l.length := by omega
    refine wp_seq ?_
    refine Fq.at_ Tryz.f22 44 (by kernel_rfl) ?_
    refine rd_r44 z7 (fun U8 ⟨k8, p12⟩ => ?_)
    have z8 := k8.size.trans z7
    have u8_0 := (k8.at_ 0 (by omega)).trans u7_0
    have u8_2 := (k8.at_ 2 (by omega)).trans u7_2
    have u8_3 := (k8.at_ 3 (by omega)).trans u7_3
    refine Fq.ok ?_
    obtain ⟨ta, tn, tc⟩ := t
    have k3 : w6.cell? ⟨bm, 3, none⟩ = some (.slice ta tn tc) := hj6'.box.at_ 3 _ rfl
    have hrn : Pg.RN w0 ⟨ta, tn, tc⟩ s.inp := hj6'.inp
    have hlen : tn = s.inp.length := hrn.len
    have hcap : tn ≤ tc := hrn.cap
    refine Fq.cut (fun T' v6 => T'.size = 401 ∧ T'[0]? = some (.pointer (some ⟨bm, 0, none⟩)) ∧ T'[2]? = some (.pointer (some ⟨g, ms.length * 6, none⟩)) ∧ T'[3]? = some (.pointer (some ⟨b3, 0, none⟩)) ∧ T'[12]? = some (.int .i64 (Xr.inZ s)) ∧ ∃ t', Rm.J w0 v6 tg5 bm c t' fuel (Xr.inS s) false (({ f with pc := f.pc + 1 }, z) :: ms) (.slice (some ⟨g, 0, none⟩) (ms.length + 1) gc) ev ∧ Rm.Own v6 tg5 b3 (Obj.cells #[.int .i64 8, .int .i64 (v : Nat), .int .i64 xb] 54)) (fun Q' hQ' => ?_) (fun U12 v6 hcut => ?_)
    · refine wp_seq ?_
      refine Fq.at_ Tryz.f22 45 (by kernel_rfl) ?_
      refine rd_r45 z8 u8_0 k3 rfl (fun U9 ⟨k9, h266⟩ => ?_)
      have z9 := k9.size.trans z8
      have u9_0 := (k9.at_ 0 (by omega)).trans u8_0
      have u9_2 := (k9.at_ 2 (by omega)).trans u8_2
      have u9_3 := (k9.at_ 3 (by omega)).trans u8_3
      have u9_12 := (k9.at_ 12 (by omega)).trans p12
      refine Fq.ok ?_
      cases hin3 : s.inp with
      | nil =>
       rw [hin3] at hlen
       refine Fq.cond_false (h266.trans (by rw [hlen]; rfl)) ?_
       refine Fq.skip ?_
       refine hQ' _ _ ⟨z9, u9_0, u9_2, u9_3, ?_, ⟨ta, tn, tc⟩, ?_, how6⟩
       · unfold Xr.inZ
         rw [hin3]
         exact u9_12
       · have e : Xr.inS s = s := by unfold Xr.inS; rw [hin3]; show { s with inp := [] } = s; rw [← hin3]
         rw [e]
         exact hj6'
      | cons z0 r0 =>
       rw [hin3] at hlen hrn
       refine Fq.cond_true (h266.trans (by rw [hlen, decide_eq_true (by simp)])) ?_
       obtain ⟨b, o, hta, hb, hcc⟩ := hrn.at_ 0 z0 rfl
       have hta' : ta = some ⟨b, o, none⟩ := hta
       subst hta'
       have p0 := (hj6'.bel.cell (p := ⟨b, o + 0, none⟩) hb).trans hcc
       rw [Nat.add_zero] at p0
       have hlen2 : tn = r0.length + 1 := hlen
       refine wp_seq ?_
       refine Fq.at_ Tryz.f22 46 (by kernel_rfl) ?_
       refine rd_r46 z9 u9_0 k3 (by omega) p0 (fun U10 ⟨k10, q12⟩ => ?_)
       have z10 := k10.size.trans z9
       have u10_0 := (k10.at_ 0 (by omega)).trans u9_0
       have u10_2 := (k10.at_ 2 (by omega)).trans u9_2
       have u10_3 := (k10.at_ 3 (by omega)).trans u9_3
       refine Fq.ok ?_
       have hz0 : Xr.inZ s = z0 := by unfold Xr.inZ; rw [hin3]; rfl
       have hmb : ∀ t' : Pg.Sl, (Rm.mb c ⟨some ⟨b, o, none⟩, tn, tc⟩ fuel s false (.slice (some ⟨g, 0, none⟩) (ms.length + 1) gc) ev).set 3 (.slice t'.ad t'.len t'.cap) = Rm.mb c t' fuel (Xr.inS s) false (.slice (some ⟨g, 0, none⟩) (ms.length + 1) gc) ev := fun t' => rfl
       by_cases htc : tc = 1
       · have htn : tn = 1 := by omega
         have hr0 : r0 = [] := List.eq_nil_of_length_eq_zero (by omega)
         subst htc htn
         refine Fq.at_ Tryz.f22 47 (by kernel_rfl) ?_
         refine rd_r47L z10 u10_0 k3 (hj6'.box.fz 3) (fun U11 k11 => ?_)
         have z11 := k11.size.trans z10
         have u11_0 := (k11.at_ 0 (by omega)).trans u10_0
         have u11_2 := (k11.at_ 2 (by omega)).trans u10_2
         have u11_3 := (k11.at_ 3 (by omega)).trans u10_3
         obtain ⟨hj7, hk7⟩ := hj6'.set 3 (.slice (some ⟨b, o, none⟩) 0 0) (t' := ⟨some ⟨b, o, none⟩, 0, 0⟩) (s' := Xr.inS s) (lo' := false) (hmb ⟨some ⟨b, o, none⟩, 0, 0⟩) hj6'.hf (by unfold Xr.inS; rw [hin3, hr0]; exact ⟨rfl, Nat.le_refl _, by simp, fun i y hy => by simp at hy⟩) rfl
         exact hQ' _ _ ⟨z11, u11_0, u11_2, u11_3, by rw [hz0]; exact (k11.at_ 12 (by omega)).trans q12, _, hj7, how6.keep hk7⟩
       · refine Fq.at_ Tryz.f22 47 (by kernel_rfl) ?_
         refine rd_r47 z10 u10_0 k3 (hj6'.box.fz 3) (by omega) hcap htc (fun U11 k11 => ?_)
         have z11 := k11.size.trans z10
         have u11_0 := (k11.at_ 0 (by omega)).trans u10_0
         have u11_2 := (k11.at_ 2 (by omega)).trans u10_2
         have u11_3 := (k11.at_ 3 (by omega)).trans u10_3
         obtain ⟨hj7, hk7⟩ := hj6'.set 3 (.slice (some ⟨b, o + 1, none⟩) (tn - 1) (tc - 1)) (t' := ⟨some ⟨b, o + 1, none⟩, tn - 1, tc - 1⟩) (s' := Xr.inS s) (lo' := false) (hmb ⟨some ⟨b, o + 1, none⟩, tn - 1, tc - 1⟩) hj6'.hf (by unfold Xr.inS; rw [hin3]; exact hrn.tail) rfl
         exact hQ' _ _ ⟨z11, u11_0, u11_2, u11_3, by rw [hz0]; exact (k11.at_ 12 (by omega)).trans q12, _, hj7, how6.keep hk7⟩
    · obtain ⟨z12, u12_0, u12_2, u12_3, u12_12, t', hj7, how7⟩ := hcut
      clear hj6 hj6' k3 hrn
      refine wp_seq ?_
      refine Fq.at_ Tryz.f22 48 (by kernel_rfl) ?_
      refine rd_r48 z12 u12_0 u12_2 u12_12 (hj7.top 3 _ rfl) (rTell_any v6 hj7 (by omega) (by show s.evs.length ≤ _; omega) 3 f.fr.at_ 0 0 (Xr.inZ s)) (fun U13 w8 ⟨k13, tg8, ev8, hj8, hk8⟩ => ?_)
      have z13 := k13.size.trans z12
      have u13_0 := (k13.at_ 0 (by omega)).trans u12_0
      have u13_2 := (k13.at_ 2 (by omega)).trans u12_2
      have u13_3 := (k13.at_ 3 (by omega)).trans u12_3
      have u13_12 := (k13.at_ 12 (by omega)).trans u12_12
      have how8 := how7.keep hk8
      refine Fq.ok ?_
      refine Fq.at_ Tryz.f22 49 (by kernel_rfl) ?_
      refine rd_r49 (v := v) z13 u13_0 u13_2 u13_3 u13_12 (hj8.top 3 _ rfl) ((cell_of_row w8 b3 1 _ _ _ how8.1).trans rfl) (rWrite_any w8.drew (hj8.below ((Below.refl _ _).drew)) (by omega) (by show (s.evs ++ [_]).length ≤ _; rw [List.length_append]; show _ + 1 ≤ _; omega) f.fr.at_ v 0 l hl1 hl0 (Xr.inZ s)) (fun U14 w9 ⟨k14, tg9, ev9, hj9, hk9⟩ => ?_)
      refine Fq.blN ?_
      refine bodyPost_end (results_none rfl _ _ _) rfl ⟨rfl, Rm.Post.on hj9 hgo ?_⟩
      unfold Xr.readS Xr.readF Xr.wrS Xr.wrF
      rw [Vd.tell_evs (s := Xr.inS s) (by exact hgo), Vd.tell_evs (by exact hgo)]
      rfl
 refine Fq.cond_false (h254.trans (by rw [decide_eq_false hk8])) ?_
 replace z5 := z6
 replace u5_0 := u6_0
 replace u5_2 := u6_2
 replace u5_3 := u6_3
 replace u5_51 := u6_51
 clear z6 u6_0 u6_2 u6_3 u6_51 k6 h254
 refine wp_seq ?_
 refine Fq.at_ Tryz.f22 50 (by kernel_rfl) ?_
 refine rd_r50 z5 u5_51 rfl (fun V9 ⟨k6, h297, u6_51⟩ => ?_)
 have z6 := k6.size.trans z5
 have u6_0 := (k6.at_ 0 (by omega)).trans u5_0
 have u6_2 := (k6.at_ 2 (by omega)).trans u5_2
 have u6_3 := (k6.at_ 3 (by omega)).trans u5_3
 refine Fq.ok ?_
 by_cases hk9 : xk = 9
 · subst hk9
   refine Fq.cond_true (h297.trans (by rw [decide_eq_true rfl])) ?_
   clear hv z5 u5_0 u5_2 u5_3 u5_51 k6 hkx
   refine wp_seq ?_
   refine Fq.at_ Tryz.f22 51 (by kernel_rfl) ?_
   refine rd_r51 z6 u6_0 (rPop_any w5 hj5 (by omega) (by show f.pile.length ≤ 1000; omega)) (fun U7 w6 ⟨k7, p13, z7', hj6, hk6⟩ => ?_)
   have z7 := k7.size.trans z6
   have u7_0 := (k7.at_ 0 (by omega)).trans u6_0
   have u7_2 := (k7.at_ 2 (by omega)).trans u6_2
   have u7_3 := (k7.at_ 3 (by omega)).trans u6_3
   refine Fq.ok ?_
   refine wp_seq ?_
   refine Fq.at_ Tryz.f22 52 (by kernel_rfl) ?_
   refine rd_r52 z7 u7_0 (hj6.box.at_ 10 _ rfl) (fun U8 ⟨k8, h305⟩ => ?_)
   have z8 := k8.size.trans z7
   have u8_0 := (k8.at_ 0 (by omega)).trans u7_0
   have u8_2 := (k8.at_ 2 (by omega)).trans u7_2
   have u8_3 := (k8.at_ 3 (by omega)).trans u7_3
   have u8_13 := (k8.at_ 13 (by omega)).trans p13
   refine Fq.ok ?_
   rcases Rm.pcase ({ f with pc := f.pc + 1 } : Vd.F).pile with hp | ⟨n, q, hp⟩
   · skip
     rw [Vd.none (x := ⟨9, xa, xb⟩) (by simp) hp]
     rw [hp] at hj6 h305
     refine Fq.cond_false h305 ?_
     refine Fq.skip ?_
     refine Fq.blN ?_
     exact bodyPost_end (results_none rfl _ _ _) rfl ⟨rfl, Rm.Post.lost hj6 rfl⟩
   · rw [Vd.d9 _ _ hp]
     rw [hp] at h305 u8_13
     have hpp : Rm.pp { f with pc := f.pc + 1 } = { f with pc := f.pc + 1, pile := q } := by unfold Rm.pp; rw [hp]; rfl
     rw [hpp, show ({ f with pc := f.pc + 1 } : Vd.F).pile.isEmpty = false by rw [hp]; rfl] at hj6
     refine Fq.cond_true h305 ?_
     refine Fq.at_ Tryz.f22 53 (by kernel_rfl) ?_
     refine rd_r53 z8 u8_0 u8_2 u8_13 (hj6.top 3 _ rfl) (rTell_any w6 hj6 (by omega) (by omega) 4 f.fr.at_ 0 0 n) (fun U9 w7 ⟨k9, tg7, ev7, hj7, hk7⟩ => ?_)
     refine Fq.blN ?_
     refine bodyPost_end (results_none rfl _ _ _) rfl ⟨rfl, Rm.Post.on hj7 hgo ?_⟩
     rw [Vd.tell_evs (by exact hgo)]
     rfl
 refine Fq.cond_false (h297.trans (by rw [decide_eq_false hk9])) ?_
 replace z5 := z6
 replace u5_0 := u6_0
 replace u5_2 := u6_2
 replace u5_3 := u6_3
 replace u5_51 := u6_51
 clear z6 u6_0 u6_2 u6_3 u6_51 k6 h297
 refine wp_seq ?_
 refine Fq.at_ Tryz.f22 54 (by kernel_rfl) ?_
 refine rd_r54 z5 u5_51 rfl (fun V10 ⟨k6, h313, u6_51⟩ => ?_)
 have z6 := k6.size.trans z5
 have u6_0 := (k6.at_ 0 (by omega)).trans u5_0
 have u6_2 := (k6.at_ 2 (by omega)).trans u5_2
 have u6_3 := (k6.at_ 3 (by omega)).trans u5_3
 refine Fq.ok ?_
 by_cases hk10 : xk = 10
 · subst hk10
   refine Fq.cond_true (h313.trans (by rw [decide_eq_true rfl])) ?_
   clear hv z5 u5_0 u5_2 u5_3 u5_51 k6 hkx
   rw [Vd.d10]
   have ha0 : 0 ≤ xa := by unfold Kd.inR at hin; simp at hin; omega
   refine Fq.at_ Tryz.f22 55 (by kernel_rfl) ?_
   refine rd_r55 z6 u6_2 u6_3 ((cell_of_row w5 b3 1 _ _ _ how5.1).trans rfl) (hj5.top 2 _ rfl) (hj5.topFz _) (fun U7 k7 => ?_)
   have hj6 := (hj5.setNum 2 (.int .i64 xa) (f' := { f with pc := xa.toNat }) (by rw [← Int.toNat_of_nonneg ha0]; rfl) rfl rfl).1
   refine Fq.blN ?_
   exact bodyPost_end (results_none rfl _ _ _) rfl ⟨rfl, Rm.Post.on hj6 hgo rfl⟩
 refine Fq.cond_false (h313.trans (by rw [decide_eq_false hk10])) ?_
 replace z5 := z6
 replace u5_0 := u6_0
 replace u5_2 := u6_2
 replace u5_3 := u6_3
 replace u5_51 := u6_51
 clear z6 u6_0 u6_2 u6_3 u6_51 k6 h313
 refine wp_seq ?_
 refine Fq.at_ Tryz.f22 56 (by kernel_rfl) ?_
 refine rd_r56 z5 u5_51 rfl (fun V11 ⟨k6, h320, u6_51⟩ => ?_)
 have z6 := k6.size.trans z5
 have u6_0 := (k6.at_ 0 (by omega)).trans u5_0
 have u6_2 := (k6.at_ 2 (by omega)).trans u5_2
 have u6_3 := (k6.at_ 3 (by omega)).trans u5_3
 refine Fq.ok ?_
 by_cases hk11 : xk = 11
 · subst hk11
   refine Fq.cond_true (h320.trans (by rw [decide_eq_true rfl])) ?_
   clear hv z5 u5_0 u5_2 u5_3 u5_51 k6 hkx
   have ha0 : 0 ≤ xa := by unfold Kd.inR at hin; simp at hin; omega
   refine wp_seq ?_
   refine Fq.at_ Tryz.f22 57 (by kernel_rfl) ?_
   refine rd_r57 z6 u6_0 (rPop_any w5 hj5 (by omega) (by show f.pile.length ≤ 1000; omega)) (fun U7 w6 ⟨k7, p14, z7', hj6, hk6⟩ => ?_)
   have z7 := k7.size.trans z6
   have u7_0 := (k7.at_ 0 (by omega)).trans u6_0
   have u7_2 := (k7.at_ 2 (by omega)).trans u6_2
   have u7_3 := (k7.at_ 3 (by omega)).trans u6_3
   have how6 := how5.keep hk6
   refine Fq.ok ?_
   refine wp_seq ?_
   refine Fq.at_ Tryz.f22 58 (by kernel_rfl) ?_
   refine rd_r58 z7 p14 rfl (fun U8 ⟨k8, h325⟩ => ?_)
   have z8 := k8.size.trans z7
   have u8_0 := (k8.at_ 0 (by omega)).trans u7_0
   have u8_2 := (k8.at_ 2 (by omega)).trans u7_2
   have u8_3 := (k8.at_ 3 (by omega)).trans u7_3
   refine Fq.ok ?_
   have hset := (hj6.setNum 2 (.int .i64 xa) (f' := { Rm.pp { f with pc := f.pc + 1 } with pc := xa.toNat }) (by rw [← Int.toNat_of_nonneg ha0]; rfl) rfl rfl).1
   by_cases hn : ({ f with pc := f.pc + 1 } : Vd.F).pile.headD 0 = 0
   · refine Fq.cond_true (h325.trans (by rw [decide_eq_true hn])) ?_
     refine Fq.at_ Tryz.f22 59 (by kernel_rfl) ?_
     refine rd_r59 z8 u8_2 u8_3 ((cell_of_row w6 b3 1 _ _ _ how6.1).trans rfl) (hj6.top 2 _ rfl) (hj6.topFz _) (fun U9 k9 => ?_)
     refine Fq.blN ?_
     refine bodyPost_end (results_none rfl _ _ _) rfl ⟨rfl, ?_⟩
     rcases Rm.pcase ({ f with pc := f.pc + 1 } : Vd.F).pile with hp | ⟨n, q, hp⟩
     · rw [Vd.none (x := ⟨11, xa, xb⟩) (by simp) hp]
       rw [hp] at hset
       exact Rm.Post.lost hset rfl
     · rw [Vd.d11 _ _ hp]
       have hn2 : n = 0 := by rw [hp] at hn; exact hn
       have hpp : Rm.pp { f with pc := f.pc + 1 } = { f with pc := f.pc + 1, pile := q } := by unfold Rm.pp; rw [hp]; rfl
       rw [hpp, show ({ f with pc := f.pc + 1 } : Vd.F).pile.isEmpty = false by rw [hp]; rfl] at hset
       refine Rm.Post.on hset hgo ?_
       rw [if_pos hn2]
       rfl
   · refine Fq.cond_false (h325.trans (by rw [decide_eq_false hn])) ?_
     refine Fq.skip ?_
     refine Fq.blN ?_
     refine bodyPost_end (results_none rfl _ _ _) rfl ⟨rfl, ?_⟩
     rcases Rm.pcase ({ f with pc := f.pc + 1 } : Vd.F).pile with hp | ⟨n, q, hp⟩
     · exact absurd (by rw [hp]; rfl) hn
     · rw [Vd.d11 _ _ hp]
       have hn2 : ¬ n = 0 := by rw [hp] at hn; exact hn
       have hpp : Rm.pp { f with pc := f.pc + 1 } = { f with pc := f.pc + 1, pile := q } := by unfold Rm.pp; rw [hp]; rfl
       rw [hpp, show ({ f with pc := f.pc + 1 } : Vd.F).pile.isEmpty = false by rw [hp]; rfl] at hj6
       refine Rm.Post.on hj6 hgo ?_
       rw [if_neg hn2]
       rfl
 refine Fq.cond_false (h320.trans (by rw [decide_eq_false hk11])) ?_
 replace z5 := z6
 replace u5_0 := u6_0
 replace u5_2 := u6_2
 replace u5_3 := u6_3
 replace u5_51 := u6_51
 clear z6 u6_0 u6_2 u6_3 u6_51 k6 h320
 refine wp_seq ?_
 refine Fq.at_ Tryz.f22 60 (by kernel_rfl) ?_
 refine rd_r60 z5 u5_51 rfl (fun V12 ⟨k6, h331, u6_51⟩ => ?_)
 have z6 := k6.size.trans z5
 have u6_0 := (k6.at_ 0 (by omega)).trans u5_0
 have u6_2 := (k6.at_ 2 (by omega)).trans u5_2
 have u6_3 := (k6.at_ 3 (by omega)).trans u5_3
 refine Fq.ok ?_
 by_cases hk12 : xk = 12
 · subst hk12
   refine Fq.cond_true (h331.trans (by rw [decide_eq_true rfl])) ?_
   clear hv z5 u5_0 u5_2 u5_3 u5_51 k6 hkx
   have hab : (0 ≤ xa ∧ xa < (fs.length : Int)) ∧ (0 ≤ xb ∧ xb ≤ 3) := by unfold Kd.inR at hin; simpa using hin
   obtain ⟨q, rfl⟩ : ∃ q : Nat, xa = q := ⟨xa.toNat, by omega⟩
   obtain ⟨nb, rfl⟩ : ∃ nb : Nat, xb = nb := ⟨xb.toNat, by omega⟩
   have hq : q < ss.length := by rw [← hc.len]; omega
   refine Fq.at_ Tryz.f22 61 (by kernel_rfl) ?_
   refine rd_r61 z6 u6_0 u6_3 ((cell_of_row w5 b3 0 _ _ _ how5.1).trans rfl) ((cell_of_row w5 b3 1 _ _ _ how5.1).trans rfl) ((cell_of_row w5 b3 2 _ _ _ how5.1).trans rfl) (rCall_any hco hc hss w5 hj5 hgo (by omega) (by omega) (by omega) hfo1 q nb hq (by omega)) (fun U7 w6 ⟨k7, hpost⟩ => ?_)
   refine Fq.blN ?_
   exact bodyPost_end (results_none rfl _ _ _) rfl ⟨rfl, hpost⟩
 refine Fq.cond_false (h331.trans (by rw [decide_eq_false hk12])) ?_
 replace z5 := z6
 replace u5_0 := u6_0
 replace u5_2 := u6_2
 replace u5_3 := u6_3
 replace u5_51 := u6_51
 clear z6 u6_0 u6_2 u6_3 u6_51 k6 h331
 refine wp_seq ?_
 refine Fq.at_ Tryz.f22 62 (by kernel_rfl) ?_
 refine rd_r62 z5 u5_51 rfl (fun V13 ⟨k6, h336, u6_51⟩ => ?_)
 have z6 := k6.size.trans z5
 have u6_0 := (k6.at_ 0 (by omega)).trans u5_0
 have u6_2 := (k6.at_ 2 (by omega)).trans u5_2
 have u6_3 := (k6.at_ 3 (by omega)).trans u5_3
 refine Fq.ok ?_
 by_cases hk13 : xk = 13
 · subst hk13
   refine Fq.cond_true (h336.trans (by rw [decide_eq_true rfl])) ?_
   clear hv z5 u5_0 u5_2 u5_3 u5_51 k6 hkx
   refine wp_seq ?_
   refine Fq.at_ Tryz.f22 63 (by kernel_rfl) ?_
   refine rd_r63 z6 u6_0 (rPop_any w5 hj5 (by omega) (by show f.pile.length ≤ 1000; omega)) (fun U7 w6 ⟨k7, p15, z7', hj6, hk6⟩ => ?_)
   have z7 := k7.size.trans z6
   have u7_0 := (k7.at_ 0 (by omega)).trans u6_0
   have u7_2 := (k7.at_ 2 (by omega)).trans u6_2
   have u7_3 := (k7.at_ 3 (by omega)).trans u6_3
   refine Fq.ok ?_
   refine wp_seq (wp_seq ?_)
   rcases Rm.pcase ({ f with pc := f.pc + 1 } : Vd.F).pile with hp | ⟨n, q, hp⟩
   · skip
     rw [Vd.none (x := ⟨13, xa, xb⟩) (by simp) hp]
     rw [hp] at hj6
     refine Fq.at_ Tryz.f22 64 (by kernel_rfl) ?_
     refine rd_r64L z7 u7_0 (by have := hj6.box.at_ 10 _ rfl; simpa using this) (fun U8 ⟨k8, h351⟩ => ?_)
     have z8 := k8.size.trans z7
     have u8_0 := (k8.at_ 0 (by omega)).trans u7_0
     have u8_2 := (k8.at_ 2 (by omega)).trans u7_2
     have u8_3 := (k8.at_ 3 (by omega)).trans u7_3
     refine Fq.ok (Fq.cond_true h351 ?_)
     refine wp_seq ?_
     refine Fq.at_ Tryz.f22 65 (by kernel_rfl) ?_
     refine rd_r65 z8 u8_0 (hj6.box.at_ 10 _ rfl) (hj6.box.fz 10) (fun U9 k9 => ?_)
     refine Fq.ok ?_
     refine wp_ret ?_
     repeat (first | with_reducible refine Fq.thR ?_ | with_reducible refine Fq.blR ?_)
     exact bodyPost_ret (results_none rfl _ _ _) rfl ⟨rfl, Rm.Post.lost (hj6.set 10 (.bool true) (t' := t) (s' := s) (lo' := true) rfl hj6.hf hj6.inp rfl).1 rfl⟩
   · rw [hp] at p15
     have hpp : Rm.pp { f with pc := f.pc + 1 } = { f with pc := f.pc + 1, pile := q } := by unfold Rm.pp; rw [hp]; rfl
     rw [hpp, show ({ f with pc := f.pc + 1 } : Vd.F).pile.isEmpty = false by rw [hp]; rfl] at hj6
     have hj6' : Rm.J w0 w6 tg5 bm c t fuel s false (({ f with pc := f.pc + 1, pile := q }, z7') :: ms) (.slice (some ⟨g, 0, none⟩) (ms.length + 1) gc) ev := hj6
     refine Fq.at_ Tryz.f22 64 (by kernel_rfl) ?_
     refine rd_r64 z7 u7_0 (hj6'.box.at_ 10 _ rfl) (hj6'.box.at_ 7 _ rfl) (by omega) rfl (fun U8 ⟨k8, h351⟩ => ?_)
     have z8 := k8.size.trans z7
     have u8_0 := (k8.at_ 0 (by omega)).trans u7_0
     have u8_2 := (k8.at_ 2 (by omega)).trans u7_2
     have u8_3 := (k8.at_ 3 (by omega)).trans u7_3
     have u8_15 := (k8.at_ 15 (by omega)).trans p15
     refine Fq.ok ?_
     cases ms with
     | nil =>
      refine Fq.cond_true h351 ?_
      rw [List.map_nil, Vd.d13o _ _ hp]
      refine wp_seq ?_
      refine Fq.at_ Tryz.f22 65 (by kernel_rfl) ?_
      refine rd_r65 z8 u8_0 (hj6'.box.at_ 10 _ rfl) (hj6'.box.fz 10) (fun U9 k9 => ?_)
      refine Fq.ok ?_
      refine wp_ret ?_
      repeat (first | with_reducible refine Fq.thR ?_ | with_reducible refine Fq.blR ?_)
      exact bodyPost_ret (results_none rfl _ _ _) rfl ⟨rfl, Rm.Post.lost (hj6'.set 10 (.bool true) (t' := t) (s' := s) (lo' := true) rfl hj6'.hf hj6'.inp rfl).1 rfl⟩
     | cons y ms2 =>
      obtain ⟨fy, zy⟩ := y
      refine Fq.cond_false (h351.trans (by rw [decide_eq_false (by simp)])) ?_
      refine Fq.skip (Fq.ok ?_)
      rw [List.map_cons, Vd.d13 _ _ hp]
      have hms2 : ms2.length ≤ 4 := by rw [List.length_cons] at hms; omega
      refine wp_seq ?_
      refine Fq.at_ Tryz.f22 66 (by kernel_rfl) ?_
      refine rd_r66 (k := ms2.length) z8 u8_0 u8_15 (hj6'.box.at_ 7 _ rfl) (by omega) (hj6'.top2 3 _ rfl) (rTell_any w6.drew (hj6'.below ((Below.refl _ _).drew)) (by rw [List.length_cons]; omega) (by omega) 6 fy.fr.at_ 0 0 n) (fun U9 w7 ⟨k9, tg7, ev7, hj7, hk7⟩ => ?_)
      have z9 := k9.size.trans z8
      have u9_0 := (k9.at_ 0 (by omega)).trans u8_0
      have u9_2 := (k9.at_ 2 (by omega)).trans u8_2
      have u9_3 := (k9.at_ 3 (by omega)).trans u8_3
      have u9_15 := (k9.at_ 15 (by omega)).trans u8_15
      refine Fq.ok ?_
      have hcap := Rm.J.rfCap hj7
      refine wp_seq ?_
      refine Fq.at_ Tryz.f22 67 (by kernel_rfl) ?_
      refine rd_r67 (k := ms2.length) z9 u9_0 (hj7.box.at_ 7 _ rfl) (by omega) (hj7.box.fz 7) hcap.1 hcap.2 (fun U10 k10 => ?_)
      have z10 := k10.size.trans z9
      have u10_0 := (k10.at_ 0 (by omega)).trans u9_0
      have u10_2 := (k10.at_ 2 (by omega)).trans u9_2
      have u10_3 := (k10.at_ 3 (by omega)).trans u9_3
      have u10_15 := (k10.at_ 15 (by omega)).trans u9_15
      have hj8 := (hj7.popF).1
      have hj9 := hj8.below ((Below.refl (w7.setCell ⟨bm, 7, none⟩ (.slice (some ⟨g, 0, none⟩) (ms2.length + 1) gc)).heap.size (w7.setCell ⟨bm, 7, none⟩ (.slice (some ⟨g, 0, none⟩) (ms2.length + 1) gc))).drew)
      refine Fq.ok ?_
      refine Fq.at_ Tryz.f22 68 (by kernel_rfl) ?_
      refine rd_r68 z10 u10_0 u10_15 (rPush_any _ hj9 (by omega) n) (fun U11 w9 ⟨k11, tg9, z9', hj10, hk10⟩ => ?_)
      refine Fq.blN ?_
      refine bodyPost_end (results_none rfl _ _ _) rfl ⟨rfl, ?_⟩
      rw [Vd.tell_evs (by exact hgo)]
      by_cases hlt : fy.pile.length < 64
      · rw [if_pos hlt]
        have h5 := Rm.Post.push hj10 (by exact hgo)
        rw [if_pos hlt] at h5
        exact h5
      · rw [if_neg hlt]
        rw [decide_eq_false hlt] at hj10
        exact Rm.Post.lost hj10 rfl
 refine Fq.cond_false (h336.trans (by rw [decide_eq_false hk13])) ?_
 replace z5 := z6
 replace u5_0 := u6_0
 replace u5_2 := u6_2
 replace u5_3 := u6_3
 replace u5_51 := u6_51
 clear z6 u6_0 u6_2 u6_3 u6_51 k6 h336
 refine wp_seq ?_
 refine Fq.at_ Tryz.f22 69 (by kernel_rfl) ?_
 refine rd_r69 z5 u5_51 rfl (fun V14 ⟨k6, h388, u6_51⟩ => ?_)
 have z6 := k6.size.trans z5
 have u6_0 := (k6.at_ 0 (by omega)).trans u5_0
 have u6_2 := (k6.at_ 2 (by omega)).trans u5_2
 have u6_3 := (k6.at_ 3 (by omega)).trans u5_3
 refine Fq.ok ?_
 by_cases hk14 : xk = 14
 · subst hk14
   refine Fq.cond_true (h388.trans (by rw [decide_eq_true rfl])) ?_
   clear hv z5 u5_0 u5_2 u5_3 u5_51 k6 hkx
   rw [Vd.d14]
   refine wp_seq (wp_seq ?_)
   refine Fq.at_ Tryz.f22 70 (by kernel_rfl) ?_
   refine rd_r70 z6 u6_0 (hj5.box.at_ 7 _ rfl) (by omega) rfl (fun U7 ⟨k7, h395⟩ => ?_)
   have z7 := k7.size.trans z6
   have u7_0 := (k7.at_ 0 (by omega)).trans u6_0
   have u7_2 := (k7.at_ 2 (by omega)).trans u6_2
   have u7_3 := (k7.at_ 3 (by omega)).trans u6_3
   refine Fq.ok ?_
   cases ms with
   | nil =>
    refine Fq.cond_false h395 ?_
    refine Fq.skip (Fq.ok ?_)
    refine Fq.at_ Tryz.f22 72 (by kernel_rfl) ?_
    refine rd_r72 z7 u7_0 (rEnd_any w5 hj5 (by omega) (by omega) hgo (-1) 0) (fun U8 w6 ⟨k8, tg6, ev6, hj6⟩ => ?_)
    refine Fq.blN ?_
    exact bodyPost_end (results_none rfl _ _ _) rfl ⟨rfl, Rm.Post.over hj6 rfl rfl⟩
   | cons y ms2 =>
    refine Fq.cond_true (h395.trans (by rw [decide_eq_true (by simp)])) ?_
    refine wp_seq ?_
    refine Fq.at_ Tryz.f22 71 (by kernel_rfl) ?_
    refine rd_r71 z7 u7_0 (hj5.box.at_ 10 _ rfl) (hj5.box.fz 10) (fun U8 k8 => ?_)
    refine Fq.ok ?_
    refine wp_ret ?_
    repeat (first | with_reducible refine Fq.thR ?_ | with_reducible refine Fq.blR ?_)
    exact bodyPost_ret (results_none rfl _ _ _) rfl ⟨rfl, Rm.Post.lost (hj5.set 10 (.bool true) (t' := t) (s' := s) (lo' := true) rfl hj5.hf hj5.inp rfl).1 rfl⟩
 omega
end
end Go.Proofs.YtpfogjplnodacaaGreat
