/-
  VWr, VEx, VPut, VBk. By the verifier.
-/
import Derived.Test.YtpfogjplnodacaaGreatLH
import Derived.Deep.QuietTactic
import Derived.BigQuiet
import Derived.WalkSmall
set_option maxRecDepth 100000
set_option maxHeartbeats 3200000
namespace Go.Proofs.YtpfogjplnodacaaGreat
open Go.RowKit Go.Maps
set_option linter.unusedVariables false
def Vm.Q (w0 : World) (bm : Nat) (c : Vm.Cx) (ss : List (List Int)) (N : Nat) (t : Vd.St) (W : World) : Prop :=
 (t.s.ended = true ∧ ∃ tg ti md rf ev ps, Vm.G w0 W tg bm c ti t.s md rf ev ps) ∨ (t.s.ended = false ∧ ∃ tg ms rf ev, Vm.J w0 W tg N bm c ss t.s ms rf ev ∧ ms.map Prod.fst = t.fs)
section
variable {w0 W W' : World} {tg tg' : Nat → Nat} {N bm : Nat} {c : Vm.Cx} {ss : List (List Int)} {s : Xr.S} {f : Vd.F} {z : Vm.Z} {r : List Vm.X} {rf ev : Value}
theorem Vm.J.bel {ms : List Vm.X} (h : Vm.J w0 W tg N bm c ss s ms rf ev) : Below w0.heap.size w0 W := by
 obtain ⟨t, hg⟩ := h.g
 exact hg.bel
theorem Vm.Q.over {t : Pg.Sl} {md : Nat} {ps : List Value} {g : Xr.F} {a how : Int} (hg : Vm.G w0 W tg bm c t (Xr.fin s g a how) md rf ev ps) : Vm.Q w0 bm c ss N (Vd.over (Xr.fin s g a how)) W := .inl ⟨rfl, _, _, _, _, _, _, hg⟩
theorem Vm.Q.on {ms : List Vm.X} {fs : List Vd.F} {lo : Bool} (h : Vm.J w0 W tg N bm c ss s ms rf ev) (he : s.ended = false) (hf : ms.map Prod.fst = fs) : Vm.Q w0 bm c ss N ⟨s, fs, lo⟩ W := .inr ⟨he, _, _, _, _, h, hf⟩
theorem Vm.var {l : List Kd.I} {fs : List Int} (hc : Vd.Cd l fs ss) (hf : Vd.FOk l ss f) {v : Nat} {y : Int} (hy : (ss[f.fn]?.getD [])[v]? = some y) : ∃ q, f.fr.vs[v]? = some q ∧ q.length = (max y 1).toNat ∧ 0 ≤ y ∧ y ≤ 8 := by
 have h1 : (f.fr.vs.map List.length)[v]? = ((ss[f.fn]?.getD []).map fun n => (max n 1).toNat)[v]? := by rw [hf.sh]
 rw [List.getElem?_map, List.getElem?_map, hy] at h1
 cases hq : f.fr.vs[v]? with
 | none => rw [hq] at h1; cases h1
 | some q =>
  rw [hq] at h1
  have hfn := hf.fn
  rw [List.getElem?_eq_getElem hfn] at hy
  have h8 := hc.siz _ (List.getElem_mem hfn) y (List.mem_of_getElem? hy)
  exact ⟨q, rfl, by simpa using h1, h8.1, h8.2⟩
end
theorem vjend_any {w0 W : World} {tg : Nat → Nat} {N N' bm : Nat} {c : Vm.Cx} {ss : List (List Int)} {s : Xr.S} {ms : List Vm.X} {rf ev : Value} (h : Vm.J w0 W tg N bm c ss s ms rf ev) (bf : Nat) (f : Xr.F) (a how : Int) (hnum : W.cell? ⟨bf, 0, none⟩ = some (.int .i64 (f.num : Nat))) (hs : s.ended = false) (hl : s.evs.length ≤ 1000000) :
  Calls Tryz.prog 92 #[.pointer (some ⟨bm, 0, none⟩), .pointer (some ⟨bf, 0, none⟩), .int .i64 a, .int .i64 how] W fun r W' => r = .returned (.tuple #[]) ∧ Vm.Q w0 bm c ss N' (Vd.over (Xr.fin s f a how)) W' := by
 obtain ⟨t, hg⟩ := h.g
 refine (vend_any hg bf f a how hnum hs hl).mono ?_
 rintro r W' ⟨h1, tg', ev', h2, _⟩
 exact ⟨h1, Vm.Q.over h2⟩
theorem vjtell_any {w0 W : World} {tg : Nat → Nat} {N bm : Nat} {c : Vm.Cx} {ss : List (List Int)} {s : Xr.S} {ms : List Vm.X} {rf ev : Value} (h : Vm.J w0 W tg N bm c ss s ms rf ev) (bf : Nat) (k a v i n : Int) (num : Int) (hnum : W.cell? ⟨bf, 0, none⟩ = some (.int .i64 num)) (hs : s.ended = false) (hl : s.evs.length ≤ 1000000) :
  Calls Tryz.prog 89 #[.pointer (some ⟨bm, 0, none⟩), .pointer (some ⟨bf, 0, none⟩), .agg #[.int .i64 k, .int .i64 0, .int .i64 a, .int .i64 v, .int .i64 i, .int .i64 n]] W fun r W' => r = .returned (.tuple #[]) ∧ ∃ tg' ev', Vm.J w0 W' tg' N bm c ss (Xr.tell s ⟨k, num, a, v, i, n⟩) ms rf ev' ∧ Vm.K (fun j => j < 3) tg tg' W W' := by
 obtain ⟨t, hg⟩ := h.g
 refine (vtell_any hg bf _ k a v i n num hnum rfl hl).mono ?_
 rintro r W' ⟨h1, tg', ev', h2, h3⟩
 rw [Vd.tell_evs hs]
 exact ⟨h1, tg', ev', h.machine h2 h3, h3⟩
theorem vwrite_any {w0 W : World} {tg : Nat → Nat} {N bm : Nat} {c : Vm.Cx} {ss : List (List Int)} {s : Xr.S} {f : Vd.F} {z : Vm.Z} {r : List Vm.X} {rf ev : Value} (h : Vm.J w0 W tg N bm c ss s ((f, z) :: r) rf ev) (hs : s.ended = false) (hle : s.evs.length ≤ 1000000) (a : Int) {v i : Nat} {l : List Int} {y : Int} (n : Int) (hv : f.fr.vs[v]? = some l) (hy : (ss[f.fn]?.getD [])[v]? = some y) (hl : l.length = (max y 1).toNat) (h8 : 0 ≤ y ∧ y ≤ 8) (hi : i < l.length) (hN : N ≤ 1000000) :
  Calls Tryz.prog 85 #[.pointer (some ⟨bm, 0, none⟩), .pointer (some ⟨z.bf, 0, none⟩), .int .i64 a, .int .i64 (v : Nat), .int .i64 (i : Nat), .int .i64 n] W fun rr W' => rr = .returned (.tuple #[]) ∧ ∃ tg' z' ev', z'.bf = z.bf ∧ Vm.J w0 W' tg' (N + 1) bm c ss (Xr.wrS s f.fr a (v : Nat) (i : Nat) n) (({ f with fr := Xr.wrF f.fr (v : Nat) (i : Nat) n }, z') :: r) rf ev' ∧ Vm.K (Vm.Cw r.length) tg tg' W W' := by
 have HC := hide (vcells_any h.frs.1 h.bel hv hy hl h8 hN)
 have HJ := hide h
 have HS := hide (show Xr.wrS s f.fr a (v : Nat) (i : Nat) n = { s with evs := s.evs ++ [⟨2, f.fr.num, a, (v : Nat), (i : Nat), n⟩] } from Vd.tell_evs hs _)
 have HV := hide hv
 have hvl := (List.getElem?_eq_some_iff.1 hv).1
 have g1 : (0 : Int) ≤ (i : Int) := by omega
 have g2 : (i : Int) < (l.length : Int) := by omega
 clear h hy hl h8 hv
 generalize Xr.wrS s f.fr a (v : Nat) (i : Nat) n = s2 at *
 go_enter Tryz.func85, Tryz.ntmps85
 go_wp2_with fail
 refine (unhide HC).mono ?_
 rintro r1 w1 ⟨b, cc, rfl, tg1, z1, hz1, hm1, hf1, hk1⟩
 have hJ1 := (unhide HJ).frame hf1 hz1 (Nat.le_succ N) (hk1.mono Vm.Cv_Cf)
 have hat := hf1.at_ v l (unhide HV)
 rw [hm1] at hat
 obtain ⟨_, _, _, hlc, hx⟩ := hat
 obtain ⟨y0, hy0⟩ : ∃ y0, l[i]? = some y0 := ⟨_, List.getElem?_eq_getElem hi⟩
 have p1 := hx.at_ i (.int .i64 y0) (by rw [List.getElem?_map, hy0]; rfl)
 have p2 := hx.fz i
 have hw := hf1.wrote v i n hm1 hvl
 have hJ2 := hJ1.frame hw.1 rfl (Nat.le_refl _) (hw.2.mono Vm.Cv_Cf)
 obtain ⟨t2, hg2⟩ := hJ2.g
 have HT := hide (vtell_any hg2 z.bf ⟨2, f.fr.num, a, (v : Nat), (i : Nat), n⟩ 2 a (v : Nat) (i : Nat) n _ (by rw [← hz1]; exact hJ2.frs.1.box.at_ 0 _ rfl) rfl hle)
 have HJ2 := hide hJ2
 have HZ1 := hide hz1
 have HK := hide ((hk1.mono Vm.Cv_Cw).trans (hw.2.mono Vm.Cv_Cw))
 clear hJ1 hx hy0 hw hJ2 hg2 hf1 hk1 hm1 hz1
 go_wp2_with fail
 refine (unhide HT).mono ?_
 rintro r3 w3 ⟨rfl, tg3, ev3, hg3, hk3⟩
 have HG3 := hide hg3
 have HK3 := hide hk3
 clear hg3 hk3
 go_wp2_with fail
 go_end0
 refine ⟨rfl, tg3, z1, ev3, unhide HZ1, ?_, (unhide HK).trans ((unhide HK3).mono Vm.Cm_Cw)⟩
 rw [unhide HS]
 exact (unhide HJ2).machine (unhide HG3) (unhide HK3)
theorem vstep_any {w0 W : World} {tg : Nat → Nat} {N bm : Nat} {c : Vm.Cx} {ss : List (List Int)} {s : Xr.S} {f : Vd.F} {z : Vm.Z} {r : List Vm.X} {rf ev : Value} (h : Vm.J w0 W tg N bm c ss s ((f, z) :: r) rf ev) (hs : s.ended = false) (hle : s.evs.length ≤ 1000000) (hfu : s.fuel ≤ 100000) (a : Int) :
  Calls Tryz.prog 80 #[.pointer (some ⟨bm, 0, none⟩), .pointer (some ⟨z.bf, 0, none⟩), .int .i64 a] W fun rr W' => rr = .returned (.tuple #[]) ∧ Vm.Q w0 bm c ss N (if s.fuel = 0 then Vd.over (Xr.fin s f.fr a 1) else ⟨Xr.stepS s f.fr a, { f with fr := Xr.stepF s f.fr a } :: r.map Prod.fst, false⟩) W' := by
 obtain ⟨t, hg⟩ := h.g
 have k4 := hg.box.at_ 4 _ rfl
 have y4 := hg.box.fz 4
 have k0 := h.frs.1.box.at_ 0 _ rfl
 have k1 := h.frs.1.box.at_ 1 _ rfl
 have y1 := h.frs.1.box.fz 1
 have hne : bm ≠ z.bf := by
  intro e
  have h1 := hg.tb
  rw [e, h.frs.1.tb] at h1
  omega
 have hne2 : z.bf ≠ bm := Ne.symm hne
 by_cases h0 : s.fuel = 0
 · rw [if_pos h0]
   have HE := hide (vend_any hg z.bf f.fr a 1 k0 hs hle)
   rw [h0] at k4
   clear h hg hs hle hfu h0
   go_enter Tryz.func80, Tryz.ntmps80
   go_wp2_with fail
   refine (unhide HE).mono ?_
   rintro r1 w1 ⟨rfl, tg1, ev1, hg1, hk1⟩
   have HG1 := hide hg1
   clear hg1 hk1
   go_wp2_with fail
   try simp only [Exit.inBlock, Exit.then]
   refine bodyPost_ret (results_none rfl _ _ _) rfl ?_
   exact ⟨rfl, Vm.Q.over (unhide HG1)⟩
 · rw [if_neg h0]
   obtain ⟨k, hk⟩ : ∃ k, s.fuel = k + 1 := ⟨s.fuel - 1, by omega⟩
   have hG2 := hg.set 4 (.int .i64 (k : Nat)) (s' := { s with fuel := k }) rfl hg.inp rfl
   have hJ2 := h.machine hG2.1 hG2.2
   have hF3 := hJ2.frs.1.set 1 (.int .i64 a) (f' := { f with fr := { f.fr with at_ := a } }) (z' := z) rfl rfl rfl rfl rfl rfl
   have hJ3 := hJ2.frame hF3.1 rfl (Nat.le_refl _) hF3.2
   obtain ⟨t3, hg3⟩ := hJ3.g
   have n0 := hJ3.frs.1.box.at_ 0 _ rfl
   have n1 := hJ2.frs.1.box.at_ 1 _ rfl
   have HT := hide (vtell_any hg3 z.bf ⟨1, f.fr.num, a, 0, 0, 0⟩ 1 a 0 0 0 _ n0 rfl hle)
   have HS := hide (show Xr.stepS s f.fr a = { { s with fuel := k } with evs := s.evs ++ [⟨1, f.fr.num, a, 0, 0, 0⟩] } by unfold Xr.stepS; rw [if_neg h0, hk]; exact Vd.tell_evs (s := { s with fuel := k }) hs _)
   have HF := hide (show Xr.stepF s f.fr a = { f.fr with at_ := a } by unfold Xr.stepF; rw [if_neg h0])
   have HJ3 := hide hJ3
   have HSE := hide hs
   rw [hk] at k4
   have hk1 : k ≤ 100000 := by omega
   have g0 : (((k + 1 : Nat) : Int) == 0) = false := by simp; omega
   clear h hg hs hle hfu h0 hk hG2 hJ2 hF3 hJ3 hg3 n0
   go_enter Tryz.func80, Tryz.ntmps80
   go_wp2_with fail
   refine (unhide HT).mono ?_
   rintro r1 w1 ⟨rfl, tg1, ev1, hg1, hk1⟩
   have HG1 := hide hg1
   have HK1 := hide hk1
   clear hg1 hk1
   go_wp2_with fail
   go_end0
   rw [unhide HS, unhide HF]
   exact ⟨rfl, Vm.Q.on ((unhide HJ3).machine (unhide HG1) (unhide HK1)) (unhide HSE) rfl⟩
end Go.Proofs.YtpfogjplnodacaaGreat
namespace Go.Proofs.YtpfogjplnodacaaGreat
open Go.RowKit Go.Maps
set_option linter.unusedVariables false
section
variable {w0 W W' : World} {tg tg' : Nat → Nat} {N d bm : Nat} {c : Vm.Cx} {ss : List (List Int)} {s : Xr.S} {f : Vd.F} {z : Vm.Z} {r : List Vm.X} {rf ev : Value}
theorem Vm.Fr.size (h : Vm.Fr w0 W tg N d ss f z) (hb : Below w0.heap.size w0 W) {v : Nat} {y : Int} (hy : (ss[f.fn]?.getD [])[v]? = some y) : ∃ b o len cap, W.cell? ⟨z.bf, 4, none⟩ = some (.slice (some ⟨b, o, none⟩) len cap) ∧ v < len ∧ W.cell? ⟨b, o + v, none⟩ = some (.int .i64 y) := by
 obtain ⟨b, o, had, hlt, hc⟩ := h.rs.at_ v y hy
 refine ⟨b, o, z.sa.len, z.sa.cap, by rw [← had]; exact h.box.at_ 4 _ rfl, ?_, (hb.cell (p := ⟨b, o + v, none⟩) hlt).trans hc⟩
 rw [h.rs.len]
 exact (List.getElem?_eq_some_iff.1 hy).1
theorem Vm.Fr.k0 (h : Vm.Fr w0 W tg N d ss f z) : W.cell? ⟨z.bf, 0, none⟩ = some (.int .i64 (f.fr.num : Nat)) := h.box.at_ 0 _ rfl
theorem Vm.Fr.k1 (h : Vm.Fr w0 W tg N d ss f z) : W.cell? ⟨z.bf, 1, none⟩ = some (.int .i64 f.fr.at_) := h.box.at_ 1 _ rfl
theorem Vm.arr_at {sz : List Int} {v : Nat} (h : Vd.arr sz (v : Nat) = true) : ∃ y, sz[v]? = some y ∧ y ≠ 0 := by
 unfold Vd.arr Vd.plain at h
 rw [Int.toNat_natCast, Bool.and_eq_true] at h
 have h1 : v < sz.length := of_decide_eq_true h.1
 refine ⟨sz[v], List.getElem?_eq_getElem h1, fun e => ?_⟩
 have h2 := h.2
 rw [List.getElem?_eq_getElem h1, e] at h2
 exact absurd h2 (by decide)
theorem Vm.plain_at {sz : List Int} {v : Nat} (h : Vd.plain sz (v : Nat) = true) : sz[v]? = some 0 := by
 unfold Vd.plain at h
 rw [Int.toNat_natCast] at h
 exact eq_of_beq h
theorem Vm.has_iff {sz : List Int} {v : Nat} {y n : Int} (hy : sz[v]? = some y) : Vd.has sz (v : Nat) n = decide (0 ≤ n ∧ n < y) := by
 unfold Vd.has
 rw [Int.toNat_natCast, hy]
 rfl
end
theorem vcell_any {w0 W : World} {tg : Nat → Nat} {N bm : Nat} {c : Vm.Cx} {ss : List (List Int)} {s : Xr.S} {f : Vd.F} {z : Vm.Z} {r : List Vm.X} {rf ev : Value} {li : List Kd.I} {fs : List Int} (hc : Vd.Cd li fs ss) (hfo : Vd.FOk li ss f) (h : Vm.J w0 W tg N bm c ss s ((f, z) :: r) rf ev) (hs : s.ended = false) (hle : s.evs.length ≤ 1000000) (hN : N ≤ 1000000) {n : Int} {q : List Int} (hp : f.pile = n :: q) {v : Nat} (ha : Vd.arr (ss[f.fn]?.getD []) (v : Nat) = true) :
  Calls Tryz.prog 83 #[.pointer (some ⟨bm, 0, none⟩), .pointer (some ⟨z.bf, 0, none⟩), .int .i64 (v : Nat)] W fun rr W' => rr = .returned (.tuple #[]) ∧ Vm.Q w0 bm c ss (N + 1) (if Vd.has (ss[f.fn]?.getD []) (v : Nat) n then ⟨s, { f with pile := Vd.cellOf f (v : Nat) n :: q } :: r.map Prod.fst, false⟩ else Vd.over (Xr.fin s f.fr f.fr.at_ 3)) W' := by
 obtain ⟨y, hy, hy0⟩ := Vm.arr_at ha
 obtain ⟨l, hvl, hll, h8⟩ := Vm.var hc hfo hy
 have htop := hfo.top
 have HP := hide (vpop_any h.frs.1 hp (show f.pile.length ≤ 1000 by omega))
 rw [Vm.has_iff hy]
 have HJ := hide h
 have HY := hide hy
 have hq64 : q.length ≤ 1000 := by rw [hp] at htop; simp at htop; omega
 by_cases hin : 0 ≤ n ∧ n < y
 · obtain ⟨i, rfl⟩ : ∃ i : Nat, n = i := ⟨n.toNat, by omega⟩
   rw [if_pos (decide_eq_true hin)]
   have hi : i < l.length := by omega
   obtain ⟨x, hx⟩ : ∃ x, l[i]? = some x := ⟨_, List.getElem?_eq_getElem hi⟩
   have hcell : Vd.cellOf f (v : Nat) (i : Nat) = x := by unfold Vd.cellOf; rw [Int.toNat_natCast, Int.toNat_natCast, hvl]; show (l[i]?).getD 0 = x; rw [hx]; rfl
   rw [hcell]
   have HV := hide hvl
   have HX := hide hx
   have g0 : decide ((i : Int) < 0) = false := decide_eq_false (by omega)
   have g1 : decide (y ≤ (i : Int)) = false := decide_eq_false (by omega)
   have g2 : ¬ (i : Int) < 0 := by omega
   have g3 : ¬ y ≤ (i : Int) := by omega
   have g4 : (i : Int) < (l.length : Int) := by omega
   have g5 : (0 : Int) ≤ (i : Int) := by omega
   have HLL := hide hll
   have HSE := hide hs
   clear h hy hvl hll hx hcell hin hs
   go_enter Tryz.func83, Tryz.ntmps83
   go_wp2_with fail
   refine (unhide HP).mono ?_
   rintro r1 w1 ⟨z1, rfl, hz1, hf1, hk1⟩
   have hJ1 := (unhide HJ).frame hf1 hz1 (Nat.le_refl _) hk1
   obtain ⟨b, o, len, cap, k4, hvn, p0⟩ := hf1.size hJ1.bel (v := v) (unhide HY)
   rw [hz1] at k4
   have u1 : (0 : Int) ≤ (v : Int) := by omega
   have u2 : (v : Int) < (len : Int) := by omega
   have hcl := vcells_any hf1 hJ1.bel (v := v) (l := l) (unhide HV) (unhide HY) (unhide HLL) h8 hN
   rw [hz1] at hcl
   have HC := hide hcl
   have HJ1 := hide hJ1
   have HZ1 := hide hz1
   clear hf1 hz1 hk1 hJ1 hcl
   go_wp2_with fail
   refine (unhide HC).mono ?_
   rintro r2 w2 ⟨b2, cc, rfl, tg2, z2, hz2, hm2, hf2, hk2⟩
   have hJ2 := (unhide HJ1).frame hf2 (hz2.trans (unhide HZ1).symm) (Nat.le_succ N) (hk2.mono Vm.Cv_Cf)
   have hat := hf2.at_ v l (unhide HV)
   rw [hm2] at hat
   obtain ⟨_, _, _, hlc, hbx⟩ := hat
   have p1 := hbx.at_ i (.int .i64 x) (by rw [List.getElem?_map, unhide HX]; rfl)
   have hps := vpush_any hf2 hJ2.bel.size x (by exact hq64)
   rw [hz2] at hps
   have HPS := hide hps
   have HZ2 := hide hz2
   have HJ2 := hide hJ2
   clear hf2 hz2 hk2 hm2 hJ2 hps hbx
   go_wp2_with fail
   refine (unhide HPS).mono ?_
   rintro r3 w3 ⟨rfl, tg3, z3, hz3, hf3, hk3⟩
   have HJ3 := hide ((unhide HJ2).frame hf3 (hz3.trans (unhide HZ2).symm) (Nat.le_refl _) hk3)
   clear hf3 hz3 hk3
   go_wp2_with fail
   go_end0
   exact ⟨rfl, Vm.Q.on (unhide HJ3) (unhide HSE) rfl⟩
 · rw [if_neg (by simpa using hin)]
   have HSE := hide hs
   have hcs : n < 0 ∨ (¬ n < 0 ∧ y ≤ n) := by omega
   clear h hy hvl hll hin hs
   go_enter Tryz.func83, Tryz.ntmps83
   go_wp2_with fail
   refine (unhide HP).mono ?_
   rintro r1 w1 ⟨z1, rfl, hz1, hf1, hk1⟩
   have hJ1 := (unhide HJ).frame hf1 hz1 (Nat.le_refl _) hk1
   obtain ⟨b, o, len, cap, k4, hvn, p0⟩ := hf1.size hJ1.bel (v := v) (unhide HY)
   rw [hz1] at k4
   have u1 : (0 : Int) ≤ (v : Int) := by omega
   have u2 : (v : Int) < (len : Int) := by omega
   obtain ⟨t1, hg1⟩ := hJ1.g
   have k0 := hf1.k0
   have k1 := hf1.k1
   rw [hz1] at k0 k1
   have HE := hide (vend_any hg1 z.bf f.fr f.fr.at_ 3 k0 (unhide HSE) hle)
   clear hf1 hz1 hk1 hJ1 hg1
   rcases hcs with hn | ⟨hn, hn2⟩
   · have g0 : decide (n < 0) = true := decide_eq_true hn
     go_wp2_with fail
     refine (unhide HE).mono ?_
     rintro r2 w2 ⟨rfl, tg2, ev2, hg2, hk2⟩
     have HG2 := hide hg2
     clear hg2 hk2
     go_wp2_with fail
     try simp only [Exit.inBlock, Exit.then]
     refine bodyPost_ret (results_none rfl _ _ _) rfl ?_
     exact ⟨rfl, Vm.Q.over (unhide HG2)⟩
   · have g0 : decide (n < 0) = false := decide_eq_false (by omega)
     have g1 : decide (y ≤ n) = true := decide_eq_true hn2
     go_wp2_with fail
     refine (unhide HE).mono ?_
     rintro r2 w2 ⟨rfl, tg2, ev2, hg2, hk2⟩
     have HG2 := hide hg2
     clear hg2 hk2
     go_wp2_with fail
     try simp only [Exit.inBlock, Exit.then]
     refine bodyPost_ret (results_none rfl _ _ _) rfl ?_
     exact ⟨rfl, Vm.Q.over (unhide HG2)⟩
end Go.Proofs.YtpfogjplnodacaaGreat
namespace Go.Proofs.YtpfogjplnodacaaGreat
open Go.RowKit Go.Maps
set_option linter.unusedVariables false
theorem vput_yes {w0 W : World} {tg : Nat → Nat} {N bm : Nat} {c : Vm.Cx} {ss : List (List Int)} {s : Xr.S} {f : Vd.F} {z : Vm.Z} {r : List Vm.X} {rf ev : Value} {li : List Kd.I} {fs : List Int} (hc : Vd.Cd li fs ss) (hfo : Vd.FOk li ss f) (h : Vm.J w0 W tg N bm c ss s ((f, z) :: r) rf ev) (hs : s.ended = false) (hle : s.evs.length ≤ 1000000) (hN : N ≤ 1000000) {y : Int} {l : List Int} {v : Nat} (hy : (ss[f.fn]?.getD [])[v]? = some y) (hvl : f.fr.vs[v]? = some l) (hll : l.length = (max y 1).toNat) (h8 : 0 ≤ y ∧ y ≤ 8) {n : Int} {i : Nat} {q : List Int} (hp : f.pile = n :: (i : Int) :: q) (hin : 0 ≤ (i : Int) ∧ (i : Int) < y) :
  Calls Tryz.prog 87 #[.pointer (some ⟨bm, 0, none⟩), .pointer (some ⟨z.bf, 0, none⟩), .int .i64 (v : Nat)] W fun rr W' => rr = .returned (.tuple #[]) ∧ Vm.Q w0 bm c ss (N + 1) ⟨Xr.wrS s f.fr f.fr.at_ (v : Nat) (i : Nat) n, { f with fr := Xr.wrF f.fr (v : Nat) (i : Nat) n, pile := q } :: r.map Prod.fst, false⟩ W' := by
 have htop := hfo.top
 have hpa := vpopAll_any h.frs.1 2 (show 2 ≤ f.pile.length by rw [hp]; simp) (show f.pile.length ≤ 1000 by omega)
 rw [show ((f, z).1.pile.take 2).reverse = [(i : Int), n] by show (f.pile.take 2).reverse = _; rw [hp]; rfl, show (f, z).1.pile.drop 2 = q by show f.pile.drop 2 = q; rw [hp]; rfl] at hpa
 have HP := hide hpa
 have HJ := hide h
 have HY := hide hy
 have hi : i < l.length := by omega
 have HV := hide hvl
 have g0 : decide ((i : Int) < 0) = false := decide_eq_false (by omega)
 have g1 : decide (y ≤ (i : Int)) = false := decide_eq_false (by omega)
 have g2 : ¬ (i : Int) < 0 := by omega
 have g3 : ¬ y ≤ (i : Int) := by omega
 have HLL := hide hll
 have HSE := hide hs
 have HSW := hide (show (Xr.wrS s f.fr f.fr.at_ (v : Nat) (i : Nat) n).ended = false by unfold Xr.wrS; rw [Vd.tell_evs hs]; exact hs)
 clear h hy hvl hll hin hs hpa
 go_enter Tryz.func87, Tryz.ntmps87
 go_wp2_with fail
 refine (unhide HP).mono ?_
 rintro r1 w1 ⟨a1, c1, z1, rfl, hcc, hz1, hf1, hk1, hpd⟩
 have hJ1 := (unhide HJ).frame hf1 hz1 (Nat.le_refl _) hk1
 obtain ⟨b, o, len, cap, k4, hvn, p0⟩ := hf1.size hJ1.bel (v := v) (unhide HY)
 obtain ⟨b1, o1, rfl, hbl, hbt, e0⟩ := hpd 0 _ rfl
 obtain ⟨b1', o1', hh, _, _, e1⟩ := hpd 1 _ rfl
 cases hh
 rw [Nat.add_zero] at e0
 have k1 := hf1.k1
 rw [hz1] at k4 k1
 have u1 : (0 : Int) ≤ (v : Int) := by omega
 have u2 : (v : Int) < (len : Int) := by omega
 have hwr := fun (V : World) (hV : Below w1.heap.size w1 V) => vwrite_any (hJ1.below hV) (unhide HSE) hle f.fr.at_ (v := v) (i := i) (l := l) n (unhide HV) (unhide HY) (unhide HLL) h8 hi hN
 rw [hz1] at hwr
 have HW := hide hwr
 clear hf1 hz1 hk1 hJ1 hpd hwr
 go_upto_region 1 with fail
 go_quiet (fail)
 · go_upto_region 3 with fail
   have HKM := hide (show (w1.drewN nq).drew.cell? ⟨z.bf, 1, none⟩ = some (.int .i64 f.fr.at_) ∧ (w1.drewN nq).drew.cell? ⟨b1, o1, none⟩ = some (.int .i64 (i : Nat)) ∧ (w1.drewN nq).drew.cell? ⟨b1, o1 + 1, none⟩ = some (.int .i64 n) from ⟨k1, e0, e1⟩)
   clear k1 e0 e1 k4 p0
   go_region_held3 (fun V => V.cell? ⟨z.bf, 1, none⟩ = some (.int .i64 f.fr.at_) ∧ V.cell? ⟨b1, o1, none⟩ = some (.int .i64 (i : Nat)) ∧ V.cell? ⟨b1, o1 + 1, none⟩ = some (.int .i64 n))
    (first | assumption | exact unhide HKM | exact unhide HS3)
    (first | (go_at_call 85; refine ((unhide HW) _ ?_).mono ?_; exact (below_drewN (Below.refl _ _) _).drew; rintro r3 w3 ⟨rfl, tg3, z3, ev3, hz3, hj3, hk3⟩; have HS3 := hide (show w3.cell? ⟨z.bf, 1, none⟩ = some (.int .i64 f.fr.at_) ∧ w3.cell? ⟨b1, o1, none⟩ = some (.int .i64 (i : Nat)) ∧ w3.cell? ⟨b1, o1 + 1, none⟩ = some (.int .i64 n) from ⟨by rw [← hz3]; exact hj3.frs.1.k1, (Xr.cell_kept (hk3.blk b1 hbl (by rw [hbt]; unfold Vm.Cw; omega)) o1).trans (unhide HKM).2.1, (Xr.cell_kept (hk3.blk b1 hbl (by rw [hbt]; unfold Vm.Cw; omega)) (o1 + 1)).trans (unhide HKM).2.2⟩); have HJ3 := hide hj3; clear hz3 hj3 hk3))
   all_goals
    go_wp2_with fail
    go_end0
    exact ⟨rfl, Vm.Q.on (unhide HJ3) (unhide HSW) rfl⟩
theorem vput_lo {w0 W : World} {tg : Nat → Nat} {N bm : Nat} {c : Vm.Cx} {ss : List (List Int)} {s : Xr.S} {f : Vd.F} {z : Vm.Z} {r : List Vm.X} {rf ev : Value} {li : List Kd.I} {fs : List Int} (hc : Vd.Cd li fs ss) (hfo : Vd.FOk li ss f) (h : Vm.J w0 W tg N bm c ss s ((f, z) :: r) rf ev) (hs : s.ended = false) (hle : s.evs.length ≤ 1000000) (hN : N ≤ 1000000) {y : Int} {l : List Int} {v : Nat} (hy : (ss[f.fn]?.getD [])[v]? = some y) (hvl : f.fr.vs[v]? = some l) (hll : l.length = (max y 1).toNat) (h8 : 0 ≤ y ∧ y ≤ 8) {n x : Int} {q : List Int} (hp : f.pile = n :: x :: q) (hn : x < 0) :
  Calls Tryz.prog 87 #[.pointer (some ⟨bm, 0, none⟩), .pointer (some ⟨z.bf, 0, none⟩), .int .i64 (v : Nat)] W fun rr W' => rr = .returned (.tuple #[]) ∧ Vm.Q w0 bm c ss (N + 1) (Vd.over (Xr.fin s f.fr f.fr.at_ 3)) W' := by
 have htop := hfo.top
 have hpa := vpopAll_any h.frs.1 2 (show 2 ≤ f.pile.length by rw [hp]; simp) (show f.pile.length ≤ 1000 by omega)
 rw [show ((f, z).1.pile.take 2).reverse = [x, n] by show (f.pile.take 2).reverse = _; rw [hp]; rfl, show (f, z).1.pile.drop 2 = q by show f.pile.drop 2 = q; rw [hp]; rfl] at hpa
 have HP := hide hpa
 have HJ := hide h
 have HY := hide hy
 have HSE := hide hs
 clear h hy hvl hll hs hpa
 go_enter Tryz.func87, Tryz.ntmps87
 go_wp2_with fail
 refine (unhide HP).mono ?_
 rintro r1 w1 ⟨a1, c1, z1, rfl, hcc, hz1, hf1, hk1, hpd⟩
 have hJ1 := (unhide HJ).frame hf1 hz1 (Nat.le_refl _) hk1
 obtain ⟨b, o, len, cap, k4, hvn, p0⟩ := hf1.size hJ1.bel (v := v) (unhide HY)
 obtain ⟨b1, o1, rfl, _, _, e0⟩ := hpd 0 _ rfl
 rw [Nat.add_zero] at e0
 have u1 : (0 : Int) ≤ (v : Int) := by omega
 have u2 : (v : Int) < (len : Int) := by omega
 have k0 := hf1.k0
 have k1 := hf1.k1
 rw [hz1] at k0 k1 k4
 have hen := fun (V : World) (hV : Below w1.heap.size w1 V) => vjend_any (N' := N + 1) (hJ1.below hV) z.bf f.fr f.fr.at_ 3 ((Xr.cell_kept (hV.block z.bf (World.block_lt_of_cell? w1 _ k0)) 0).trans k0) (unhide HSE) hle
 have HE := hide hen
 clear hf1 hz1 hk1 hJ1 hpd hen
 have g0 : decide (x < 0) = true := decide_eq_true hn
 go_upto_region 1 with fail
 go_quiet (fail)
 · go_wp2_with fail
   refine ((unhide HE) _ ?_).mono ?_
   · exact below_drewN (Below.refl _ _) _
   rintro r2 w2 ⟨rfl, hg2⟩
   have HG2 := hide hg2
   clear hg2
   go_wp2_with fail
   try simp only [Exit.inBlock, Exit.then]
   refine bodyPost_ret (results_none rfl _ _ _) rfl ?_
   exact ⟨rfl, unhide HG2⟩
theorem vput_hi {w0 W : World} {tg : Nat → Nat} {N bm : Nat} {c : Vm.Cx} {ss : List (List Int)} {s : Xr.S} {f : Vd.F} {z : Vm.Z} {r : List Vm.X} {rf ev : Value} {li : List Kd.I} {fs : List Int} (hc : Vd.Cd li fs ss) (hfo : Vd.FOk li ss f) (h : Vm.J w0 W tg N bm c ss s ((f, z) :: r) rf ev) (hs : s.ended = false) (hle : s.evs.length ≤ 1000000) (hN : N ≤ 1000000) {y : Int} {l : List Int} {v : Nat} (hy : (ss[f.fn]?.getD [])[v]? = some y) (hvl : f.fr.vs[v]? = some l) (hll : l.length = (max y 1).toNat) (h8 : 0 ≤ y ∧ y ≤ 8) {n x : Int} {q : List Int} (hp : f.pile = n :: x :: q) (hn : ¬ x < 0) (hn2 : y ≤ x) :
  Calls Tryz.prog 87 #[.pointer (some ⟨bm, 0, none⟩), .pointer (some ⟨z.bf, 0, none⟩), .int .i64 (v : Nat)] W fun rr W' => rr = .returned (.tuple #[]) ∧ Vm.Q w0 bm c ss (N + 1) (Vd.over (Xr.fin s f.fr f.fr.at_ 3)) W' := by
 have htop := hfo.top
 have hpa := vpopAll_any h.frs.1 2 (show 2 ≤ f.pile.length by rw [hp]; simp) (show f.pile.length ≤ 1000 by omega)
 rw [show ((f, z).1.pile.take 2).reverse = [x, n] by show (f.pile.take 2).reverse = _; rw [hp]; rfl, show (f, z).1.pile.drop 2 = q by show f.pile.drop 2 = q; rw [hp]; rfl] at hpa
 have HP := hide hpa
 have HJ := hide h
 have HY := hide hy
 have HSE := hide hs
 clear h hy hvl hll hs hpa
 go_enter Tryz.func87, Tryz.ntmps87
 go_wp2_with fail
 refine (unhide HP).mono ?_
 rintro r1 w1 ⟨a1, c1, z1, rfl, hcc, hz1, hf1, hk1, hpd⟩
 have hJ1 := (unhide HJ).frame hf1 hz1 (Nat.le_refl _) hk1
 obtain ⟨b, o, len, cap, k4, hvn, p0⟩ := hf1.size hJ1.bel (v := v) (unhide HY)
 obtain ⟨b1, o1, rfl, _, _, e0⟩ := hpd 0 _ rfl
 rw [Nat.add_zero] at e0
 have u1 : (0 : Int) ≤ (v : Int) := by omega
 have u2 : (v : Int) < (len : Int) := by omega
 have k0 := hf1.k0
 have k1 := hf1.k1
 rw [hz1] at k0 k1 k4
 have hen := fun (V : World) (hV : Below w1.heap.size w1 V) => vjend_any (N' := N + 1) (hJ1.below hV) z.bf f.fr f.fr.at_ 3 ((Xr.cell_kept (hV.block z.bf (World.block_lt_of_cell? w1 _ k0)) 0).trans k0) (unhide HSE) hle
 have HE := hide hen
 clear hf1 hz1 hk1 hJ1 hpd hen
 have g0 : decide (x < 0) = false := decide_eq_false (by omega)
 have g1 : decide (y ≤ x) = true := decide_eq_true hn2
 have g2 : ¬ x < 0 := by omega
 go_upto_region 1 with fail
 go_quiet (fail)
 · go_wp2_with fail
   refine ((unhide HE) _ ?_).mono ?_
   · exact below_drewN (Below.refl _ _) _
   rintro r2 w2 ⟨rfl, hg2⟩
   have HG2 := hide hg2
   clear hg2
   go_wp2_with fail
   try simp only [Exit.inBlock, Exit.then]
   refine bodyPost_ret (results_none rfl _ _ _) rfl ?_
   exact ⟨rfl, unhide HG2⟩
theorem vput_any {w0 W : World} {tg : Nat → Nat} {N bm : Nat} {c : Vm.Cx} {ss : List (List Int)} {s : Xr.S} {f : Vd.F} {z : Vm.Z} {r : List Vm.X} {rf ev : Value} {li : List Kd.I} {fs : List Int} (hc : Vd.Cd li fs ss) (hfo : Vd.FOk li ss f) (h : Vm.J w0 W tg N bm c ss s ((f, z) :: r) rf ev) (hs : s.ended = false) (hle : s.evs.length ≤ 1000000) (hN : N ≤ 1000000) {n x : Int} {q : List Int} (hp : f.pile = n :: x :: q) {v : Nat} (ha : Vd.arr (ss[f.fn]?.getD []) (v : Nat) = true) :
  Calls Tryz.prog 87 #[.pointer (some ⟨bm, 0, none⟩), .pointer (some ⟨z.bf, 0, none⟩), .int .i64 (v : Nat)] W fun rr W' => rr = .returned (.tuple #[]) ∧ Vm.Q w0 bm c ss (N + 1) (if Vd.has (ss[f.fn]?.getD []) (v : Nat) x then ⟨Xr.wrS s f.fr f.fr.at_ (v : Nat) x n, { f with fr := Xr.wrF f.fr (v : Nat) x n, pile := q } :: r.map Prod.fst, false⟩ else Vd.over (Xr.fin s f.fr f.fr.at_ 3)) W' := by
 obtain ⟨y, hy, hy0⟩ := Vm.arr_at ha
 obtain ⟨l, hvl, hll, h8⟩ := Vm.var hc hfo hy
 rw [Vm.has_iff hy]
 by_cases hin : 0 ≤ x ∧ x < y
 · obtain ⟨i, rfl⟩ : ∃ i : Nat, x = i := ⟨x.toNat, by omega⟩
   rw [if_pos (decide_eq_true hin)]
   exact vput_yes hc hfo h hs hle hN hy hvl hll h8 hp hin
 · rw [if_neg (by simpa using hin)]
   by_cases hn : x < 0
   · exact vput_lo hc hfo h hs hle hN hy hvl hll h8 hp hn
   · exact vput_hi hc hfo h hs hle hN hy hvl hll h8 hp hn (by omega)
end Go.Proofs.YtpfogjplnodacaaGreat
namespace Go.Proofs.YtpfogjplnodacaaGreat
open Go.RowKit Go.Maps
set_option linter.unusedVariables false
section
variable {w0 W W' : World} {tg tg' : Nat → Nat} {N d bm : Nat} {c : Vm.Cx} {ss : List (List Int)} {s : Xr.S} {f : Vd.F} {z : Vm.Z} {r : List Vm.X} {rf ev : Value}
theorem Vm.ps_cons (x : Vm.X) (r : List Vm.X) : Vm.ps (x :: r) = Vm.ps r ++ [.pointer (some ⟨x.2.bf, 0, none⟩)] := by
 unfold Vm.ps
 rw [List.map_cons, List.reverse_cons]
theorem Vm.ps_len (r : List Vm.X) : (Vm.ps r).length = r.length := by
 unfold Vm.ps
 rw [List.length_reverse, List.length_map]
theorem Vm.J.top (h : Vm.J w0 W tg N bm c ss s ((f, z) :: r) rf ev) : ∃ g cp, rf = .slice (some ⟨g, 0, none⟩) (r.length + 1) cp ∧ r.length + 1 ≤ cp ∧ W.cell? ⟨bm, 6, none⟩ = some (.slice (some ⟨g, 0, none⟩) (r.length + 1) cp) ∧ W.cell? ⟨g, r.length, none⟩ = some (.pointer (some ⟨z.bf, 0, none⟩)) ∧ cp ≤ maxLen ∧ W.frozen? ⟨bm, 6, none⟩ = false := by
 obtain ⟨t, hg⟩ := h.g
 have hr := hg.frr
 have k6 := hg.box.at_ 6 _ rfl
 rw [Vm.ps_cons, List.length_append, Vm.ps_len] at hr
 rcases hr.2 with ⟨h1, h2⟩ | ⟨g, cap, cur, hv, h1, h2, h3, h4, _⟩
 · simp at h2
 · have hv' : rf = .slice (some ⟨g, 0, none⟩) (r.length + 1) cap := hv
   have hr' : W.ownsRow w0.heap.size 50 1 (.slice (some ⟨g, 0, none⟩) (r.length + 1) cap) (r.length + 1) (Vm.ps r ++ [.pointer (some ⟨z.bf, 0, none⟩)]) := by rw [← hv']; exact hr
   refine ⟨g, cap, hv', h3, by rw [← hv']; exact k6, ?_, h4, hg.box.fz 6⟩
   rw [hr'.cellAt r.length (by omega), List.getElem?_append_right (by rw [Vm.ps_len]; exact Nat.le_refl _), Vm.ps_len, Nat.sub_self]
   rfl
theorem Vm.J.cut {g cp : Nat} (h : Vm.J w0 W tg N bm c ss s ((f, z) :: r) (.slice (some ⟨g, 0, none⟩) (r.length + 1) cp) ev) : Vm.J w0 (W.setCell ⟨bm, 6, none⟩ (.slice (some ⟨g, 0, none⟩) r.length cp)) tg N bm c ss s r (.slice (some ⟨g, 0, none⟩) r.length cp) ev ∧ Vm.K (fun j => j < 3) tg tg W (W.setCell ⟨bm, 6, none⟩ (.slice (some ⟨g, 0, none⟩) r.length cp)) := by
 obtain ⟨t, hg⟩ := h.g
 have k : Vm.K (fun j => j = 0) tg tg W (W.setCell ⟨bm, 6, none⟩ (.slice (some ⟨g, 0, none⟩) r.length cp)) := Vm.K.refl.set bm 6 _ (fun _ => hg.tb)
 have hr := hg.frr
 rw [Vm.ps_cons, List.length_append, Vm.ps_len] at hr
 have hcut := Vm.row_cut (ys := Vm.ps r) hr ⟨_, rfl⟩
 rw [Vm.ps_len] at hcut
 refine ⟨⟨⟨t, ⟨hg.belK k (by decide), hg.lo, hg.hbm, hg.tb, hg.box.set 6 _, hg.inp, Xr.ow_kept hg.evr (fun q hq => k.blk q (hg.evr.lt q hq).2 (by rw [hg.tev q hq]; decide)), hg.tev, ?_, fun q hq => hg.trf q hq⟩⟩, h.frs.2.keep k (fun j h1 _ => by omega)⟩, k.mono (fun j hj => by omega)⟩
 rw [Vm.ps_len]
 exact Xr.ow_kept hcut (fun q hq => k.blk q (hg.frr.lt q hq).2 (by rw [hg.trf q hq]; decide))
end
theorem vframe_any {w0 W : World} {tg : Nat → Nat} {N bm : Nat} {c : Vm.Cx} {ss : List (List Int)} {s : Xr.S} {f : Vd.F} {z : Vm.Z} {r : List Vm.X} {rf ev : Value} (h : Vm.J w0 W tg N bm c ss s ((f, z) :: r) rf ev) (hr : r.length ≤ 100) :
  Calls Tryz.prog 38 #[.pointer (some ⟨bm, 0, none⟩)] W fun rr W' => rr = .returned (.pointer (some ⟨z.bf, 0, none⟩)) ∧ ∃ m, W' = W.drewN m := by
 obtain ⟨g, cp, _, hcp, k6, p0, hcm, _⟩ := h.top
 generalize r.length = m at *
 have hw1 : IntKind.i64.wrap (((m + 1 : Nat) : Int) - 1) = (m : Int) := by rw [IntKind.wrap_i64]; omega
 have g1 : (0 : Int) ≤ (m : Int) := by omega
 have g2 : (m : Int) < ((m + 1 : Nat) : Int) := by omega
 have g3 : m < m + 1 := by omega
 clear h
 go_enter Tryz.func38, Tryz.ntmps38
 go_upto_region 1 with fail
 go_quiet (fail)
 go_wp2_with fail
 go_ret
 exact ⟨rfl, nq, rfl⟩
theorem vback_any {w0 W : World} {tg : Nat → Nat} {N bm : Nat} {c : Vm.Cx} {ss : List (List Int)} {s : Xr.S} {f f2 : Vd.F} {z z2 : Vm.Z} {r : List Vm.X} {rf ev : Value} (h : Vm.J w0 W tg N bm c ss s ((f, z) :: (f2, z2) :: r) rf ev) (hs : s.ended = false) (hle : s.evs.length ≤ 1000000) (hr : r.length ≤ 90) {n : Int} {q : List Int} (hp : f.pile = n :: q) (hp1 : f.pile.length ≤ 1000) (hp2 : f2.pile.length ≤ 1000) :
  Calls Tryz.prog 91 #[.pointer (some ⟨bm, 0, none⟩), .pointer (some ⟨z.bf, 0, none⟩)] W fun rr W' => rr = .returned (.tuple #[]) ∧ Vm.Q w0 bm c ss N ⟨Xr.tell s ⟨6, f.fr.num, f2.fr.at_, 0, 0, n⟩, { f2 with pile := n :: f2.pile } :: r.map Prod.fst, false⟩ W' := by
 have HP := hide (vpop_any h.frs.1 hp hp1)
 have HJ := hide h
 have HSE := hide hs
 have HTE := hide (show (Xr.tell s ⟨6, f.fr.num, f2.fr.at_, 0, 0, n⟩).ended = false by rw [Vd.tell_evs hs]; exact hs)
 clear h hs hp hp1
 go_enter Tryz.func91, Tryz.ntmps91
 go_wp2_with fail
 refine (unhide HP).mono ?_
 rintro r1 w1 ⟨z1, rfl, hz1, hf1, hk1⟩
 have hJ1 := (unhide HJ).frame hf1 hz1 (Nat.le_refl _) hk1
 obtain ⟨g, cp, rfl, hcp, k6, p0, hcm, f6⟩ := hJ1.top
 have hcut := hJ1.cut
 have k0 := hf1.k0
 rw [hz1] at k0
 have hbf : z.bf < w1.heap.size := World.block_lt_of_cell? w1 _ k0
 have hlen : ((f2, z2) :: r : List Vm.X).length = r.length + 1 := rfl
 rw [hlen] at k6 hcut hcp
 have hnum : (w1.setCell ⟨bm, 6, none⟩ (.slice (some ⟨g, 0, none⟩) (r.length + 1) cp)).cell? ⟨z.bf, 0, none⟩ = some (.int .i64 (f.fr.num : Nat)) := by
  obtain ⟨t, hg⟩ := hJ1.g
  have h1 := hf1.tb
  rw [hz1] at h1
  rw [Xr.cell_kept (Xr.set_other (fun e => by rw [e, hg.tb] at h1; omega)) 0]
  exact k0
 have HJ2 := hide hcut.1
 have HN := hide hnum
 have hbm1 : bm < w1.heap.size := by
  obtain ⟨t, hg⟩ := hJ1.g
  exact hg.box.lt
 clear hf1 hz1 hk1 hJ1 hcut p0 hnum k0
 have hm1 : r.length + 1 ≤ 91 := by omega
 generalize r.length + 1 = m at *
 have hw1 : IntKind.i64.wrap (((m + 1 : Nat) : Int) - 1) = (m : Int) := by rw [IntKind.wrap_i64]; omega
 have g1 : (0 : Int) ≤ (m : Int) := by omega
 have hw2 : IntKind.i64.wrap (m : Int) = (m : Int) := by rw [IntKind.wrap_i64]; omega
 have g2 : (m : Int) ≤ (cp : Int) := by omega
 have g3 : (m : Int) ≤ ((m + 1 : Nat) : Int) := by omega
 go_upto_region 1 with fail
 go_cut [] (fun V => V = (w1.setCell ⟨bm, 6, none⟩ (.slice (some ⟨g, 0, none⟩) m cp)).drew)
 case first =>
  go_region_law (fail)
  all_goals
   go_wp2_with fail
   go_meet
   case rel => rfl
 case rest =>
  subst hcut
  have hJ2 := (unhide HJ2).below (Below.refl _ _).drew
  have hN2 : (w1.setCell ⟨bm, 6, none⟩ (.slice (some ⟨g, 0, none⟩) m cp)).drew.cell? ⟨z.bf, 0, none⟩ = some (.int .i64 (f.fr.num : Nat)) := unhide HN
  generalize (w1.setCell ⟨bm, 6, none⟩ (.slice (some ⟨g, 0, none⟩) m cp)).drew = W3 at *
  have HF := hide (vframe_any hJ2 (by omega))
  have HJ3 := hide hJ2
  have HN3 := hide hN2
  clear hJ2 hN2 k6 f6 HJ2 HN
  go_wp2_with fail
  refine (unhide HF).mono ?_
  rintro r3 w3 ⟨rfl, nq, rfl⟩
  have hJ4 := (unhide HJ3).below (below_drewN (Below.refl _ W3) nq)
  have k1 := hJ4.frs.1.k1
  have HT := hide (vjtell_any hJ4 z.bf 6 f2.fr.at_ 0 0 n _ (unhide HN3) (unhide HSE) hle)
  clear hJ4
  go_wp2_with fail
  refine (unhide HT).mono ?_
  rintro r5 w5 ⟨rfl, tg5, ev5, hj5, hk5⟩
  have HPS := hide (vpush_any hj5.frs.1 hj5.bel.size n hp2)
  have HJ5 := hide hj5
  clear hj5 hk5
  go_wp2_with fail
  refine (unhide HPS).mono ?_
  rintro r6 w6 ⟨rfl, tg6, z6, hz6, hf6, hk6⟩
  have HJ6 := hide ((unhide HJ5).frame hf6 hz6 (Nat.le_refl _) hk6)
  clear hf6 hz6 hk6
  go_wp2_with fail
  go_end0
  exact ⟨rfl, Vm.Q.on (unhide HJ6) (unhide HTE) rfl⟩
end Go.Proofs.YtpfogjplnodacaaGreat
